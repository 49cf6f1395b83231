/- The walk of ImageWith. -/
import Derived.Test.YtadobhfmhcaofaaImW1
namespace Go.Proofs.Ytadobhfmhcaofaa.im
open Go Go.RowKit Go.ChangeShapes Go.WideShapes Go.Proofs.Ytadobhfmhcaofaa.ib
set_option maxRecDepth 100000

theorem ints_set {w : World} {b o : Nat} {ls : List Int} (h : IntsAt w (some ⟨b, o, none⟩) ls) {i : Nat} (hi : i < ls.length) {v : Int} (hv : i64B v) : IntsAt (w.setCell ⟨b, o + i, none⟩ (.int .i64 v)) (some ⟨b, o, none⟩) (ls.set i v) := by
  intro j hj
  have hj' : j < ls.length := by simpa using hj
  obtain ⟨b', o', h1, h2, h3, h4⟩ := h j hj'
  simp only [Option.some.injEq, Addr.mk.injEq, and_true] at h1
  obtain ⟨rfl, rfl⟩ := h1
  obtain ⟨b', o', h1', _, h3', _⟩ := h i hi
  simp only [Option.some.injEq, Addr.mk.injEq, and_true] at h1'
  obtain ⟨rfl, rfl⟩ := h1'
  refine ⟨b, o, rfl, by simp; exact h2, ?_, ?_⟩
  · by_cases e : i = j
    · subst e
      rw [World.cell?_setCell_same' _ _ _ (by rw [h3']; rfl), List.getElem_set_self]
    · rw [World.cell?_setCell_other (h := by intro e'; injection e' with _ e'; omega), h3, List.getElem_set_ne e]
  · by_cases e : i = j
    · subst e
      rw [List.getElem_set_self]
      exact hv
    · rw [List.getElem_set_ne e]
      exact h4

/-- So many places are spoilt. -/
def SpRel (n : Nat) (A : Option Addr) (w0 : World) (i : Value) (wr : World) : Prop :=
  ∃ (k : Nat) (ls : List Int), k ≤ n ∧ i = .int .i64 (k : Int) ∧ ls.length = n ∧ IntsAt wr A ls ∧ (∀ i, i < n → ∀ b o, A = some ⟨b, o, none⟩ → wr.frozen? ⟨b, o + i, none⟩ = false) ∧ But (fun j => ∃ o, A = some ⟨j, o, none⟩) w0 wr

set_option maxHeartbeats 3200000 in
theorem imageWith_walk (HC : HCheck) (HD : HDiff) (HW : HWith) (A : Option Addr) (c : Nat) (l : List Int) (b : Int) (hb : (Lit.int .i64 b).wf = true) (s : Int) (hs : (Lit.int .i64 s).wf = true) (w : World)
    (hl : (l.length ≤ 9223372036854775807 ∧ l.length ≤ c) ∧ (A = none → l.length = 0 ∧ c = 0)) (hT : IntsAt w A l) :
    Calls Try.prog 5 #[.slice A l.length c, .int .i64 b, .int .i64 s] w (endB true w) := by
  have HO := Lib.hid (own_new A c l w hl hT)
  have HWK := Lib.hid (fun W => works_any HC HD HW W)
  have HW' := Lib.hid HW
  have HBB := Lib.hid (bounds_i64 hb : i64B b)
  have HSB := Lib.hid (bounds_i64 hs : i64B s)
  have hl60 : (l.take 60).length ≤ 60 := by rw [List.length_take]; omega
  clear hl hT HC HD HW hb hs
  go_enter Try.func5, Try.ntmps5
  go_wp2_with fail
  refine HO.out.mono ?_
  rintro e W1 ⟨A1, c1, rfl, hn1, b1⟩
  have S1 := Lib.hid hn1.sl
  have B1 := Lib.hid b1
  clear hn1 b1 HO
  generalize l.take 60 = z at *
  dsimp only
  have hown := own_new A1 c1 z W1 ⟨⟨by omega, S1.out.cap⟩, S1.out.nil⟩ S1.out.ints
  rw [List.take_of_length_le hl60] at hown
  have HOWN := Lib.hid hown
  clear hown
  go_wp2_with fail
  refine HOWN.out.mono ?_
  rintro e W2 ⟨A2, c2, rfl, hn2, b2⟩
  have S2 := Lib.hid hn2.sl
  have S1b := Lib.hid (S1.out.below b2)
  have B2 := Lib.hid (below_step B1.out b2)
  clear hn2 b2 HOWN S1 B1
  dsimp only
  have hwl := iWith_len z b s
  have C1 := Lib.hid (HW'.out A1 c1 z b s W2 S1b.out (by omega) HBB.out HSB.out)
  have C2 := Lib.hid (fun W (h : SlAt W A1 z c1) => rwith_any A1 c1 z b s W h.ints (by omega) HSB.out)
  generalize iWith z b s = r at *
  obtain ⟨r, ee⟩ := r
  dsimp only at hwl
  have hee : (ee != ee) = false := by simp
  go_wp2_with fail
  refine C1.out.mono ?_
  rintro e W3 ⟨A3, c3, rfl, hn3, b3⟩
  have N3 := Lib.hid hn3
  have S1c := Lib.hid (S1b.out.below b3)
  have B23 := Lib.hid b3
  clear hn3 b3 C1
  dsimp only
  go_wp2_with fail
  refine (C2.out W3 S1c.out).mono ?_
  rintro e W4 ⟨A4, c4, rfl, hn4, b4⟩
  have S4 := Lib.hid hn4.sl
  have S3d := Lib.hid (N3.out.sl.below b4)
  have B24 := Lib.hid (below_step B23.out b4)
  have B34 := Lib.hid b4
  clear hn4 b4 S1c C2 B23
  dsimp only
  go_wp2_with fail
  refine (rints_any A3 A4 c3 c4 r r W4 S3d.out.ints S4.out.ints (by omega)).mono ?_
  rintro e W5 ⟨rfl, b5⟩
  rw [decide_eq_true (rfl : r = r)]
  have S3e := Lib.hid (S3d.out.below b5)
  have B25 := Lib.hid (below_step B24.out b5)
  have B35 := Lib.hid (below_step B34.out b5)
  clear b5 S3d S4 B24 B34
  have FZ : Hid (∀ i, i < r.length → ∀ b o, A3 = some ⟨b, o, none⟩ → W5.frozen? ⟨b, o + i, none⟩ = false) := fun i hi b o hA => by
    have h1 := N3.out.free i hi b o hA
    have h2 := (N3.out.new b o hA).2
    have h3 := B35.out.block b h2
    unfold World.frozen? at h1 ⊢
    rw [h3]
    exact h1
  obtain ⟨N, hN⟩ : ∃ n, r.length = n := ⟨_, rfl⟩
  have hN60 : N ≤ 60 := by omega
  have HN := Lib.hid hN
  rw [hN] at FZ
  have hrn : Hid (∀ (W : World), W = W) := fun _ => rfl
  clear hwl
  rw [hN]
  clear hN
  go_wp2_with fail
  go_loopw [12] (fun i wr => SpRel N A3 W5 i wr) (fun i _ => N - (intOf i).toNat)
  case atStart => exact ⟨0, r, Nat.zero_le _, rfl, HN.out, S3e.out.ints, FZ.out, But.refl _ _⟩
  case round =>
    obtain ⟨k, ls, hk, rfl, hls, hi, hf, hbt⟩ := hrel
    have HLS := Lib.hid hls
    have HI := Lib.hid hi
    have HF := Lib.hid hf
    have HBT := Lib.hid hbt
    clear hls hi hf hbt
    by_cases hlt : k < N
    · have hklt : (k : Int) < (N : Int) := by omega
      obtain ⟨bb, o, rfl, hbl, hc, hz⟩ := HI.out k (by rw [HLS.out]; exact hlt)
      have hfz := HF.out k hlt bb o rfl
      have hset := ints_set HI.out (i := k) (by rw [HLS.out]; exact hlt) (v := -7) (by unfold i64B; omega)
      have HSET := Lib.hid hset
      have HF2 : Hid (∀ i, i < N → ∀ b' o', (some ⟨bb, o, none⟩ : Option Addr) = some ⟨b', o', none⟩ → (wr.setCell ⟨bb, o + k, none⟩ (.int .i64 (-7))).frozen? ⟨b', o' + i, none⟩ = false) := fun i hi b' o' h => by
        rw [World.frozen?_setCell]
        exact HF.out i hi b' o' h
      have HBT2 := Lib.hid (HBT.out.setCell ⟨bb, o + k, none⟩ (.int .i64 (-7)) (.inl ⟨o, rfl⟩))
      clear hset hz
      go_wp2_with fail
      go_roundw
      case rel => exact ⟨k + 1, ls.set k (-7), by omega, by go_num, by rw [List.length_set]; exact HLS.out, HSET.out, HF2.out, HBT2.out⟩
      case measure => simp [intOf]; omega
    · have hklt : ¬ (k : Int) < (N : Int) := by omega
      have hbl : Below W2.heap.size W2 wr := B25.out.trans (HBT.out.below (fun i h => by obtain ⟨o, h⟩ := h; exact (N3.out.new i o h).1) B25.out.size)
      have S1f := Lib.hid (S1b.out.below hbl)
      have S2f := Lib.hid (S2.out.below hbl)
      have BF := Lib.hid (below_step B2.out hbl)
      clear hbl
      go_wp2_with fail
      refine (rints_any A1 A2 c1 c2 z z wr S1f.out.ints S2f.out.ints (by omega)).mono ?_
      rintro e W7 ⟨rfl, b7⟩
      rw [decide_eq_true (rfl : z = z)]
      have B7 := Lib.hid (below_step BF.out b7)
      clear b7
      go_wp2_with fail
      refine (HWK.out W7).mono ?_
      rintro e W8 ⟨rfl, b8⟩
      have B8 := Lib.hid (below_step B7.out b8)
      clear b8
      go_wp2_with fail
      go_ret
      exact ⟨rfl, B8.out⟩
end Go.Proofs.Ytadobhfmhcaofaa.im

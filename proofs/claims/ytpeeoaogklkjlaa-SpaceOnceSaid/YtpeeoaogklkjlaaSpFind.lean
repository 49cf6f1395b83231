/- The function that finds one free sector behind the other. -/
import Derived.Test.YtpeeoaogklkjlaaSpHyp
import Derived.Deep.QuietTactic
import Derived.BigQuiet
namespace Go.Proofs.Ytpeeoaogklkjlaa.sp
open Go Go.RowKit Go.Proofs.Ytpeeoaogklkjlaa.ib
set_option maxRecDepth 100000

/-- The finder's two variables: the counts, and the first sector that was not looked at. -/
structure FindAt (w0 w : World) (B0 B1 : Nat) (A : Option Addr) (c : Nat) (cs : List Int) (k : Nat) : Prop where
  box : Blk w B0 23 #[.slice A cs.length c]
  at_ : Blk w B1 3 #[.int .i64 (k : Int)]
  low : w0.heap.size ≤ B0
  lt : B0 < B1
  k1 : 193 ≤ k
  k2 : k ≤ cs.length ∨ k = 193
  below : Below w0.heap.size w0 w

def fFind (B0 B1 : Nat) : Value := .func (.func 19) #[] #[.pointer (some ⟨B1, 0, none⟩), .pointer (some ⟨B0, 0, none⟩)]

/-- One more free sector, or none. -/
def FindPost (w0 : World) (B0 B1 : Nat) (A : Option Addr) (c : Nat) (cs : List Int) (k : Nat) (w : World) (e : Ending) (w' : World) : Prop :=
  But (fun j => j = B1) w w' ∧
  ((∃ t : Nat, t < cs.length ∧ frees cs (t + 1) = frees cs k ++ [(t : Int)] ∧ e = .returned (.tuple #[.int .i64 (t : Int), .bool true]) ∧ FindAt w0 w' B0 B1 A c cs (t + 1)) ∨
   (sFree cs = (frees cs k).length ∧ e = .returned (.tuple #[.int .i64 0, .bool false])))

def cellOf (w : World) (B : Nat) : Nat := match w.cell? ⟨B, 0, none⟩ with
  | some (.int _ z) => z.toNat
  | _ => 0
theorem cellOf_at {w : World} {B k : Nat} {t : TypeId} (h : Blk w B t #[.int .i64 (k : Int)]) : cellOf w B = k := by
  unfold cellOf
  rw [h.cell 0]
  simp

theorem FindAt.move {w0 w w' : World} {B0 B1 : Nat} {A : Option Addr} {c : Nat} {cs : List Int} {k k' : Nat} (h : FindAt w0 w B0 B1 A c cs k) (hb : But (fun j => j = B1) w w') (ha : Blk w' B1 3 #[.int .i64 (k' : Int)]) (h1 : 193 ≤ k') (h2 : k' ≤ cs.length ∨ k' = 193) : FindAt w0 w' B0 B1 A c cs k' :=
  ⟨h.box.of_block (hb.block _ h.box.lt (Nat.ne_of_lt h.lt)), ha, h.low, h.lt, h1, h2, (h.below).trans (hb.below (fun i e => by rw [e]; have := h.low; have := h.lt; omega) h.below.size)⟩

def NextRel (w0 w : World) (B0 B1 : Nat) (A : Option Addr) (c : Nat) (cs : List Int) (k : Nat) (wr : World) : Prop :=
  ∃ j : Nat, FindAt w0 wr B0 B1 A c cs j ∧ frees cs j = frees cs k ∧ But (fun i => i = B1) w wr

theorem free_done {cs : List Int} {k : Nat} (h : k ≤ cs.length ∨ k = 193) (he : cs.length ≤ k) : sFree cs = (frees cs k).length := by
  rcases h with h | h
  · rw [show k = cs.length by omega]
    rfl
  · unfold sFree
    rw [h, frees_low cs 193 (by omega), frees_low cs cs.length (by omega)]

set_option maxHeartbeats 3200000 in
theorem find_any {w0 w : World} {B0 B1 : Nat} {A : Option Addr} {c : Nat} {cs : List Int} {k : Nat} (h : FindAt w0 w B0 B1 A c cs k) (hA : IntsAt w0 A cs) (hl : cs.length ≤ 9223372036854775807) :
    Calls Try.prog 19 #[.pointer (some ⟨B1, 0, none⟩), .pointer (some ⟨B0, 0, none⟩)] w (FindPost w0 B0 B1 A c cs k w) := by
  have HF := Lib.hid h
  have HA := Lib.hid hA
  clear h hA
  go_enter Try.func19, Try.ntmps19
  go_wp2_with fail
  go_loopw [] (fun wr => NextRel w0 w B0 B1 A c cs k wr) (fun wr => cs.length - cellOf wr B1)
  case atStart => exact ⟨k, HF.out, rfl, But.refl _ _⟩
  case round =>
    obtain ⟨j, hf, hfr, hb⟩ := hrel
    have HFR := Lib.hid hfr
    have HB := Lib.hid hb
    have HFJ := Lib.hid hf
    have q0 : wr.cell? ⟨B0, 0, none⟩ = some (.slice A cs.length c) := hf.box.cell 0
    have q1 : wr.cell? ⟨B1, 0, none⟩ = some (.int .i64 (j : Int)) := hf.at_.cell 0
    have l0 := hf.box.lt
    have l1 := hf.at_.lt
    have f1 := hf.at_.frozen 0
    have hne := Nat.ne_of_lt hf.lt
    have hk1 := hf.k1
    have hk2 := hf.k2
    clear hf hfr hb HF
    by_cases hlt : j < cs.length
    · obtain ⟨b, o, rfl, hbl, hc, hz⟩ := HA.out j hlt
      have hjlt : (j : Int) < (cs.length : Int) := by omega
      have hg : cs.getD j 0 = cs[j] := by simp [List.getD, hlt]
      have hs := frees_succ cs j
      rw [hg] at hs
      have HS := Lib.hid hs
      have ec : wr.cell? ⟨b, o + j, none⟩ = some (.int .i64 cs[j]) := by rw [HFJ.out.below.cell (p := ⟨b, o + j, none⟩) hbl]; exact hc
      have lb : b < B0 := Nat.lt_of_lt_of_le hbl HFJ.out.low
      have hbk : Hid (Blk (wr.setCell ⟨B1, 0, none⟩ (.int .i64 (((j + 1 : Nat)) : Int))) B1 3 #[.int .i64 ((j + 1 : Nat) : Int)]) := by
        have h := HFJ.out.at_.set_ 0 (.int .i64 ((j + 1 : Nat) : Int))
        exact h
      have hbb : Hid (But (fun i => i = B1) w (wr.setCell ⟨B1, 0, none⟩ (.int .i64 (((j + 1 : Nat)) : Int)))) := HB.out.setCell ⟨B1, 0, none⟩ _ (.inl rfl)
      have hbj : Hid (But (fun i => i = B1) wr (wr.setCell ⟨B1, 0, none⟩ (.int .i64 (((j + 1 : Nat)) : Int)))) := (But.refl _ _).setCell ⟨B1, 0, none⟩ _ (.inl rfl)
      have ej : ((j + 1 : Nat) : Int) = (j : Int) + 1 := by omega
      rw [ej] at hbk hbb hbj
      clear hs hg hc hz
      generalize cs[j] = x at *
      by_cases hx : x = 0
      · subst hx
        have hs := HS.out
        rw [if_pos ⟨hk1, rfl⟩] at hs
        have HS2 := Lib.hid hs
        clear hs
        go_wp2_with fail
        go_ret2
        exact ⟨hbb.out, .inl ⟨j, hlt, by rw [HS2.out, HFR.out], rfl, HFJ.out.move hbj.out (by rw [ej]; exact hbk.out) (by omega) (by omega)⟩⟩
      · have hxb : (x == 0) = false := by simpa using hx
        have hs := HS.out
        rw [if_neg (fun h => hx h.2), List.append_nil] at hs
        have HS2 := Lib.hid hs
        have hm : Hid (cellOf wr B1 = j) := cellOf_at HFJ.out.at_
        have hm2 : Hid (cellOf (wr.setCell ⟨B1, 0, none⟩ (.int .i64 ((j : Int) + 1))) B1 = j + 1) := by
          refine cellOf_at (t := 3) ?_
          rw [ej]
          exact hbk.out
        clear hs
        go_wp2_with fail
        refine ⟨⟨j + 1, HFJ.out.move hbj.out (by rw [ej]; exact hbk.out) (by omega) (by omega), by rw [HS2.out, HFR.out], hbb.out⟩, ?_⟩
        rw [hm.out, hm2.out]
        omega
    · have hjlt : ¬ (j : Int) < (cs.length : Int) := by omega
      have HD := Lib.hid (free_done hk2 (show cs.length ≤ j by omega))
      go_wp2_with fail
      go_ret2
      exact ⟨HB.out, .inr ⟨by rw [HD.out, HFR.out], rfl⟩⟩

theorem finder_any (A : Option Addr) (c : Nat) (cs : List Int) (w0 w : World) (hb : Below w0.heap.size w0 w) :
    Calls Try.prog 17 #[.slice A cs.length c] w fun e w' => e = .returned (fFind w.heap.size (w.heap.size + 1)) ∧ FindAt w0 w' w.heap.size (w.heap.size + 1) A c cs 193 ∧ Below w.heap.size w w' := by
  go_enter Try.func17, Try.ntmps17
  go_wp2_with fail
  go_ret
  have h0 : Blk (w.alloc (.cells #[.slice A cs.length c] 23)) w.heap.size 23 #[.slice A cs.length c] := Blk.new _ _ _
  have h1 : Blk ((w.alloc (.cells #[.slice A cs.length c] 23)).alloc (.cells #[.int .i64 193] 3)) (w.alloc (.cells #[.slice A cs.length c] 23)).heap.size 3 #[.int .i64 ((193 : Nat) : Int)] := Blk.new _ _ _
  have b1 := ((Below.refl w.heap.size w).alloc (Nat.le_refl _) (.cells #[.slice A cs.length c] 23)).alloc (by simp) (.cells #[.int .i64 193] 3)
  rw [World.size_alloc] at h1
  exact ⟨rfl, ⟨h0.of_block (Below.heap_alloc _ _ _ h0.lt), h1, hb.size, by omega, by omega, .inr rfl, below_step hb b1⟩, b1⟩
end Go.Proofs.Ytpeeoaogklkjlaa.sp

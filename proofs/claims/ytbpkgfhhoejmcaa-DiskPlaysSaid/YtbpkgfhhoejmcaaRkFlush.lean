/- What Flush of the document's disk does. -/
import Derived.Test.YtbpkgfhhoejmcaaRkWrite
import Derived.Test.YtbpkgfhhoejmcaaDkWrite2
import Derived.LoopTactic
namespace Go.Proofs.Ytbpkgfhhoejmcaa.dk
open Go Go.RowKit

theorem wRow_at : ∀ (l : List (Nat × Bt)) (k : Nat) (h : k < l.length), (wRow l)[k * 2]? = some (.int .i64 (l[k].1 : Int)) ∧ (wRow l)[k * 2 + 1]? = some (.string (str l[k].2))
  | x :: r, 0, _ => ⟨rfl, rfl⟩
  | x :: r, k + 1, h => by
    have ih := wRow_at r k (by simpa using h)
    have e : wRow (x :: r) = .int .i64 (x.1 : Int) :: .string (str x.2) :: wRow r := rfl
    rw [e, show (k + 1) * 2 = k * 2 + 1 + 1 from by omega]
    simpa using ih

theorem wRow_length (l : List (Nat × Bt)) : (wRow l).length = l.length * 2 := by
  induction l with
  | nil => rfl
  | cons x r ih =>
    have e : wRow (x :: r) = .int .i64 (x.1 : Int) :: .string (str x.2) :: wRow r := rfl
    rw [e]
    simp only [List.length_cons, ih]
    omega

def WritesB (w : World) (A : Option Addr) (l : List (Nat × Bt)) : Prop :=
  ∀ k (h : k < l.length), ∃ g, A = some ⟨g, 0, none⟩ ∧ g < w.heap.size ∧ w.cell? ⟨g, k * 2, none⟩ = some (.int .i64 (l[k].1 : Int)) ∧ w.cell? ⟨g, k * 2 + 1, none⟩ = some (.string (str l[k].2))

theorem writes_view {w : World} {v : Value} {l : List (Nat × Bt)} (h : w.ownsRow 0 73 2 v l.length (wRow l)) : ∃ A c, v = .slice A l.length c ∧ WritesB w A l := by
  rcases h.2 with ⟨rfl, h0⟩ | ⟨g, cap, cur, rfl, hg, hh, hc, hm, hcs, _⟩
  · obtain rfl : l = [] := List.length_eq_zero_iff.1 h0
    exact ⟨none, 0, rfl, fun i hi => absurd hi (by simp)⟩
  · have hlt : g < w.heap.size := (Array.getElem?_eq_some_iff.1 hh).1
    refine ⟨some ⟨g, 0, none⟩, cap, rfl, ?_⟩
    intro k hk
    obtain ⟨e1, e2⟩ := wRow_at l k hk
    have c1 := World.ownsRow.cellAt h (k * 2) (by omega)
    have c2 := World.ownsRow.cellAt h (k * 2 + 1) (by omega)
    rw [e1] at c1
    rw [e2] at c2
    exact ⟨g, rfl, hlt, c1, c2⟩

def RFlRel (W : World) (gb : Nat) (base : Sects) (more : List (Nat × Bt)) (i : Value) (wr : World) : Prop :=
  ∃ k : Nat, k ≤ more.length ∧ i = .int .i64 (k : Int) ∧ But (fun j => j = gb) W wr ∧ StrsB wr gb (play base (more.take k))

section
variable {w : World} {own : Nat → Prop} {p gb cb gn cn : Nat} {v : Value} {d : DD}

theorem rflush_off {most : Nat} (h : RkIs most w own p d) (hon : d.on = false) :
    Calls Try.prog 29 #[.pointer (some ⟨p, 0, none⟩)] w (RkPost most own p d (.int .i64 6) w) := by
  have H := Lib.hid h
  obtain ⟨h0, gb, cb, gn, cn, v, h1⟩ := h
  obtain ⟨c0, c1, c2, c3, c4, c5, c6, c7⟩ := blk8 h1.blk
  rw [hon] at c7
  clear h0 h1 c0 c1 c2 c3 c4 c5 c6 hon
  go_enter Try.func29, Try.ntmps29
  go_wp2_with fail
  go_ret
  exact ⟨rfl, own, H.out, But.refl _ _, Grows.refl _ _⟩

theorem rflush_gone {most : Nat} (h : RkIs most w own p d) (hon : d.on = true) (hop : d.oper.on = false) :
    Calls Try.prog 29 #[.pointer (some ⟨p, 0, none⟩)] w (RkPost most own p d.oper (.int .i64 6) w) := by
  have HO := Lib.hid (roper_any h hon)
  rw [hop] at HO
  obtain ⟨h0, gb, cb, gn, cn, v, h1⟩ := h
  obtain ⟨c0, c1, c2, c3, c4, c5, c6, c7⟩ := blk8 h1.blk
  rw [hon] at c7
  clear h0 h1 c0 c1 c2 c3 c4 c5 c6 hon hop
  go_enter Try.func29, Try.ntmps29
  go_wp2_with fail
  refine HO.out.mono ?_
  rintro e w3 ⟨rfl, own3, hd3, hb3, hg3⟩
  go_wp2_with fail
  go_ret
  exact ⟨rfl, own3, hd3, hb3, hg3⟩

set_option maxRecDepth 100000 in
set_option maxHeartbeats 1600000 in
theorem rflush_done {most : Nat} (h : RkIs most w own p d) (hmost : most ≤ 100000) (hon : d.on = true) (hop : d.oper.on = true) :
    Calls Try.prog 29 #[.pointer (some ⟨p, 0, none⟩)] w (RkPost most own p { d.oper with base := d.now, more := [] } (.int .i64 0) w) := by
  have HO := Lib.hid (roper_any h hon)
  rw [hop] at HO
  obtain ⟨h0, gb, cb, gn, cn, v, h1⟩ := h
  have HN := Lib.hid h0.n1
  obtain ⟨c0, c1, c2, c3, c4, c5, c6, c7⟩ := blk8 h1.blk
  rw [hon] at c7
  clear h0 h1 c0 c1 c2 c3 c4 c5 c6 hon hop
  go_enter Try.func29, Try.ntmps29
  go_wp2_with fail
  refine HO.out.mono ?_
  rintro e w3 ⟨rfl, own3, ⟨h30, gb, cb, gn, cn, v, h31⟩, hb3, hg3⟩
  have H30 := Lib.hid h30
  have H31 := Lib.hid h31
  have hml : d.oper.more.length ≤ 100000 := Nat.le_trans h30.more1 hmost
  have HB3 := Lib.hid hb3
  have HG3 := Lib.hid hg3
  obtain ⟨A, c, hA, hw⟩ := writes_view h31.more
  have HW := Lib.hid hw
  subst hA
  clear h30 h31 hb3 hg3 HO c7 hw
  go_wp2_with fail
  go_loopw [3] (fun i wr => RFlRel w3 gb d.oper.base d.oper.more i wr) (fun i _ => d.oper.more.length - (intOf i).toNat)
  case atStart => exact ⟨0, Nat.zero_le _, rfl, But.refl _ _, H31.out.base⟩
  case round =>
    obtain ⟨k, hk, rfl, hB, hS⟩ := hrel
    have HB := Lib.hid hB
    have HS := Lib.hid hS
    have HP : Hid (Blk wr p 49 _) := H31.out.blk.of_block (hB.block p (H31.out.low _ H31.out.op) H31.out.pb)
    have d2 := HP.out.cell 2
    have d5 := HP.out.cell 5
    have hp := HP.out.lt
    have hgb := hS.lt
    have hsl : (play d.oper.base (d.oper.more.take k)).length = d.oper.n := play_length _ _
    have HSL := Lib.hid hsl
    clear hB hS hsl
    by_cases hlt : k < d.oper.more.length
    · obtain ⟨g, hA, hg, hm0, hm1⟩ := HW.out k hlt
      subst hA
      have hgo : g ≠ gb := H31.out.vb g rfl
      have hgw : g < wr.heap.size := Nat.lt_of_lt_of_le hg HB.out.size
      have m0 : wr.cell? ⟨g, k * 2, none⟩ = some (.int .i64 (d.oper.more[k].1 : Int)) := (World.cell?_of_block (a := ⟨g, k * 2, none⟩) (HB.out.block g hg hgo)).trans hm0
      have m1 : wr.cell? ⟨g, k * 2 + 1, none⟩ = some (.string (str d.oper.more[k].2)) := (World.cell?_of_block (a := ⟨g, k * 2 + 1, none⟩) (HB.out.block g hg hgo)).trans hm1
      have hat := H30.out.at1 _ (List.getElem_mem hlt)
      have htk : d.oper.more.take (k + 1) = d.oper.more.take k ++ [(d.oper.more[k].1, d.oper.more[k].2)] := List.take_succ_eq_append_getElem hlt
      have HTK := Lib.hid htk
      have hk1 : (k : Int) < (d.oper.more.length : Int) := by omega
      generalize d.oper.more[k].1 = a at *
      generalize d.oper.more[k].2 = x at *
      have i0 : (0 : Int) ≤ (a : Int) := by omega
      have i1 : (a : Int) < (d.oper.n : Int) := by have := hat.1; omega
      have hx := Lib.hid hat.2
      have ha := Lib.hid hat.1
      have fa := HS.out.frozen a
      have ca := HS.out.cell a (by rw [HSL.out]; exact ha.out)
      generalize sStr _ = S at ca
      clear hm0 hm1 hat htk hgo
      go_wp2_with fail
      refine wp_region_still_w 21 (by kernel_rfl) (by kernel_rfl) ?_
      simp only [List.take_succ_cons, List.take_zero, List.drop_succ_cons, List.drop_zero]
      iterate 21 still_step
      refine wpStill_nil ?_
      go_wp2_with fail
      go_roundw
      case rel => exact ⟨k + 1, by omega, by go_num, (HB.out.drew).setCell _ _ (.inl rfl), by rw [HTK.out, play_snoc]; exact StrsB.set_ (HS.out.of_block rfl) a (by rw [HSL.out]; exact ha.out) x⟩
      case measure => simp [intOf]; omega
    · have hke : k = d.oper.more.length := by omega
      have hk1 : ¬ (k : Int) < (d.oper.more.length : Int) := by omega
      have f5 := HP.out.frozen 5
      go_wp2_with fail
      go_ret
      rw [hke, List.take_length] at HS
      have hnw : play d.oper.base d.oper.more = d.now := oper_now d
      have hnow : (DD.now { d.oper with base := d.now, more := [] }) = d.oper.now := (oper_now d).symm
      have hn2 : (DD.n { d.oper with base := d.now, more := [] }) = d.oper.n := by show d.now.length = _; rw [d.now_length, oper_n]
      rw [hnw] at HS
      refine ⟨rfl, own3, ⟨?_, gb, cb, gn, cn, .slice none 0 0, ?_⟩, HB3.out.trans ((HB.out.mono (S' := own3) (fun j hj => by rw [hj]; exact H31.out.ob)).setCell _ _ (.inl H31.out.op)) (fun j hj => HG3.out j hj), HG3.out⟩
      · refine { H30.out with n0 := ?_, n1 := ?_, more1 := Nat.zero_le _, at1 := fun x hx => by simp at hx, base1 := fun u hu => H30.out.now1 u (by rw [oper_now]; exact hu) }
        · rw [hn2]; exact H30.out.n0
        · rw [hn2]; exact H30.out.n1
      · have hpn := H31.out.pn
        have hbn := H31.out.bn
        refine ⟨?_, ?_, ?_, ⟨rfl, .inl ⟨rfl, rfl⟩⟩, H31.out.op, H31.out.ob, H31.out.on_, fun j hj => by simp [Value.ownBlock] at hj, hbn, fun j hj => ?_⟩
        · rw [hn2, show (DD.used { d.oper with base := d.now, more := [] }) = d.oper.used from by unfold DD.used; rw [hnow]]
          exact HP.out.set_ 5 _
        · exact HS.out.of_block (set_other _ _ _ _ _ H31.out.pb.symm)
        · rw [hnow]
          exact (H31.out.now.of_block (HB.out.block gn (H31.out.low _ H31.out.on_) hbn.symm)).of_block (set_other _ _ _ _ _ hpn.symm)
        · have := H31.out.low j hj
          have := HB.out.size
          rw [size_set]
          omega

theorem rflush_any {most : Nat} (h : RkIs most w own p d) (hmost : most ≤ 100000) :
    Calls Try.prog 29 #[.pointer (some ⟨p, 0, none⟩)] w (RkPost most own p d.flush.2 (.int .i64 d.flush.1) w) := by
  unfold DD.flush
  by_cases h1 : d.on = false
  · rw [if_pos h1]
    exact rflush_off h h1
  · rw [if_neg h1]
    have hon : d.on = true := by simpa using h1
    by_cases h2 : d.oper.on = false
    · rw [if_pos h2]
      exact rflush_gone h hon h2
    · rw [if_neg h2]
      exact rflush_done h hmost hon (by simpa using h2)
end
end Go.Proofs.Ytbpkgfhhoejmcaa.dk

/- LgFold, LgFold2, LgRFold. -/
import Derived.Test.YtnnjcabgaefhcaaQ1
import Derived.Laws.EntriesVeiled
import Derived.Laws.AppendOwnNone
set_option linter.unusedVariables false
set_option linter.unusedSimpArgs false
/- What the first entries of a log say: the program's answer. -/
namespace Go.Proofs.Ytnnjcabgaefhcaa.lg
open Go Go.RowKit Go.Sort Go.Proofs.Ytnnjcabgaefhcaa.ib
set_option maxRecDepth 100000

/-- What says answers: a closure that knows the entry's block b; or one that knows nothing. -/
def sayF (x : En) (b : Nat) : Value :=
  if x.k = 1 then .func (.func 45) #[] #[.pointer (some ⟨b, 0, none⟩)]
  else if x.k = 2 then .func (.func 46) #[] #[.pointer (some ⟨b, 0, none⟩)]
  else if x.k = 3 then .func (.func 47) #[] #[.pointer (some ⟨b, 0, none⟩)]
  else .func (.func 49) #[] #[]
def endF (x : En) (w : World) (e : Ending) (w' : World) : Prop := e = .returned (sayF x w.heap.size) ∧ w' = w.alloc (.cells (enV x).toArray 35)
set_option maxHeartbeats 3200000 in
theorem says_any (x : En) (w : World) : Calls Try.prog 42 #[ev x] w (endF x w) := by
  have hmf : ∀ (fn : Fn) (first cap : Array Value) (w : World), (Instr.makeFunc fn first cap).run Try.prog w = .ok (.func fn first cap) w := fun _ _ _ _ => rfl
  obtain ⟨t, k, e, c⟩ := x
  show Calls Try.prog 42 #[.agg #[.int .u64 (t : Int), .int .i64 k, .int .u64 (e : Int), .int .u64 (c : Int)]] w _
  obtain ⟨R, hR⟩ : ∃ R, sayF ⟨t, k, e, c⟩ w.heap.size = R := ⟨_, rfl⟩
  have HW : Hid (endF ⟨t, k, e, c⟩ w = fun e' w' => e' = .returned R ∧ w' = w.alloc (.cells #[.int .u64 (t : Int), .int .i64 k, .int .u64 (e : Int), .int .u64 (c : Int)] 35)) := by
    unfold Hid endF
    rw [hR]
    rfl
  rw [HW.out]
  unfold sayF at hR
  dsimp only at hR
  generalize (t : Int) = T at *
  generalize (e : Int) = E at *
  generalize (c : Int) = C at *
  clear HW
  by_cases h1 : k = 1
  · rw [if_pos h1] at hR
    subst h1
    have HR := Lib.hid hR
    clear hR
    go_enter Try.func42, Try.ntmps42
    go_wp2_with fail
    go_ret
    exact ⟨by rw [← HR.out]; rfl, rfl⟩
  by_cases h2 : k = 2
  · rw [if_neg h1, if_pos h2] at hR
    subst h2
    have HR := Lib.hid hR
    clear hR h1
    go_enter Try.func42, Try.ntmps42
    go_wp2_with fail
    go_ret
    exact ⟨by rw [← HR.out]; rfl, rfl⟩
  by_cases h3 : k = 3
  · rw [if_neg h1, if_neg h2, if_pos h3] at hR
    subst h3
    have HR := Lib.hid hR
    clear hR h1 h2
    go_enter Try.func42, Try.ntmps42
    go_wp2_with fail
    go_ret
    exact ⟨by rw [← HR.out]; rfl, rfl⟩
  · rw [if_neg h1, if_neg h2, if_neg h3] at hR
    have HR := Lib.hid hR
    have q1 : (k == 1) = false := by simpa using h1
    have q2 : (k == 2) = false := by simpa using h2
    have q3 : (k == 3) = false := by simpa using h3
    clear hR h1 h2 h3
    go_enter Try.func42, Try.ntmps42
    go_wp2_with fail
    go_ret
    exact ⟨by rw [← HR.out]; rfl, rfl⟩
end Go.Proofs.Ytnnjcabgaefhcaa.lg

/- Fold: the program's answer. -/
namespace Go.Proofs.Ytnnjcabgaefhcaa.lg
open Go Go.RowKit Go.Sort Go.Proofs.Ytnnjcabgaefhcaa.ib
set_option maxRecDepth 100000

theorem says_new (x : En) (w : World) : Calls Try.prog 42 #[ev x] w fun e w' => e = .returned (sayF x w.heap.size) ∧ Blk w' w.heap.size 35 (enV x).toArray ∧ Below w.heap.size w w' :=
  (says_any x w).mono (by
    rintro e w' ⟨he, rfl⟩
    exact ⟨he, Blk.new _ _ _, (Below.refl _ _).alloc (Nat.le_refl _) _⟩)
def FoRel (l : List En) (n : Nat) (w W1 : World) (i : Value) (wr : World) : Prop :=
  ∃ k : Nat, k ≤ n ∧ i = .int .i64 (k : Int) ∧ (∃ v, LnIs wr (w.heap.size + 1) (w.heap.size + 1) (foldN l k) v) ∧ Below (w.heap.size + 1) W1 wr
def lnZ : Array Value := #[.int .u64 0, .int .i64 0, .bool false, .slice none 0 0]
def setLn (w : World) (r : Nat) (L : Ln) (v : Value) : World := (((w.setCell ⟨r, 0, none⟩ (.int .u64 (L.ep : Int))).setCell ⟨r, 1, none⟩ (.int .i64 (L.bf : Int))).setCell ⟨r, 2, none⟩ (.bool L.ls)).setCell ⟨r, 3, none⟩ v
theorem setLn_blk {w : World} {r : Nat} {L : Ln} {v : Value} (h : Blk w r 40 lnZ) : Blk (setLn w r L v) r 40 (lnC L v) :=
  (((h.set_ 0 _).set_ 1 _).set_ 2 _).set_ 3 _
theorem setLn_oth (w : World) (r : Nat) (L : Ln) (v : Value) (k : Nat) (h : k ≠ r) : (setLn w r L v).heap[k]? = w.heap[k]? := by
  unfold setLn
  rw [set_oth _ _ _ _ _ h, set_oth _ _ _ _ _ h, set_oth _ _ _ _ _ h, set_oth _ _ _ _ _ h]
theorem setLn_below {B : Nat} {a w : World} {r : Nat} {L : Ln} {v : Value} (h : Below B a w) (hr : B ≤ r) : Below B a (setLn w r L v) :=
  (((h.setCell (p := ⟨r, 0, none⟩) hr _).setCell (p := ⟨r, 1, none⟩) hr _).setCell (p := ⟨r, 2, none⟩) hr _).setCell (p := ⟨r, 3, none⟩) hr _
theorem fold_end {w : World} {B g r : Nat} {L : Ln} {v : Value} (h : LnIs w B g L v) (hr : Blk w r 40 lnZ) : LnAt (setLn w r L v) (.agg (lnC L v)) L := by
  have ho : OGd (setLn w r L v) B v L.gs := row_of_block h.own (fun j hj => setLn_oth _ _ _ _ _ (own_type h.own hr (by decide) j hj))
  obtain ⟨A, c, rfl, hA⟩ := ho.view
  exact ⟨A, c, rfl, hA⟩

set_option maxHeartbeats 6400000 in
theorem fold_neg (A : Option Addr) (c : Nat) (l : List En) (cm : Int) (hc : cm < 0) (w : World) (hA : EnL w A l c) (hl : l.length ≤ 4000) :
    Calls Try.prog 24 #[.slice A l.length c, .int .i64 cm] w (endLn (foldN l 0) w) := by
  have hcap := hA.cap
  have hl0 : (0 : Int) ≤ (l.length : Int) := by omega
  obtain ⟨W1, hW1⟩ : ∃ z, w.alloc (.cells #[.int .u64 0, .int .i64 0, .bool false, .slice none 0 0] 40) = z := ⟨_, rfl⟩
  have hr1 : Blk W1 w.heap.size 40 lnZ := by rw [← hW1]; exact Blk.new _ _ _
  have hb1 : Below w.heap.size w W1 := by rw [← hW1]; exact (Below.refl _ w).alloc (Nat.le_refl _) _
  have hs1 : W1.heap.size = w.heap.size + 1 := by rw [← hW1]; simp
  obtain ⟨W2, hW2⟩ : ∃ z, W1.alloc (.cells #[.int .u64 0, .int .i64 0, .bool false, .slice none 0 0] 40) = z := ⟨_, rfl⟩
  have hg2 : Blk W2 (w.heap.size + 1) 40 lnZ := by rw [← hW2, ← hs1]; exact Blk.new _ _ _
  have hb2 : Below (w.heap.size + 1) W1 W2 := by rw [← hW2, ← hs1]; exact (Below.refl _ W1).alloc (Nat.le_refl _) _
  have HR1 := Lib.hid hr1
  have HB1 := Lib.hid hb1
  have HL2 : Hid (LnIs W2 (w.heap.size + 1) (w.heap.size + 1) (foldN l 0) (.slice none 0 0)) := by rw [fold_zero]; exact ⟨hg2, OGd.nil _ _, Nat.le_refl _⟩
  have HB2 := Lib.hid hb2
  have HA := Lib.hid hA
  have HS1 := Lib.hid hs1
  clear hr1 hb1 hg2 hb2 hA
  go_enter Try.func24, Try.ntmps24
  go_wp2_with fail
  go_loopw [16] (fun i wr => FoRel l (0) w W1 i wr) (fun i _ => 0 - (intOf i).toNat)
  case atStart => exact ⟨0, Nat.zero_le _, rfl, ⟨_, HL2.out⟩, HB2.out⟩
  case round =>
    obtain ⟨k, hk, rfl, ⟨v, hln⟩, hb⟩ := hrel
    have HLN := Lib.hid hln
    have HBK := Lib.hid hb
    have HBW : Hid (Below w.heap.size w wr) := HB1.out.trans (hb.mono (Nat.le_succ _))
    have HSZ : Hid (w.heap.size + 1 ≤ wr.heap.size) := by have := hb.size; rw [HS1.out] at this; exact this
    clear hln hb
    have hki : ¬ (k : Int) < ((0 : Nat) : Int) := by omega
    have hkn : k = 0 := by omega
    have HLF : Hid (LnIs wr (w.heap.size + 1) (w.heap.size + 1) (foldN l (0)) v) := by rw [← hkn]; exact HLN.out
    have hrk : Blk wr w.heap.size 40 lnZ := HR1.out.of_block (HBK.out.block _ (Nat.lt_succ_self _))
    obtain ⟨L, hL⟩ : ∃ L, foldN l (0) = L := ⟨_, rfl⟩
    rw [hL] at HLF
    have HLE := Lib.hid hL
    obtain ⟨A', c', rfl⟩ := own_form HLF.out.own
    obtain ⟨c0, c1, c2, c3⟩ := HLF.out.cells
    have hgl := HLF.out.blk.lt
    have r0 := hrk.cell 0
    have r1 := hrk.cell 1
    have r2 := hrk.cell 2
    have r3 := hrk.cell 3
    have f0 := hrk.frozen 0
    have f1 := hrk.frozen 1
    have f2 := hrk.frozen 2
    have f3 := hrk.frozen 3
    have hrl := hrk.lt
    simp only [lnZ, List.getElem?_toArray, List.getElem?_cons_zero, List.getElem?_cons_succ] at r0 r1 r2 r3
    have HRK := Lib.hid hrk
    clear hrk hkn hk hL HLN
    go_wp2_with fail
    show bodyPost _ _ _ _ _ (setLn wr w.heap.size L (.slice A' L.gs.length c'))
    have hbl := setLn_blk (L := L) (v := .slice A' L.gs.length c') HRK.out
    have HFE := Lib.hid (fold_end HLF.out HRK.out)
    have HBE := Lib.hid (setLn_below (L := L) (v := .slice A' L.gs.length c') HBW.out (Nat.le_refl _))
    obtain ⟨WF, hWF⟩ : ∃ z, setLn wr w.heap.size L (.slice A' L.gs.length c') = z := ⟨_, rfl⟩
    rw [hWF] at hbl HFE HBE ⊢
    clear hWF c0 c1 c2 c3 r0 r1 r2 r3 f0 f1 f2 f3 hgl hrl
    have e0 := hbl.cell 0
    have e1 := hbl.cell 1
    have e2 := hbl.cell 2
    have e3 := hbl.cell 3
    simp only [lnC, List.getElem?_toArray, List.getElem?_cons_zero, List.getElem?_cons_succ] at e0 e1 e2 e3
    refine bodyPost_ret (v := .agg (lnC L (.slice A' L.gs.length c'))) (by simp [results, Try.results24, go_sem, lnC, e0, e1, e2, e3]) rfl ?_
    exact ⟨_, rfl, by rw [HLE.out]; exact HFE.out, HBE.out⟩

set_option maxHeartbeats 6400000 in
theorem fold_in (A : Option Addr) (c : Nat) (l : List En) (n : Nat) (hn : n ≤ l.length) (w : World) (hA : EnL w A l c) (hl : l.length ≤ 4000) :
    Calls Try.prog 24 #[.slice A l.length c, .int .i64 (n : Int)] w (endLn (foldN l n) w) := by
  have hcap := hA.cap
  have hn0 : ¬ (n : Int) < 0 := by omega
  have hn1 : ¬ (l.length : Int) < (n : Int) := by omega
  have hnc : (n : Int) ≤ (c : Int) := by omega
  obtain ⟨W1, hW1⟩ : ∃ z, w.alloc (.cells #[.int .u64 0, .int .i64 0, .bool false, .slice none 0 0] 40) = z := ⟨_, rfl⟩
  have hr1 : Blk W1 w.heap.size 40 lnZ := by rw [← hW1]; exact Blk.new _ _ _
  have hb1 : Below w.heap.size w W1 := by rw [← hW1]; exact (Below.refl _ w).alloc (Nat.le_refl _) _
  have hs1 : W1.heap.size = w.heap.size + 1 := by rw [← hW1]; simp
  obtain ⟨W2, hW2⟩ : ∃ z, W1.alloc (.cells #[.int .u64 0, .int .i64 0, .bool false, .slice none 0 0] 40) = z := ⟨_, rfl⟩
  have hg2 : Blk W2 (w.heap.size + 1) 40 lnZ := by rw [← hW2, ← hs1]; exact Blk.new _ _ _
  have hb2 : Below (w.heap.size + 1) W1 W2 := by rw [← hW2, ← hs1]; exact (Below.refl _ W1).alloc (Nat.le_refl _) _
  have HR1 := Lib.hid hr1
  have HB1 := Lib.hid hb1
  have HL2 : Hid (LnIs W2 (w.heap.size + 1) (w.heap.size + 1) (foldN l 0) (.slice none 0 0)) := by rw [fold_zero]; exact ⟨hg2, OGd.nil _ _, Nat.le_refl _⟩
  have HB2 := Lib.hid hb2
  have HA := Lib.hid hA
  have HS1 := Lib.hid hs1
  clear hr1 hb1 hg2 hb2 hA
  go_enter Try.func24, Try.ntmps24
  go_wp2_with fail
  go_loopw [16] (fun i wr => FoRel l (n) w W1 i wr) (fun i _ => n - (intOf i).toNat)
  case atStart => exact ⟨0, Nat.zero_le _, rfl, ⟨_, HL2.out⟩, HB2.out⟩
  case round =>
    obtain ⟨k, hk, rfl, ⟨v, hln⟩, hb⟩ := hrel
    have HLN := Lib.hid hln
    have HBK := Lib.hid hb
    have HBW : Hid (Below w.heap.size w wr) := HB1.out.trans (hb.mono (Nat.le_succ _))
    have HSZ : Hid (w.heap.size + 1 ≤ wr.heap.size) := by have := hb.size; rw [HS1.out] at this; exact this
    clear hln hb
    by_cases hlt : k < n
    · have hki : (k : Int) < ((n : Nat) : Int) := by omega
      have hkl : k < l.length := by omega
      have HFS := Lib.hid (fold_succ l k hkl)
      have HFL : Hid ((foldN l k).gs.length ≤ 4000) := Nat.le_trans (fold_len l k (by omega)) (by omega)
      obtain ⟨b1, o1, rfl, l1, e0, e1, e2, e3, hxb⟩ := HA.out.ents.cells HBW.out k hkl
      obtain ⟨x, hx⟩ : ∃ x, l[k] = x := ⟨_, rfl⟩
      rw [hx] at e0 e1 e2 e3 HFS
      obtain ⟨W3, hW3⟩ : ∃ z, wr.alloc (.cells #[.int .u64 (x.t : Int), .int .i64 x.k, .int .u64 (x.e : Int), .int .u64 (x.c : Int)] 35) = z := ⟨_, rfl⟩
      have hx3 : Blk W3 wr.heap.size 35 #[.int .u64 (x.t : Int), .int .i64 x.k, .int .u64 (x.e : Int), .int .u64 (x.c : Int)] := by rw [← hW3]; exact Blk.new _ _ _
      have hb3 : Below wr.heap.size wr W3 := by rw [← hW3]; exact (Below.refl _ wr).alloc (Nat.le_refl _) _
      have HX3 := Lib.hid hx3
      have HB3 := Lib.hid (HBK.out.trans (hb3.mono HSZ.out))
      have HL3 := Lib.hid (HLN.out.below hb3)
      have HSZ3 : Hid (w.heap.size + 1 ≤ W3.heap.size) := Nat.le_trans HSZ.out hb3.size
      clear hx hx3 hb3 hxb
      go_upto_region 5 with fail
      try rw [hW3]
      clear hW3 e0 e1 e2 e3
      obtain ⟨gx, hgx⟩ : ∃ g, wr.heap.size = g := ⟨_, rfl⟩
      rw [hgx] at HX3
      try rw [hgx]
      clear hgx
      have q0 := HX3.out.cell 0
      have q1 := HX3.out.cell 1
      have q2 := HX3.out.cell 2
      have q3 := HX3.out.cell 3
      simp only [List.getElem?_toArray, List.getElem?_cons_zero, List.getElem?_cons_succ] at q0 q1 q2 q3
      go_wp2_with fail
      refine (says_new x W3).mono ?_
      rintro e W4 ⟨rfl, hx4, hb4⟩
      have HX4 := Lib.hid hx4
      have HL4 := Lib.hid (HL3.out.below hb4)
      have HB4 := Lib.hid (HB3.out.trans (hb4.mono HSZ3.out))
      have HSZ4 : Hid (w.heap.size + 1 ≤ W4.heap.size) := Nat.le_trans HSZ3.out hb4.size
      clear hx4 hb4 q0 q1 q2 q3 HX3 HB3 HL3
      by_cases h1 : x.k = 1
      · have hsf : sayF x W3.heap.size = .func (.func 45) #[] #[.pointer (some ⟨W3.heap.size, 0, none⟩)] := by unfold sayF; rw [if_pos h1]
        rw [hsf]
        have HCL := Lib.hid (say1_any (w.heap.size + 1) (w.heap.size + 1) W3.heap.size x (foldN l k) _ W4 HL4.out HX4.out h1 (HFL.out))
        rw [← HFS.out] at HCL
        clear hsf h1
        go_wp2_with fail
        refine HCL.out.mono ?_
        rintro e W5 ⟨rfl, v5, hl5, hb5⟩
        have HL5 := Lib.hid hl5
        have HB5 := Lib.hid (HB4.out.trans hb5)
        clear hl5 hb5 HCL
        go_wp2_with fail
        go_roundw
        case rel => exact ⟨k + 1, by omega, by go_num, ⟨_, HL5.out⟩, HB5.out⟩
        case measure => simp [intOf]; omega
      by_cases h2 : x.k = 2
      · have hsf : sayF x W3.heap.size = .func (.func 46) #[] #[.pointer (some ⟨W3.heap.size, 0, none⟩)] := by unfold sayF; rw [if_neg h1, if_pos h2]
        rw [hsf]
        have HCL := Lib.hid (say2_any (w.heap.size + 1) (w.heap.size + 1) W3.heap.size x (foldN l k) _ W4 HL4.out HX4.out h2 )
        rw [← HFS.out] at HCL
        clear hsf h1 h2
        go_wp2_with fail
        refine HCL.out.mono ?_
        rintro e W5 ⟨rfl, v5, hl5, hb5⟩
        have HL5 := Lib.hid hl5
        have HB5 := Lib.hid (HB4.out.trans hb5)
        clear hl5 hb5 HCL
        go_wp2_with fail
        go_roundw
        case rel => exact ⟨k + 1, by omega, by go_num, ⟨_, HL5.out⟩, HB5.out⟩
        case measure => simp [intOf]; omega
      by_cases h3 : x.k = 3
      · have hsf : sayF x W3.heap.size = .func (.func 47) #[] #[.pointer (some ⟨W3.heap.size, 0, none⟩)] := by unfold sayF; rw [if_neg h1, if_neg h2, if_pos h3]
        rw [hsf]
        have HCL := Lib.hid (say3_any (w.heap.size + 1) (w.heap.size + 1) W3.heap.size x (foldN l k) _ W4 HL4.out HX4.out h3 (HFL.out) (HSZ4.out))
        rw [← HFS.out] at HCL
        clear hsf h1 h2 h3
        go_wp2_with fail
        refine HCL.out.mono ?_
        rintro e W5 ⟨rfl, v5, hl5, hb5⟩
        have HL5 := Lib.hid hl5
        have HB5 := Lib.hid (HB4.out.trans hb5)
        clear hl5 hb5 HCL
        go_wp2_with fail
        go_roundw
        case rel => exact ⟨k + 1, by omega, by go_num, ⟨_, HL5.out⟩, HB5.out⟩
        case measure => simp [intOf]; omega
      · have hsf : sayF x W3.heap.size = .func (.func 49) #[] #[] := by unfold sayF; rw [if_neg h1, if_neg h2, if_neg h3]
        rw [hsf]
        have HSE : Hid (foldN l (k + 1) = foldN l k) := by unfold Hid; rw [HFS.out]; unfold says; rw [if_neg h1, if_neg h2, if_neg h3]
        clear hsf h1 h2 h3
        go_wp2_with fail
        refine (say4_any _ _).mono ?_
        rintro e W5 ⟨rfl, rfl⟩
        go_wp2_with fail
        go_roundw
        case rel => exact ⟨k + 1, by omega, by go_num, ⟨_, by rw [HSE.out]; exact HL4.out⟩, HB4.out⟩
        case measure => simp [intOf]; omega
    · have hki : ¬ (k : Int) < ((n : Nat) : Int) := by omega
      have hkn : k = n := by omega
      have HLF : Hid (LnIs wr (w.heap.size + 1) (w.heap.size + 1) (foldN l (n)) v) := by rw [← hkn]; exact HLN.out
      have hrk : Blk wr w.heap.size 40 lnZ := HR1.out.of_block (HBK.out.block _ (Nat.lt_succ_self _))
      obtain ⟨L, hL⟩ : ∃ L, foldN l (n) = L := ⟨_, rfl⟩
      rw [hL] at HLF
      have HLE := Lib.hid hL
      obtain ⟨A', c', rfl⟩ := own_form HLF.out.own
      obtain ⟨c0, c1, c2, c3⟩ := HLF.out.cells
      have hgl := HLF.out.blk.lt
      have r0 := hrk.cell 0
      have r1 := hrk.cell 1
      have r2 := hrk.cell 2
      have r3 := hrk.cell 3
      have f0 := hrk.frozen 0
      have f1 := hrk.frozen 1
      have f2 := hrk.frozen 2
      have f3 := hrk.frozen 3
      have hrl := hrk.lt
      simp only [lnZ, List.getElem?_toArray, List.getElem?_cons_zero, List.getElem?_cons_succ] at r0 r1 r2 r3
      have HRK := Lib.hid hrk
      clear hrk hkn hk hL HLN
      go_wp2_with fail
      show bodyPost _ _ _ _ _ (setLn wr w.heap.size L (.slice A' L.gs.length c'))
      have hbl := setLn_blk (L := L) (v := .slice A' L.gs.length c') HRK.out
      have HFE := Lib.hid (fold_end HLF.out HRK.out)
      have HBE := Lib.hid (setLn_below (L := L) (v := .slice A' L.gs.length c') HBW.out (Nat.le_refl _))
      obtain ⟨WF, hWF⟩ : ∃ z, setLn wr w.heap.size L (.slice A' L.gs.length c') = z := ⟨_, rfl⟩
      rw [hWF] at hbl HFE HBE ⊢
      clear hWF c0 c1 c2 c3 r0 r1 r2 r3 f0 f1 f2 f3 hgl hrl
      have e0 := hbl.cell 0
      have e1 := hbl.cell 1
      have e2 := hbl.cell 2
      have e3 := hbl.cell 3
      simp only [lnC, List.getElem?_toArray, List.getElem?_cons_zero, List.getElem?_cons_succ] at e0 e1 e2 e3
      refine bodyPost_ret (v := .agg (lnC L (.slice A' L.gs.length c'))) (by simp [results, Try.results24, go_sem, lnC, e0, e1, e2, e3]) rfl ?_
      exact ⟨_, rfl, by rw [HLE.out]; exact HFE.out, HBE.out⟩

set_option maxHeartbeats 6400000 in
theorem fold_out (A : Option Addr) (c : Nat) (l : List En) (cm : Int) (hc : (l.length : Int) < cm) (w : World) (hA : EnL w A l c) (hl : l.length ≤ 4000) :
    Calls Try.prog 24 #[.slice A l.length c, .int .i64 cm] w (endLn (foldN l l.length) w) := by
  have hcap := hA.cap
  have hc0 : ¬ cm < 0 := by omega
  have hlc : (l.length : Int) ≤ (c : Int) := by omega
  obtain ⟨W1, hW1⟩ : ∃ z, w.alloc (.cells #[.int .u64 0, .int .i64 0, .bool false, .slice none 0 0] 40) = z := ⟨_, rfl⟩
  have hr1 : Blk W1 w.heap.size 40 lnZ := by rw [← hW1]; exact Blk.new _ _ _
  have hb1 : Below w.heap.size w W1 := by rw [← hW1]; exact (Below.refl _ w).alloc (Nat.le_refl _) _
  have hs1 : W1.heap.size = w.heap.size + 1 := by rw [← hW1]; simp
  obtain ⟨W2, hW2⟩ : ∃ z, W1.alloc (.cells #[.int .u64 0, .int .i64 0, .bool false, .slice none 0 0] 40) = z := ⟨_, rfl⟩
  have hg2 : Blk W2 (w.heap.size + 1) 40 lnZ := by rw [← hW2, ← hs1]; exact Blk.new _ _ _
  have hb2 : Below (w.heap.size + 1) W1 W2 := by rw [← hW2, ← hs1]; exact (Below.refl _ W1).alloc (Nat.le_refl _) _
  have HR1 := Lib.hid hr1
  have HB1 := Lib.hid hb1
  have HL2 : Hid (LnIs W2 (w.heap.size + 1) (w.heap.size + 1) (foldN l 0) (.slice none 0 0)) := by rw [fold_zero]; exact ⟨hg2, OGd.nil _ _, Nat.le_refl _⟩
  have HB2 := Lib.hid hb2
  have HA := Lib.hid hA
  have HS1 := Lib.hid hs1
  clear hr1 hb1 hg2 hb2 hA
  go_enter Try.func24, Try.ntmps24
  go_wp2_with fail
  go_loopw [16] (fun i wr => FoRel l (l.length) w W1 i wr) (fun i _ => l.length - (intOf i).toNat)
  case atStart => exact ⟨0, Nat.zero_le _, rfl, ⟨_, HL2.out⟩, HB2.out⟩
  case round =>
    obtain ⟨k, hk, rfl, ⟨v, hln⟩, hb⟩ := hrel
    have HLN := Lib.hid hln
    have HBK := Lib.hid hb
    have HBW : Hid (Below w.heap.size w wr) := HB1.out.trans (hb.mono (Nat.le_succ _))
    have HSZ : Hid (w.heap.size + 1 ≤ wr.heap.size) := by have := hb.size; rw [HS1.out] at this; exact this
    clear hln hb
    by_cases hlt : k < l.length
    · have hki : (k : Int) < ((l.length : Nat) : Int) := by omega
      have hkl : k < l.length := by omega
      have HFS := Lib.hid (fold_succ l k hkl)
      have HFL : Hid ((foldN l k).gs.length ≤ 4000) := Nat.le_trans (fold_len l k (by omega)) (by omega)
      obtain ⟨b1, o1, rfl, l1, e0, e1, e2, e3, hxb⟩ := HA.out.ents.cells HBW.out k hkl
      obtain ⟨x, hx⟩ : ∃ x, l[k] = x := ⟨_, rfl⟩
      rw [hx] at e0 e1 e2 e3 HFS
      obtain ⟨W3, hW3⟩ : ∃ z, wr.alloc (.cells #[.int .u64 (x.t : Int), .int .i64 x.k, .int .u64 (x.e : Int), .int .u64 (x.c : Int)] 35) = z := ⟨_, rfl⟩
      have hx3 : Blk W3 wr.heap.size 35 #[.int .u64 (x.t : Int), .int .i64 x.k, .int .u64 (x.e : Int), .int .u64 (x.c : Int)] := by rw [← hW3]; exact Blk.new _ _ _
      have hb3 : Below wr.heap.size wr W3 := by rw [← hW3]; exact (Below.refl _ wr).alloc (Nat.le_refl _) _
      have HX3 := Lib.hid hx3
      have HB3 := Lib.hid (HBK.out.trans (hb3.mono HSZ.out))
      have HL3 := Lib.hid (HLN.out.below hb3)
      have HSZ3 : Hid (w.heap.size + 1 ≤ W3.heap.size) := Nat.le_trans HSZ.out hb3.size
      clear hx hx3 hb3 hxb
      go_upto_region 5 with fail
      try rw [hW3]
      clear hW3 e0 e1 e2 e3
      obtain ⟨gx, hgx⟩ : ∃ g, wr.heap.size = g := ⟨_, rfl⟩
      rw [hgx] at HX3
      try rw [hgx]
      clear hgx
      have q0 := HX3.out.cell 0
      have q1 := HX3.out.cell 1
      have q2 := HX3.out.cell 2
      have q3 := HX3.out.cell 3
      simp only [List.getElem?_toArray, List.getElem?_cons_zero, List.getElem?_cons_succ] at q0 q1 q2 q3
      go_wp2_with fail
      refine (says_new x W3).mono ?_
      rintro e W4 ⟨rfl, hx4, hb4⟩
      have HX4 := Lib.hid hx4
      have HL4 := Lib.hid (HL3.out.below hb4)
      have HB4 := Lib.hid (HB3.out.trans (hb4.mono HSZ3.out))
      have HSZ4 : Hid (w.heap.size + 1 ≤ W4.heap.size) := Nat.le_trans HSZ3.out hb4.size
      clear hx4 hb4 q0 q1 q2 q3 HX3 HB3 HL3
      by_cases h1 : x.k = 1
      · have hsf : sayF x W3.heap.size = .func (.func 45) #[] #[.pointer (some ⟨W3.heap.size, 0, none⟩)] := by unfold sayF; rw [if_pos h1]
        rw [hsf]
        have HCL := Lib.hid (say1_any (w.heap.size + 1) (w.heap.size + 1) W3.heap.size x (foldN l k) _ W4 HL4.out HX4.out h1 (HFL.out))
        rw [← HFS.out] at HCL
        clear hsf h1
        go_wp2_with fail
        refine HCL.out.mono ?_
        rintro e W5 ⟨rfl, v5, hl5, hb5⟩
        have HL5 := Lib.hid hl5
        have HB5 := Lib.hid (HB4.out.trans hb5)
        clear hl5 hb5 HCL
        go_wp2_with fail
        go_roundw
        case rel => exact ⟨k + 1, by omega, by go_num, ⟨_, HL5.out⟩, HB5.out⟩
        case measure => simp [intOf]; omega
      by_cases h2 : x.k = 2
      · have hsf : sayF x W3.heap.size = .func (.func 46) #[] #[.pointer (some ⟨W3.heap.size, 0, none⟩)] := by unfold sayF; rw [if_neg h1, if_pos h2]
        rw [hsf]
        have HCL := Lib.hid (say2_any (w.heap.size + 1) (w.heap.size + 1) W3.heap.size x (foldN l k) _ W4 HL4.out HX4.out h2 )
        rw [← HFS.out] at HCL
        clear hsf h1 h2
        go_wp2_with fail
        refine HCL.out.mono ?_
        rintro e W5 ⟨rfl, v5, hl5, hb5⟩
        have HL5 := Lib.hid hl5
        have HB5 := Lib.hid (HB4.out.trans hb5)
        clear hl5 hb5 HCL
        go_wp2_with fail
        go_roundw
        case rel => exact ⟨k + 1, by omega, by go_num, ⟨_, HL5.out⟩, HB5.out⟩
        case measure => simp [intOf]; omega
      by_cases h3 : x.k = 3
      · have hsf : sayF x W3.heap.size = .func (.func 47) #[] #[.pointer (some ⟨W3.heap.size, 0, none⟩)] := by unfold sayF; rw [if_neg h1, if_neg h2, if_pos h3]
        rw [hsf]
        have HCL := Lib.hid (say3_any (w.heap.size + 1) (w.heap.size + 1) W3.heap.size x (foldN l k) _ W4 HL4.out HX4.out h3 (HFL.out) (HSZ4.out))
        rw [← HFS.out] at HCL
        clear hsf h1 h2 h3
        go_wp2_with fail
        refine HCL.out.mono ?_
        rintro e W5 ⟨rfl, v5, hl5, hb5⟩
        have HL5 := Lib.hid hl5
        have HB5 := Lib.hid (HB4.out.trans hb5)
        clear hl5 hb5 HCL
        go_wp2_with fail
        go_roundw
        case rel => exact ⟨k + 1, by omega, by go_num, ⟨_, HL5.out⟩, HB5.out⟩
        case measure => simp [intOf]; omega
      · have hsf : sayF x W3.heap.size = .func (.func 49) #[] #[] := by unfold sayF; rw [if_neg h1, if_neg h2, if_neg h3]
        rw [hsf]
        have HSE : Hid (foldN l (k + 1) = foldN l k) := by unfold Hid; rw [HFS.out]; unfold says; rw [if_neg h1, if_neg h2, if_neg h3]
        clear hsf h1 h2 h3
        go_wp2_with fail
        refine (say4_any _ _).mono ?_
        rintro e W5 ⟨rfl, rfl⟩
        go_wp2_with fail
        go_roundw
        case rel => exact ⟨k + 1, by omega, by go_num, ⟨_, by rw [HSE.out]; exact HL4.out⟩, HB4.out⟩
        case measure => simp [intOf]; omega
    · have hki : ¬ (k : Int) < ((l.length : Nat) : Int) := by omega
      have hkn : k = l.length := by omega
      have HLF : Hid (LnIs wr (w.heap.size + 1) (w.heap.size + 1) (foldN l (l.length)) v) := by rw [← hkn]; exact HLN.out
      have hrk : Blk wr w.heap.size 40 lnZ := HR1.out.of_block (HBK.out.block _ (Nat.lt_succ_self _))
      obtain ⟨L, hL⟩ : ∃ L, foldN l (l.length) = L := ⟨_, rfl⟩
      rw [hL] at HLF
      have HLE := Lib.hid hL
      obtain ⟨A', c', rfl⟩ := own_form HLF.out.own
      obtain ⟨c0, c1, c2, c3⟩ := HLF.out.cells
      have hgl := HLF.out.blk.lt
      have r0 := hrk.cell 0
      have r1 := hrk.cell 1
      have r2 := hrk.cell 2
      have r3 := hrk.cell 3
      have f0 := hrk.frozen 0
      have f1 := hrk.frozen 1
      have f2 := hrk.frozen 2
      have f3 := hrk.frozen 3
      have hrl := hrk.lt
      simp only [lnZ, List.getElem?_toArray, List.getElem?_cons_zero, List.getElem?_cons_succ] at r0 r1 r2 r3
      have HRK := Lib.hid hrk
      clear hrk hkn hk hL HLN
      go_wp2_with fail
      show bodyPost _ _ _ _ _ (setLn wr w.heap.size L (.slice A' L.gs.length c'))
      have hbl := setLn_blk (L := L) (v := .slice A' L.gs.length c') HRK.out
      have HFE := Lib.hid (fold_end HLF.out HRK.out)
      have HBE := Lib.hid (setLn_below (L := L) (v := .slice A' L.gs.length c') HBW.out (Nat.le_refl _))
      obtain ⟨WF, hWF⟩ : ∃ z, setLn wr w.heap.size L (.slice A' L.gs.length c') = z := ⟨_, rfl⟩
      rw [hWF] at hbl HFE HBE ⊢
      clear hWF c0 c1 c2 c3 r0 r1 r2 r3 f0 f1 f2 f3 hgl hrl
      have e0 := hbl.cell 0
      have e1 := hbl.cell 1
      have e2 := hbl.cell 2
      have e3 := hbl.cell 3
      simp only [lnC, List.getElem?_toArray, List.getElem?_cons_zero, List.getElem?_cons_succ] at e0 e1 e2 e3
      refine bodyPost_ret (v := .agg (lnC L (.slice A' L.gs.length c'))) (by simp [results, Try.results24, go_sem, lnC, e0, e1, e2, e3]) rfl ?_
      exact ⟨_, rfl, by rw [HLE.out]; exact HFE.out, HBE.out⟩

theorem fold_any (A : Option Addr) (c : Nat) (l : List En) (cm : Int) (w : World) (hA : EnL w A l c) (hl : l.length ≤ 4000) :
    Calls Try.prog 24 #[.slice A l.length c, .int .i64 cm] w (endLn (lFold l cm) w) := by
  unfold lFold
  by_cases h0 : cm < 0
  · rw [show cm.toNat = 0 by omega]
    exact fold_neg A c l cm h0 w hA hl
  by_cases h1 : (l.length : Int) < cm
  · rw [fold_all l cm.toNat (by omega)]
    exact fold_out A c l cm h1 w hA hl
  · obtain ⟨n, rfl⟩ : ∃ n : Nat, cm = (n : Int) := ⟨cm.toNat, by omega⟩
    rw [Int.toNat_natCast]
    exact fold_in A c l n (by omega) w hA hl
end Go.Proofs.Ytnnjcabgaefhcaa.lg

/- Fold: the document's answer. -/
namespace Go.Proofs.Ytnnjcabgaefhcaa.lg
open Go Go.RowKit Go.Sort Go.Proofs.Ytnnjcabgaefhcaa.ib
set_option maxRecDepth 100000

def RfRel (l : List En) (n : Nat) (w W1 : World) (i : Value) (wr : World) : Prop :=
  ∃ k : Nat, k ≤ n ∧ i = .int .i64 (k : Int) ∧ (∃ v, LnIs wr (w.heap.size + 1) (w.heap.size + 1) (foldN l k) v) ∧ Below (w.heap.size + 1) W1 wr
theorem behind_zero {gs : List Gd} {g : Gd} (h : gs.length = 0) : behind gs g = true := by unfold behind; rw [if_pos h]
theorem behind_last {gs : List Gd} {g : Gd} {k : Nat} (h : gs.length = k + 1) : behind gs g = above g (gs[k]'(by omega)) := by
  unfold behind
  rw [if_neg (by omega), show gs.length - 1 = k by omega]
  simp [List.getD, h]
theorem says3_no {L : Ln} {x : En} (hk : x.k = 3) (h : ¬ (x.e = x.t ∧ x.t = L.ep ∧ behind L.gs (x.e, x.c) = true)) : says L x = L := by
  rw [says3 hk, if_neg]
  rintro ⟨h1, h2, h3⟩
  exact h ⟨h2, h1, h3⟩
theorem says3_yes {L : Ln} {x : En} (hk : x.k = 3) (h1 : x.e = x.t) (h2 : x.t = L.ep) (h3 : behind L.gs (x.e, x.c) = true) : says L x = { L with gs := L.gs ++ [(x.e, x.c)] } := by
  rw [says3 hk, if_pos ⟨h2, h1, h3⟩]

set_option maxHeartbeats 12800000 in
theorem rfold_any (A : Option Addr) (c : Nat) (l : List En) (cm : Int) (w : World) (hA : EnL w A l c) (hl : l.length ≤ 4000) :
    Calls Try.prog 25 #[.slice A l.length c, .int .i64 cm] w (endLn (lFold l cm) w) := by
  obtain ⟨i0, hi, hz0, hz1, hz2⟩ := info_parts infoGd
  obtain ⟨n, hn⟩ : ∃ n, min cm.toNat l.length = n := ⟨_, rfl⟩
  have hnl : n ≤ l.length := by omega
  have HF : Hid (lFold l cm = foldN l n) := by unfold Hid lFold; rw [fold_min, hn]
  rw [HF.out]
  have HN1 : Hid (∀ k, k < n → (k : Int) < cm) := fun k hk => by omega
  have HN2 : Hid (∀ k, ¬ k < n → k < l.length → ¬ (k : Int) < cm) := fun k hk hk2 => by omega
  clear HF hn
  obtain ⟨W1, hW1⟩ : ∃ z, w.alloc (.cells #[.int .u64 0, .int .i64 0, .bool false, .slice none 0 0] 40) = z := ⟨_, rfl⟩
  have hr1 : Blk W1 w.heap.size 40 lnZ := by rw [← hW1]; exact Blk.new _ _ _
  have hb1 : Below w.heap.size w W1 := by rw [← hW1]; exact (Below.refl _ w).alloc (Nat.le_refl _) _
  have hs1 : W1.heap.size = w.heap.size + 1 := by rw [← hW1]; simp
  obtain ⟨W2, hW2⟩ : ∃ z, W1.alloc (.cells #[.int .u64 0, .int .i64 0, .bool false, .slice none 0 0] 40) = z := ⟨_, rfl⟩
  have hg2 : Blk W2 (w.heap.size + 1) 40 lnZ := by rw [← hW2, ← hs1]; exact Blk.new _ _ _
  have hb2 : Below (w.heap.size + 1) W1 W2 := by rw [← hW2, ← hs1]; exact (Below.refl _ W1).alloc (Nat.le_refl _) _
  have HR1 := Lib.hid hr1
  have HB1 := Lib.hid hb1
  have HL2 : Hid (LnIs W2 (w.heap.size + 1) (w.heap.size + 1) (foldN l 0) (.slice none 0 0)) := by rw [fold_zero]; exact ⟨hg2, OGd.nil _ _, Nat.le_refl _⟩
  have HB2 := Lib.hid hb2
  have HA := Lib.hid hA
  have HS1 := Lib.hid hs1
  clear hr1 hb1 hg2 hb2 hA
  go_enter Try.func25, Try.ntmps25
  go_wp2_with fail
  go_loopw [6] (fun i wr => RfRel l n w W1 i wr) (fun i _ => n - (intOf i).toNat)
  case atStart => exact ⟨0, Nat.zero_le _, rfl, ⟨_, HL2.out⟩, HB2.out⟩
  case round =>
    obtain ⟨k, hk, rfl, ⟨v, hln⟩, hb⟩ := hrel
    have HLN := Lib.hid hln
    have HBK := Lib.hid hb
    have HBW : Hid (Below w.heap.size w wr) := HB1.out.trans (hb.mono (Nat.le_succ _))
    have HSZ : Hid (w.heap.size + 1 ≤ wr.heap.size) := by have := hb.size; rw [HS1.out] at this; exact this
    clear hln hb
    by_cases hlt : k < n
    · have hkl : k < l.length := by omega
      have hki : (k : Int) < (l.length : Int) := by omega
      have hkc := HN1.out k hlt
      have HFS := Lib.hid (fold_succ l k hkl)
      have HFL : Hid ((foldN l k).gs.length ≤ 4000) := Nat.le_trans (fold_len l k (by omega)) (by omega)
      obtain ⟨b1, o1, rfl, l1, e0, e1, e2, e3, hxb⟩ := HA.out.ents.cells HBW.out k hkl
      obtain ⟨x, hx⟩ : ∃ x, l[k] = x := ⟨_, rfl⟩
      rw [hx] at e0 e1 e2 e3 HFS
      obtain ⟨W3, hW3⟩ : ∃ z, wr.alloc (.cells #[.int .u64 (x.t : Int), .int .i64 x.k, .int .u64 (x.e : Int), .int .u64 (x.c : Int)] 35) = z := ⟨_, rfl⟩
      have hx3 : Blk W3 wr.heap.size 35 (enV x).toArray := by rw [← hW3]; exact Blk.new _ _ _
      have hb3 : Below wr.heap.size wr W3 := by rw [← hW3]; exact (Below.refl _ wr).alloc (Nat.le_refl _) _
      have HX3 := Lib.hid hx3
      have HB3 := Lib.hid (HBK.out.trans (hb3.mono HSZ.out))
      have HL3 := Lib.hid (HLN.out.below hb3)
      have HSZ3 : Hid (w.heap.size + 1 ≤ W3.heap.size) := Nat.le_trans HSZ.out hb3.size
      clear hx hx3 hb3 hxb
      go_upto_region 6 with fail
      try rw [hW3]
      clear hW3 e0 e1 e2 e3
      obtain ⟨gx, hgx⟩ : ∃ g, wr.heap.size = g := ⟨_, rfl⟩
      rw [hgx] at HX3
      try rw [hgx]
      clear hgx
      obtain ⟨L, hL⟩ : ∃ L, foldN l k = L := ⟨_, rfl⟩
      rw [hL] at HFS HFL HL3
      have hne : gx ≠ w.heap.size + 1 := blk_type HX3.out HL3.out.blk (by decide)
      obtain ⟨A', c', rfl, hga⟩ := HL3.out.own.view
      have HGA := Lib.hid hga
      obtain ⟨q0, q1, q2, q3⟩ := Ent.cells HX3.out
      obtain ⟨c0, c1, c2, c3⟩ := HL3.out.cells
      have f0 := HL3.out.frozen 0
      have f1 := HL3.out.frozen 1
      have f2 := HL3.out.frozen 2
      have f3 := HL3.out.frozen 3
      have hgl := HL3.out.blk.lt
      have hxl := HX3.out.lt
      have hlow := HL3.out.low
      clear hga hL HLN HBK
      by_cases h1 : x.k = 1
      · have HS : Hid (foldN l (k + 1) = ⟨x.t, L.gs.length, false, L.gs⟩) := by unfold Hid; rw [HFS.out]; unfold says; rw [if_pos h1]
        rw [h1] at q1
        go_wp2_with fail
        go_roundw
        case rel =>
          have g1 := HL3.out.set_ 0 (.int .u64 (x.t : Int)) (L' := ⟨x.t, L.bf, L.ls, L.gs⟩) rfl rfl
          have g2 := g1.set_ 1 (.int .i64 (L.gs.length : Int)) (L' := ⟨x.t, L.gs.length, L.ls, L.gs⟩) rfl rfl
          have g3 := g2.set_ 2 (.bool false) (L' := ⟨x.t, L.gs.length, false, L.gs⟩) rfl rfl
          exact ⟨k + 1, by omega, by go_num, ⟨_, by rw [HS.out]; exact g3⟩, ((HB3.out.setCell (p := ⟨w.heap.size + 1, 0, none⟩) hlow _).setCell (p := ⟨w.heap.size + 1, 1, none⟩) hlow _).setCell (p := ⟨w.heap.size + 1, 2, none⟩) hlow _⟩
        case measure => simp [intOf]; omega
      by_cases h2 : x.k = 2
      · have HS : Hid (foldN l (k + 1) = ⟨L.ep, L.bf, L.ls || ((x.t : Int) == (L.ep : Int)), L.gs⟩) := by
          unfold Hid
          rw [HFS.out]
          unfold says
          rw [if_neg h1, if_pos h2]
          congr 2
          rw [Bool.eq_iff_iff]
          simp
          omega
        rw [h2] at q1
        by_cases hls : L.ls = true
        · rw [hls] at c2 HS
          rw [Bool.true_or] at HS
          go_wp2_with fail
          go_roundw
          case rel =>
            have g3 := HL3.out.set_ 2 (.bool true) (L' := ⟨L.ep, L.bf, true, L.gs⟩) rfl rfl
            exact ⟨k + 1, by omega, by go_num, ⟨_, by rw [HS.out]; exact g3⟩, HB3.out.setCell (p := ⟨w.heap.size + 1, 2, none⟩) hlow _⟩
          case measure => simp [intOf]; omega
        · have hls' : L.ls = false := by simpa using hls
          rw [hls'] at c2 HS
          rw [Bool.false_or] at HS
          obtain ⟨q, hq⟩ : ∃ q, ((x.t : Int) == (L.ep : Int)) = q := ⟨_, rfl⟩
          rw [hq] at HS
          clear hls hls'
          go_wp2_with fail
          go_roundw
          case rel =>
            have g3 := HL3.out.set_ 2 (.bool q) (L' := ⟨L.ep, L.bf, q, L.gs⟩) rfl rfl
            exact ⟨k + 1, by omega, by go_num, ⟨_, by rw [HS.out]; exact g3⟩, HB3.out.setCell (p := ⟨w.heap.size + 1, 2, none⟩) hlow _⟩
          case measure => simp [intOf]; omega
      by_cases h3 : x.k = 3
      · rw [h3] at q1
        have HSN := Lib.hid (fun h => says3_no (L := L) (x := x) h3 h)
        have HSY := Lib.hid (fun a b d => says3_yes (L := L) (x := x) h3 a b d)
        clear h1 h2 h3
        have m0 : ∀ d os, (grow (redrawn W3 d) os).cell? ⟨w.heap.size + 1, 0, none⟩ = some (.int .u64 (L.ep : Int)) := fun d os => cell_regrown c0 d os
        have m3 : ∀ d os, (grow (redrawn W3 d) os).cell? ⟨w.heap.size + 1, 3, none⟩ = some (.slice A' L.gs.length c') := fun d os => cell_regrown c3 d os
        have n0 : ∀ d os, (grow (redrawn W3 d) os).cell? ⟨gx, 0, none⟩ = some (.int .u64 (x.t : Int)) := fun d os => cell_regrown q0 d os
        have n2 : ∀ d os, (grow (redrawn W3 d) os).cell? ⟨gx, 2, none⟩ = some (.int .u64 (x.e : Int)) := fun d os => cell_regrown q2 d os
        have n3 : ∀ d os, (grow (redrawn W3 d) os).cell? ⟨gx, 3, none⟩ = some (.int .u64 (x.c : Int)) := fun d os => cell_regrown q3 d os
        by_cases g1 : x.e = x.t
        · have j1 : ((x.e : Int) == (x.t : Int)) = true := by rw [g1]; simp
          by_cases g2 : x.t = L.ep
          · have j2 : ((x.t : Int) == (L.ep : Int)) = true := by rw [g2]; simp
            by_cases g3 : L.gs.length = 0
            · have HS := Lib.hid (HSY.out g1 g2 (behind_zero g3))
              have j3 : ((L.gs.length : Int) == 0) = true := by simp [g3]
              clear g1 g2 g3 HSN HSY
              go_upto_region 15 with fail
              refine wp_region_quiet_below rmixed (by kernel_rfl) ?_
              repeat (any_goals (first | go_big_quiet_step (fail) | quiet_step (fail)))
              refine wpQuiet_nil ?_
              intro _ hw'
              obtain ⟨⟨dq, osq⟩, hw''⟩ := hw'
              subst hw''
              have HB5 := Lib.hid (below_regrown W3 dq osq)
              obtain ⟨W, hW⟩ : ∃ z, grow (redrawn W3 dq) osq = z := ⟨_, rfl⟩
              rw [hW] at HB5 ⊢
              clear hW m0 m3 n0 n2 n3 c0 c1 c2 c3 q0 q1 q2 q3 f0 f1 f2 f3 hgl hxl
              have h5 := HL3.out.below HB5.out
              have hx5 := HX3.out.below HB5.out
              obtain ⟨c0, c1, c2, c3⟩ := h5.cells
              obtain ⟨e0, e1, e2, e3⟩ := Ent.cells hx5
              have f3 := h5.frozen 3
              have hgl2 := h5.blk.lt
              have hbl2 := hx5.lt
              have HN6 : Hid (∀ (j : Nat) (u : Value), (gdV (x.e, x.c))[j]? = some u → (W.alloc (.cells #[.int .u64 (x.e : Int), .int .u64 (x.c : Int)] 33)).cell? ((⟨W.heap.size, 0, none⟩ : Addr).add j) = some u) := by
                intro j u hu
                rw [addr_add, Nat.zero_add, (Blk.new W 33 #[.int .u64 (x.e : Int), .int .u64 (x.c : Int)]).cell j]
                simpa [gdV] using hu
              have hb6 : Below W.heap.size W (W.alloc (.cells #[.int .u64 (x.e : Int), .int .u64 (x.c : Int)] 33)) := (Below.refl _ W).alloc (Nat.le_refl _) _
              have HL6 := Lib.hid (h5.below hb6)
              have HB6 : Hid (Below (w.heap.size + 1) W1 (W.alloc (.cells #[.int .u64 (x.e : Int), .int .u64 (x.c : Int)] 33))) := (HB3.out.trans (HB5.out.mono HSZ3.out)).trans (hb6.mono (Nat.le_trans HSZ3.out HB5.out.size))
              have HBS : Hid (w.heap.size + 1 ≤ (W.alloc (.cells #[.int .u64 (x.e : Int), .int .u64 (x.c : Int)] 33)).heap.size) := Nat.le_trans HSZ3.out (Nat.le_trans HB5.out.size hb6.size)
              have HFL6 := HFL.out
              clear h5 hx5 hb6
              go_wp2_with (at_builtin; refine wpList_append_own _ rfl (.tmp 82) (.tmp 85) 38 rfl (w.heap.size + 1) 33 i0 (.agg #[.int .u64 0, .int .u64 0]) 2 16 Try.underlying38 hi hz0 hz1 hz2 rfl (by decide) _ L.gs.length _ rfl HL6.out.own ⟨W.heap.size, 0, none⟩ 1 1 (gdV (x.e, x.c)) rfl rfl HN6.out (gdV_ones _) ?_ ?_ HBS.out ?_)
              · unfold maxLen; omega
              · omega
              · intro v7 w7 hown7 hgrow7 _
                obtain ⟨A7, c7, rfl⟩ := own_form hown7
                have hbk := HL6.out.blk.of_block (hgrow7.block _ HL6.out.blk.lt (fun e => HL6.out.ne _ e.symm rfl))
                have hne2 := own_type hown7 hbk (by decide)
                have HB7 := Lib.hid (HB6.out.grown hgrow7 HBS.out (fun j hj => (HL6.out.own.lt j hj).1))
                have hk3 := hbk.cell 3
                have hf3 := hbk.frozen 3
                simp only [lnC, List.getElem?_toArray, List.getElem?_cons_zero, List.getElem?_cons_succ] at hk3
                have HBK := Lib.hid hbk
                have HOW := Lib.hid (OGd.snoc hown7)
                have HNE := Lib.hid hne2
                clear hown7 hgrow7 hbk hne2
                go_wp2_with fail
                go_roundw
                case rel => exact ⟨k + 1, by omega, by go_num, ⟨.slice A7 (L.gs.length + 1) c7, by rw [HFS.out, HS.out]; exact ⟨HBK.out.set_ 3 _, row_of_block HOW.out (fun j hj => set_oth _ _ _ _ _ (HNE.out j hj)), hlow⟩⟩, HB7.out.setCell (p := ⟨w.heap.size + 1, 3, none⟩) hlow _⟩
                case measure => simp [intOf]; omega
            · obtain ⟨p, hp⟩ : ∃ p, L.gs.length = p + 1 := ⟨L.gs.length - 1, by omega⟩
              have j3 : ((L.gs.length : Int) == 0) = false := by rw [beq_eq_false_iff_ne]; omega
              obtain ⟨b2, o2, rfl, hb2, y0, y1⟩ := HGA.out p (by omega)
              have HBL := Lib.hid (behind_last (g := (x.e, x.c)) hp)
              obtain ⟨y, hy⟩ : ∃ y, L.gs[p]'(by omega) = y := ⟨_, rfl⟩
              rw [hy] at y0 y1 HBL
              have hwk : IntKind.i64.wrap ((L.gs.length : Int) - 1) = (p : Int) := by rw [IntWalk.i64_in _ (by have := HFL.out; omega)]; omega
              have hpl : (p : Int) < (L.gs.length : Int) := by omega
              have p0 : ∀ d os, (grow (redrawn W3 d) os).cell? ⟨b2, o2 + p * 2, none⟩ = some (.int .u64 (y.1 : Int)) := fun d os => cell_regrown y0 d os
              have p1 : ∀ d os, (grow (redrawn W3 d) os).cell? ⟨b2, o2 + p * 2 + 1, none⟩ = some (.int .u64 (y.2 : Int)) := fun d os => cell_regrown y1 d os
              have cA : ∀ d os, Calls Try.prog 43 #[.agg #[.int .u64 (x.e : Int), .int .u64 (x.c : Int)], .agg #[.int .u64 (y.1 : Int), .int .u64 (y.2 : Int)]] (grow (redrawn W3 d) os) fun e w'' => e = .returned (.bool (behind L.gs (x.e, x.c))) ∧ ∃ p : Regrown, w'' = grow (redrawn W3 p.d) p.os :=
                fun d os => Calls.regrown_of (by rw [HBL.out]; exact rabove_any (x.e, x.c) y _)
              clear hy y0 y1 hb2
              by_cases g4 : behind L.gs (x.e, x.c) = true
              · have HS := Lib.hid (HSY.out g1 g2 g4)
                rw [g4] at cA
                have HP := Lib.hid hp
                clear g1 g2 g3 g4 HSN HSY HBL hp
                go_upto_region 15 with fail
                refine wp_region_quiet_below rmixed (by kernel_rfl) ?_
                repeat (any_goals (first | go_big_quiet_step (exact cA _ _) | quiet_step (exact cA _ _)))
                refine wpQuiet_nil ?_
                intro _ hw'
                obtain ⟨⟨dq, osq⟩, hw''⟩ := hw'
                subst hw''
                have HB5 := Lib.hid (below_regrown W3 dq osq)
                clear cA p0 p1 hwk hpl
                obtain ⟨W, hW⟩ : ∃ z, grow (redrawn W3 dq) osq = z := ⟨_, rfl⟩
                rw [hW] at HB5 ⊢
                clear hW m0 m3 n0 n2 n3 c0 c1 c2 c3 q0 q1 q2 q3 f0 f1 f2 f3 hgl hxl
                have h5 := HL3.out.below HB5.out
                have hx5 := HX3.out.below HB5.out
                obtain ⟨c0, c1, c2, c3⟩ := h5.cells
                obtain ⟨e0, e1, e2, e3⟩ := Ent.cells hx5
                have f3 := h5.frozen 3
                have hgl2 := h5.blk.lt
                have hbl2 := hx5.lt
                have HN6 : Hid (∀ (j : Nat) (u : Value), (gdV (x.e, x.c))[j]? = some u → (W.alloc (.cells #[.int .u64 (x.e : Int), .int .u64 (x.c : Int)] 33)).cell? ((⟨W.heap.size, 0, none⟩ : Addr).add j) = some u) := by
                  intro j u hu
                  rw [addr_add, Nat.zero_add, (Blk.new W 33 #[.int .u64 (x.e : Int), .int .u64 (x.c : Int)]).cell j]
                  simpa [gdV] using hu
                have hb6 : Below W.heap.size W (W.alloc (.cells #[.int .u64 (x.e : Int), .int .u64 (x.c : Int)] 33)) := (Below.refl _ W).alloc (Nat.le_refl _) _
                have HL6 := Lib.hid (h5.below hb6)
                have HB6 : Hid (Below (w.heap.size + 1) W1 (W.alloc (.cells #[.int .u64 (x.e : Int), .int .u64 (x.c : Int)] 33))) := (HB3.out.trans (HB5.out.mono HSZ3.out)).trans (hb6.mono (Nat.le_trans HSZ3.out HB5.out.size))
                have HBS : Hid (w.heap.size + 1 ≤ (W.alloc (.cells #[.int .u64 (x.e : Int), .int .u64 (x.c : Int)] 33)).heap.size) := Nat.le_trans HSZ3.out (Nat.le_trans HB5.out.size hb6.size)
                have HFL6 := HFL.out
                clear h5 hx5 hb6
                go_wp2_with (at_builtin; refine wpList_append_own _ rfl (.tmp 82) (.tmp 85) 38 rfl (w.heap.size + 1) 33 i0 (.agg #[.int .u64 0, .int .u64 0]) 2 16 Try.underlying38 hi hz0 hz1 hz2 rfl (by decide) _ L.gs.length _ rfl HL6.out.own ⟨W.heap.size, 0, none⟩ 1 1 (gdV (x.e, x.c)) rfl rfl HN6.out (gdV_ones _) ?_ ?_ HBS.out ?_)
                · unfold maxLen; omega
                · omega
                · intro v7 w7 hown7 hgrow7 _
                  obtain ⟨A7, c7, rfl⟩ := own_form hown7
                  have hbk := HL6.out.blk.of_block (hgrow7.block _ HL6.out.blk.lt (fun e => HL6.out.ne _ e.symm rfl))
                  have hne2 := own_type hown7 hbk (by decide)
                  have HB7 := Lib.hid (HB6.out.grown hgrow7 HBS.out (fun j hj => (HL6.out.own.lt j hj).1))
                  have hk3 := hbk.cell 3
                  have hf3 := hbk.frozen 3
                  simp only [lnC, List.getElem?_toArray, List.getElem?_cons_zero, List.getElem?_cons_succ] at hk3
                  have HBK := Lib.hid hbk
                  have HOW := Lib.hid (OGd.snoc hown7)
                  have HNE := Lib.hid hne2
                  clear hown7 hgrow7 hbk hne2
                  go_wp2_with fail
                  go_roundw
                  case rel => exact ⟨k + 1, by omega, by go_num, ⟨.slice A7 (L.gs.length + 1) c7, by rw [HFS.out, HS.out]; exact ⟨HBK.out.set_ 3 _, row_of_block HOW.out (fun j hj => set_oth _ _ _ _ _ (HNE.out j hj)), hlow⟩⟩, HB7.out.setCell (p := ⟨w.heap.size + 1, 3, none⟩) hlow _⟩
                  case measure => simp [intOf]; omega
              · have HS := Lib.hid (HSN.out (fun h => g4 h.2.2))
                have g4' : behind L.gs (x.e, x.c) = false := by simpa using g4
                rw [g4'] at cA
                have HP := Lib.hid hp
                clear g1 g2 g3 g4 g4' HSN HSY HBL hp
                go_upto_region 15 with fail
                refine wp_region_quiet_below rmixed (by kernel_rfl) ?_
                repeat (any_goals (first | go_big_quiet_step (exact cA _ _) | quiet_step (exact cA _ _)))
                refine wpQuiet_nil ?_
                intro _ hw'
                obtain ⟨⟨dq, osq⟩, hw''⟩ := hw'
                subst hw''
                have HB5 := Lib.hid (below_regrown W3 dq osq)
                clear cA p0 p1 hwk hpl
                go_wp2_with fail
                go_roundw
                case rel => exact ⟨k + 1, by omega, by go_num, ⟨_, by rw [HFS.out, HS.out]; exact HL3.out.below HB5.out⟩, HB3.out.trans (HB5.out.mono HSZ3.out)⟩
                case measure => simp [intOf]; omega
          · have j2 : ((x.t : Int) == (L.ep : Int)) = false := by rw [beq_eq_false_iff_ne]; omega
            have HS := Lib.hid (HSN.out (fun h => g2 h.2.1))
            clear g1 g2 HSN HSY
            go_upto_region 15 with fail
            refine wp_region_quiet_below rmixed (by kernel_rfl) ?_
            repeat (any_goals (first | go_big_quiet_step (fail) | quiet_step (fail)))
            refine wpQuiet_nil ?_
            intro _ hw'
            obtain ⟨⟨dq, osq⟩, hw''⟩ := hw'
            subst hw''
            have HB5 := Lib.hid (below_regrown W3 dq osq)
            go_wp2_with fail
            go_roundw
            case rel => exact ⟨k + 1, by omega, by go_num, ⟨_, by rw [HFS.out, HS.out]; exact HL3.out.below HB5.out⟩, HB3.out.trans (HB5.out.mono HSZ3.out)⟩
            case measure => simp [intOf]; omega
        · have j1 : ((x.e : Int) == (x.t : Int)) = false := by rw [beq_eq_false_iff_ne]; omega
          have HS := Lib.hid (HSN.out (fun h => g1 h.1))
          clear g1 HSN HSY
          go_upto_region 15 with fail
          refine wp_region_quiet_below rmixed (by kernel_rfl) ?_
          repeat (any_goals (first | go_big_quiet_step (fail) | quiet_step (fail)))
          refine wpQuiet_nil ?_
          intro _ hw'
          obtain ⟨⟨dq, osq⟩, hw''⟩ := hw'
          subst hw''
          have HB5 := Lib.hid (below_regrown W3 dq osq)
          go_wp2_with fail
          go_roundw
          case rel => exact ⟨k + 1, by omega, by go_num, ⟨_, by rw [HFS.out, HS.out]; exact HL3.out.below HB5.out⟩, HB3.out.trans (HB5.out.mono HSZ3.out)⟩
          case measure => simp [intOf]; omega
      · have i1 : (x.k == 1) = false := by simpa using h1
        have i2 : (x.k == 2) = false := by simpa using h2
        have i3 : (x.k == 3) = false := by simpa using h3
        have HS : Hid (foldN l (k + 1) = L) := by unfold Hid; rw [HFS.out]; unfold says; rw [if_neg h1, if_neg h2, if_neg h3]
        clear h1 h2 h3
        go_wp2_with fail
        go_roundw
        case rel => exact ⟨k + 1, by omega, by go_num, ⟨_, by rw [HS.out]; exact HL3.out⟩, HB3.out⟩
        case measure => simp [intOf]; omega
    · have hkn : k = n := by omega
      have HLF : Hid (LnIs wr (w.heap.size + 1) (w.heap.size + 1) (foldN l n) v) := by rw [← hkn]; exact HLN.out
      have hrk : Blk wr w.heap.size 40 lnZ := HR1.out.of_block (HBK.out.block _ (Nat.lt_succ_self _))
      obtain ⟨L, hL⟩ : ∃ L, foldN l n = L := ⟨_, rfl⟩
      rw [hL] at HLF
      have HLE := Lib.hid hL
      obtain ⟨A', c', rfl⟩ := own_form HLF.out.own
      obtain ⟨c0, c1, c2, c3⟩ := HLF.out.cells
      have hgl := HLF.out.blk.lt
      have r0 := hrk.cell 0
      have r1 := hrk.cell 1
      have r2 := hrk.cell 2
      have r3 := hrk.cell 3
      have f0 := hrk.frozen 0
      have f1 := hrk.frozen 1
      have f2 := hrk.frozen 2
      have f3 := hrk.frozen 3
      have hrl := hrk.lt
      simp only [lnZ, List.getElem?_toArray, List.getElem?_cons_zero, List.getElem?_cons_succ] at r0 r1 r2 r3
      have HRK := Lib.hid hrk
      have HN2K := Lib.hid (HN2.out k hlt)
      clear hrk hkn hk hL HLN hlt
      have hor : (¬ (k : Int) < (l.length : Int)) ∨ ((k : Int) < (l.length : Int) ∧ ¬ (k : Int) < cm) := by
        by_cases h : k < l.length
        · exact .inr ⟨by omega, by have := HN2K.out h; omega⟩
        · exact .inl (by omega)
      rcases hor with hg | ⟨hg, hg2⟩
      all_goals
        go_wp2_with fail
        show bodyPost _ _ _ _ _ (setLn wr w.heap.size L (.slice A' L.gs.length c'))
        have hbl := setLn_blk (L := L) (v := .slice A' L.gs.length c') HRK.out
        have HFE := Lib.hid (fold_end HLF.out HRK.out)
        have HBE := Lib.hid (setLn_below (L := L) (v := .slice A' L.gs.length c') HBW.out (Nat.le_refl _))
        obtain ⟨WF, hWF⟩ : ∃ z, setLn wr w.heap.size L (.slice A' L.gs.length c') = z := ⟨_, rfl⟩
        rw [hWF] at hbl HFE HBE ⊢
        clear hWF c0 c1 c2 c3 r0 r1 r2 r3 f0 f1 f2 f3 hgl hrl
        have e0 := hbl.cell 0
        have e1 := hbl.cell 1
        have e2 := hbl.cell 2
        have e3 := hbl.cell 3
        simp only [lnC, List.getElem?_toArray, List.getElem?_cons_zero, List.getElem?_cons_succ] at e0 e1 e2 e3
        refine bodyPost_ret (v := .agg (lnC L (.slice A' L.gs.length c'))) (by simp [results, Try.results25, go_sem, lnC, e0, e1, e2, e3]) rfl ?_
        exact ⟨_, rfl, by rw [HLE.out]; exact HFE.out, HBE.out⟩
end Go.Proofs.Ytnnjcabgaefhcaa.lg


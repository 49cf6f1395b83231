/- ChainBack: behind a rollback a chain is as it was when it had so many snapshots, of all writes and numbers. -/
import Derived.Test.YtfinmfmbbgakhaaQ12
import Derived.Test.YtfinmfmbbgakhaaQ13
import Derived.Test.YtfinmfmbbgakhaaRows
import Derived.Deep.DeepHandedRow
import Derived.ProofKit
import Derived.OpenShut
import Derived.ShutString
import Derived.SizedLaws
import Derived.ChangeOld
import Derived.Below
import Derived.SliceStrings
/- Chains that are made round by round: what they are, and what their changes make. -/
namespace Go.Proofs.Ytfinmfmbbgakhaa.ch
open Go Go.RowKit Go.Proofs.Ytfinmfmbbgakhaa.ib
set_option maxRecDepth 100000

def rdL (l : List Bt) (zs : List (Int × UInt8)) : List Bt := (roundP ⟨l, []⟩ zs).live
theorem wr1_eq (l : List Bt) (ss : List Sn) (x : Int × UInt8) : wr1 ⟨l, ss⟩ x = ⟨(wr1 ⟨l, []⟩ x).live, ss⟩ := by
  unfold wr1 CH.write
  dsimp only
  split <;> rfl
theorem wr1_nil (l : List Bt) (x : Int × UInt8) : (wr1 ⟨l, []⟩ x).snaps = [] := by rw [wr1_eq]
theorem fold_eq : ∀ (zs : List (Int × UInt8)) (l : List Bt) (ss : List Sn), zs.foldl wr1 ⟨l, ss⟩ = ⟨(zs.foldl wr1 ⟨l, []⟩).live, ss⟩
  | [], _, _ => rfl
  | x :: zs, l, ss => by
    rw [List.foldl_cons, List.foldl_cons, wr1_eq l ss x, wr1_eq l [] x, fold_eq zs _ ss]
theorem roundP_eq (l : List Bt) (ss : List Sn) (zs : List (Int × UInt8)) : roundP ⟨l, ss⟩ zs = ⟨rdL l zs, ss⟩ := by
  unfold rdL roundP
  rw [fold_eq]
theorem wr1_ok {n : Nat} {l : List Bt} (h : volOk n l) (x : Int × UInt8) : volOk n (wr1 ⟨l, []⟩ x).live := by
  unfold wr1 CH.write
  split
  · exact h
  · rename_i hc
    exact set_ok h (by simpa using fun h1 => hc (.inr (.inr h1)))
theorem fold_ok {n : Nat} : ∀ (zs : List (Int × UInt8)) (l : List Bt), volOk n l → volOk n (zs.foldl wr1 ⟨l, []⟩).live
  | [], _, h => h
  | x :: zs, l, h => by
    rw [List.foldl_cons, wr1_eq l [] x]
    exact fold_ok zs _ (wr1_ok h x)
theorem rdL_ok {n : Nat} {l : List Bt} (h : volOk n l) (zs : List (Int × UInt8)) : volOk n (rdL l zs) := fold_ok _ l h

/-- The live volume behind so many rounds. -/
def lv (zss : List (List (Int × UInt8))) : Nat → List Bt
  | 0 => zvol 8
  | i + 1 => rdL (lv zss i) (zss.getD i [])
theorem lv_ok (zss : List (List (Int × UInt8))) : ∀ i, volOk 8 (lv zss i)
  | 0 => zvol_ok 8
  | i + 1 => rdL_ok (lv_ok zss i) _
def snAt (gd : Nat → Gd) (zss : List (List (Int × UInt8))) (i : Nat) : Sn := ⟨gd i, lv zss (i + 1), false⟩
/-- The chain with so many snapshots. -/
def aS (gd : Nat → Gd) (zss : List (List (Int × UInt8))) (n : Nat) : CH := ⟨lv zss n, (List.range n).map (snAt gd zss)⟩

structure Rises (gd : Nat → Gd) : Prop where
  first : above (gd 0) (0, 0) = true
  next : ∀ i, above (gd (i + 1)) (gd i) = true
  inj : ∀ i j, gd i = gd j → i = j

section
variable {gd : Nat → Gd} (hg : Rises gd) {zss : List (List (Int × UInt8))}
theorem aS_zero : aS gd zss 0 = chNew 8 := rfl
theorem aS_len (n : Nat) : (aS gd zss n).snaps.length = n := by simp [aS]
theorem aS_snaps_succ (n : Nat) : (aS gd zss (n + 1)).snaps = (aS gd zss n).snaps ++ [snAt gd zss n] := by
  unfold aS
  rw [List.range_succ, List.map_append]
  rfl
theorem aS_last (n : Nat) : (aS gd zss (n + 1)).last = gd n := by
  unfold CH.last
  rw [aS_snaps_succ]
  simp [snAt]
theorem aS_live (n : Nat) : (aS gd zss n).live = lv zss n := rfl
theorem aS_live_len (n : Nat) : (aS gd zss n).live.length = 8 := (lv_ok zss n).1
theorem aS_base (n : Nat) : (aS gd zss n).base = lv zss n := by
  cases n with
  | zero => rfl
  | succ n =>
    unfold CH.base
    rw [aS_snaps_succ]
    simp [snAt]
include hg
theorem aS_may (n : Nat) (h : n < 20) : (aS gd zss n).may (gd n) = 0 := by
  have ha : above (gd n) (aS gd zss n).last = true := by
    cases n with
    | zero => exact hg.first
    | succ n => rw [aS_last]; exact hg.next n
  unfold CH.may
  rw [ha, if_pos rfl, if_neg (by rw [aS_len]; omega)]
/-- One round, and one snapshot more. -/
theorem aS_step (n : Nat) (h : n < 20) : (roundP (aS gd zss n) (zss.getD n [])).snap (gd n) = (aS gd zss (n + 1), 0) := by
  have hr : roundP (aS gd zss n) (zss.getD n []) = ⟨lv zss (n + 1), (aS gd zss n).snaps⟩ := roundP_eq _ _ _
  have hm : (⟨lv zss (n + 1), (aS gd zss n).snaps⟩ : CH).may (gd n) = 0 := aS_may hg n h
  rw [hr]
  unfold CH.snap
  rw [if_pos hm]
  congr 1
  show CH.mk _ _ = CH.mk _ _
  congr 1
  exact (aS_snaps_succ n).symm
omit hg
theorem aS_take (n k : Nat) (h : k ≤ n) : (aS gd zss n).snaps.take k = (aS gd zss k).snaps := by
  unfold aS
  dsimp only
  rw [← List.map_take, List.take_range, Nat.min_eq_left h]
/-- Rolled back. -/
theorem aS_roll (n k : Nat) (h : k ≤ n) : (aS gd zss n).roll (k : Int) = (aS gd zss k, 0) := by
  unfold CH.roll
  rw [if_neg (by rw [aS_len]; omega), Int.toNat_natCast, aS_take n k h]
  congr 1
  show CH.mk _ _ = CH.mk _ _
  congr 1
  have hb := aS_base (gd := gd) (zss := zss) k
  unfold CH.base at hb ⊢
  dsimp only
  cases hl : (aS gd zss k).snaps.getLast? with
  | none =>
    rw [hl] at hb
    dsimp only at hb ⊢
    rw [aS_live_len] at hb ⊢
    exact hb
  | some s =>
    rw [hl] at hb
    exact hb
theorem aS_list_len (n : Nat) : (aS gd zss n).list.length = n := by unfold CH.list; rw [List.length_map, aS_len]
theorem aS_vol (n k : Nat) (h : k < n) : (aS gd zss n).volAt k = lv zss (k + 1) := by
  unfold CH.volAt aS
  dsimp only
  rw [List.getElem?_map, List.getElem?_range h]
  rfl
theorem aS_prev (n k : Nat) (h : k < n) : (aS gd zss n).prev k = lv zss k := by
  unfold CH.prev
  split
  · rename_i h0
    subst h0
    rw [aS_live_len]
    rfl
  · rw [aS_vol n (k - 1) (by omega), Nat.sub_add_cancel (by omega)]
theorem aS_changes (n k : Nat) (h : k < n) : (aS gd zss n).changes (k : Int) = (diffs (lv zss k) (lv zss (k + 1)), 0) := by
  unfold CH.changes
  rw [if_neg (by rw [aS_len]; omega), Int.toNat_natCast, aS_prev n k h, aS_vol n k h]
end
theorem diffs_len (p q : List Bt) : (diffs p q).length ≤ q.length := by
  unfold diffs
  exact Nat.le_trans (List.length_filterMap_le _ _) (by simp)
theorem diffs_b64 {p q : List Bt} (h : q.length ≤ 1000) : ∀ x ∈ diffs p q, b64 x.1 := by
  intro x hx
  unfold diffs at hx
  obtain ⟨i, hi, he⟩ := List.mem_filterMap.1 hx
  have := List.mem_range.1 hi
  split at he
  · cases he
  · simp only [Option.some.injEq] at he
    rw [← he]
    unfold b64
    dsimp only
    omega
end Go.Proofs.Ytfinmfmbbgakhaa.ch

/- Two chains side by side, behind a mark. -/
namespace Go.Proofs.Ytfinmfmbbgakhaa.ch
open Go Go.RowKit Go.Proofs.Ytfinmfmbbgakhaa.ib
set_option maxRecDepth 100000

/-- Two chains; X: other blocks that neither has. -/
def Pr (Is : IsT) (w : World) (m p q : Nat) (d e : CH) (X : Nat → Prop) : Prop :=
  ∃ own own2, Is own w p d ∧ Is own2 w q e ∧ (∀ j, own j → m ≤ j ∧ ¬ own2 j ∧ ¬ X j) ∧ (∀ j, own2 j → m ≤ j ∧ ¬ X j) ∧ ∀ j, X j → j < w.heap.size
/-- All below m, and all of X, stays. -/
def Kp (m : Nat) (X : Nat → Prop) (w w' : World) : Prop := But (fun j => m ≤ j ∧ ¬ X j) w w'
section
variable {Is : IsT} (H : Impl Is) {w w' : World} {m p q : Nat} {d e : CH} {X : Nat → Prop}
theorem Kp.below (h : Kp m X w w') (hm : m ≤ w.heap.size) : Below m w w' := But.below h (fun _ hi => hi.1) hm
theorem Kp.of_below (h : Below w.heap.size w w') : Kp m X w w' := But.of_below h
theorem Kp.refl (w : World) : Kp m X w w := But.refl _ _
theorem Kp.trans {a b c : World} (h : Kp m X a b) (k : Kp m X b c) : Kp m X a c := But.trans h k (fun _ hi => .inl hi)
theorem Kp.block (h : Kp m X w w') {j : Nat} (hj : j < w.heap.size) (hx : X j ∨ j < m) : w'.heap[j]? = w.heap[j]? := But.block h j hj (fun hs => by rcases hx with h | h; exact hs.2 h; omega)
include H
theorem Pr.below (h : Pr Is w m p q d e X) (hb : Below w.heap.size w w') : Pr Is w' m p q d e X := by
  obtain ⟨o1, o2, h1, h2, h3, h4, h5⟩ := h
  exact ⟨o1, o2, H.keep h1 (fun j hj => hb.block j (H.low h1 j hj)) hb.size, H.keep h2 (fun j hj => hb.block j (H.low h2 j hj)) hb.size, h3, h4, fun j hj => Nat.lt_of_lt_of_le (h5 j hj) hb.size⟩
theorem pr_left {own own' own2 : Nat → Prop} {d' : CH} (hm : m ≤ w.heap.size) (h2 : Is own2 w q e) (h3 : ∀ j, own j → m ≤ j ∧ ¬ own2 j ∧ ¬ X j) (h4 : ∀ j, own2 j → m ≤ j ∧ ¬ X j) (h5 : ∀ j, X j → j < w.heap.size) (hi : Is own' w' p d') (hb : But own w w') (hg : ∀ j, own' j → own j ∨ w.heap.size ≤ j) :
    Pr Is w' m p q d' e X ∧ Kp m X w w' := by
  refine ⟨⟨own', own2, hi, H.keep h2 (fun j hj => hb.block j (H.low h2 j hj) (fun ho => (h3 j ho).2.1 hj)) hb.size, fun j hj => ?_, h4, fun j hj => Nat.lt_of_lt_of_le (h5 j hj) hb.size⟩, hb.mono (fun j hj => ⟨(h3 j hj).1, (h3 j hj).2.2⟩)⟩
  rcases hg j hj with h | h
  · exact h3 j h
  · exact ⟨by omega, fun ho => by have := H.low h2 j ho; omega, fun hx => by have := h5 j hx; omega⟩
theorem pr_right {own own2 own2' : Nat → Prop} {e' : CH} (hm : m ≤ w.heap.size) (h1 : Is own w p d) (h3 : ∀ j, own j → m ≤ j ∧ ¬ own2 j ∧ ¬ X j) (h4 : ∀ j, own2 j → m ≤ j ∧ ¬ X j) (h5 : ∀ j, X j → j < w.heap.size) (hi : Is own2' w' q e') (hb : But own2 w w') (hg : ∀ j, own2' j → own2 j ∨ w.heap.size ≤ j) :
    Pr Is w' m p q d e' X ∧ Kp m X w w' := by
  refine ⟨⟨own, own2', H.keep h1 (fun j hj => hb.block j (H.low h1 j hj) (fun ho => (h3 j hj).2.1 ho)) hb.size, hi, fun j hj => ⟨(h3 j hj).1, fun ho => ?_, (h3 j hj).2.2⟩, fun j hj => ?_, fun j hj => Nat.lt_of_lt_of_le (h5 j hj) hb.size⟩, hb.mono (fun j hj => h4 j hj)⟩
  · rcases hg j ho with h | h
    · exact (h3 j hj).2.1 h
    · have := H.low h1 j hj; omega
  · rcases hg j hj with h | h
    · exact h4 j h
    · exact ⟨by omega, fun hx => by have := h5 j hx; omega⟩

theorem pl_round (h : Pr Is w m p q d e X) (hm : m ≤ w.heap.size) (A : Option Addr) (cp : Nat) (zs : List (Int × UInt8)) (hT : PtL w A zs) (hA : 0 < zs.length → ∀ b o, A = some ⟨b, o, none⟩ → b < m) (hl : zs.length ≤ 9223372036854775807) :
    Calls Try.prog 18 #[.pointer (some ⟨p, 0, none⟩), .slice A zs.length cp] w fun x w' => x = .returned (.tuple #[]) ∧ Pr Is w' m p q (roundP d zs) e X ∧ Kp m X w w' := by
  obtain ⟨o1, o2, h1, h2, h3, h4, h5⟩ := h
  refine (round_any H w h1 A cp zs hT (fun h0 b o hb ho => by have := (h3 b ho).1; have := hA h0 b o hb; omega) hl).mono ?_
  rintro x w' ⟨hx, o', hi, hb, hg⟩
  exact ⟨hx, pr_left H hm h2 h3 h4 h5 hi hb hg⟩
theorem pr_round (h : Pr Is w m p q d e X) (hm : m ≤ w.heap.size) (A : Option Addr) (cp : Nat) (zs : List (Int × UInt8)) (hT : PtL w A zs) (hA : 0 < zs.length → ∀ b o, A = some ⟨b, o, none⟩ → b < m) (hl : zs.length ≤ 9223372036854775807) :
    Calls Try.prog 18 #[.pointer (some ⟨q, 0, none⟩), .slice A zs.length cp] w fun x w' => x = .returned (.tuple #[]) ∧ Pr Is w' m p q d (roundP e zs) X ∧ Kp m X w w' := by
  obtain ⟨o1, o2, h1, h2, h3, h4, h5⟩ := h
  refine (round_any H w h2 A cp zs hT (fun h0 b o hb ho => by have := (h4 b ho).1; have := hA h0 b o hb; omega) hl).mono ?_
  rintro x w' ⟨hx, o', hi, hb, hg⟩
  exact ⟨hx, pr_right H hm h1 h3 h4 h5 hi hb hg⟩
theorem pl_snap (h : Pr Is w m p q d e X) (hm : m ≤ w.heap.size) (g : Gd) (hg : gdB g) {r : CH × Int} (hr : d.snap g = r) :
    Calls Try.prog 19 #[.pointer (some ⟨p, 0, none⟩), gv g] w fun x w' => x = .returned (.int .i64 r.2) ∧ Pr Is w' m p q r.1 e X ∧ Kp m X w w' := by
  obtain ⟨o1, o2, h1, h2, h3, h4, h5⟩ := h
  subst hr
  refine (H.snap g h1 hg).mono ?_
  rintro x w' ⟨hx, o', hi, hb, hg⟩
  exact ⟨hx, pr_left H hm h2 h3 h4 h5 hi hb hg⟩
theorem pr_snap (h : Pr Is w m p q d e X) (hm : m ≤ w.heap.size) (g : Gd) (hg : gdB g) {r : CH × Int} (hr : e.snap g = r) :
    Calls Try.prog 19 #[.pointer (some ⟨q, 0, none⟩), gv g] w fun x w' => x = .returned (.int .i64 r.2) ∧ Pr Is w' m p q d r.1 X ∧ Kp m X w w' := by
  obtain ⟨o1, o2, h1, h2, h3, h4, h5⟩ := h
  subst hr
  refine (H.snap g h2 hg).mono ?_
  rintro x w' ⟨hx, o', hi, hb, hg⟩
  exact ⟨hx, pr_right H hm h1 h3 h4 h5 hi hb hg⟩
theorem pl_roll (h : Pr Is w m p q d e X) (hm : m ≤ w.heap.size) (k : Int) (hk : b64 k) {r : CH × Int} (hr : d.roll k = r) :
    Calls Try.prog 15 #[.pointer (some ⟨p, 0, none⟩), .int .i64 k] w fun x w' => x = .returned (.int .i64 r.2) ∧ Pr Is w' m p q r.1 e X ∧ Kp m X w w' := by
  obtain ⟨o1, o2, h1, h2, h3, h4, h5⟩ := h
  subst hr
  refine (H.roll k h1 hk).mono ?_
  rintro x w' ⟨hx, o', hi, hb, hg⟩
  exact ⟨hx, pr_left H hm h2 h3 h4 h5 hi hb hg⟩
/-- What b adds lies in X. -/
theorem pr_add (h : Pr Is w m p q d e X) (hm : m ≤ w.heap.size) (g : Gd) (hg : gdB g) (A : Option Addr) (c : Nat) (x : List (Int × Bt)) (hx : ChL w A x) (hl : x.length ≤ 1000) (hA : ∀ b o, A = some ⟨b, o, none⟩ → X b) {r : CH × Int} (hr : e.add g x = r) :
    Calls Try.prog 23 #[.pointer (some ⟨q, 0, none⟩), gv g, .slice A x.length c] w fun x w' => x = .returned (.int .i64 r.2) ∧ Pr Is w' m p q d r.1 X ∧ Kp m X w w' := by
  obtain ⟨o1, o2, h1, h2, h3, h4, h5⟩ := h
  subst hr
  refine (H.add g A c x h2 hg hx hl (fun b o hb ho => (h4 b ho).2 (hA b o hb))).mono ?_
  rintro x w' ⟨hx, o', hi, hb, hg⟩
  exact ⟨hx, pr_right H hm h1 h3 h4 h5 hi hb hg⟩
theorem pl_list (h : Pr Is w m p q d e X) : Calls Try.prog 25 #[.pointer (some ⟨p, 0, none⟩)] w (okGd d.list w) := by
  obtain ⟨o1, o2, h1, h2, _⟩ := h
  exact H.list h1
theorem pr_list (h : Pr Is w m p q d e X) : Calls Try.prog 25 #[.pointer (some ⟨q, 0, none⟩)] w (okGd e.list w) := by
  obtain ⟨o1, o2, h1, h2, _⟩ := h
  exact H.list h2
theorem pl_live (h : Pr Is w m p q d e X) : Calls Try.prog 21 #[.pointer (some ⟨p, 0, none⟩)] w (okTx d.live w) := by
  obtain ⟨o1, o2, h1, h2, _⟩ := h
  exact H.live h1
theorem pr_live (h : Pr Is w m p q d e X) : Calls Try.prog 21 #[.pointer (some ⟨q, 0, none⟩)] w (okTx e.live w) := by
  obtain ⟨o1, o2, h1, h2, _⟩ := h
  exact H.live h2
theorem pl_changes (h : Pr Is w m p q d e X) (k : Int) (hk : b64 k) {r : List (Int × Bt) × Int} (hr : d.changes k = r) : Calls Try.prog 22 #[.pointer (some ⟨p, 0, none⟩), .int .i64 k] w (okChE r w) := by
  obtain ⟨o1, o2, h1, h2, _⟩ := h
  subst hr
  exact H.changes k h1 hk
theorem pr_changes (h : Pr Is w m p q d e X) (k : Int) (hk : b64 k) {r : List (Int × Bt) × Int} (hr : e.changes k = r) : Calls Try.prog 22 #[.pointer (some ⟨q, 0, none⟩), .int .i64 k] w (okChE r w) := by
  obtain ⟨o1, o2, h1, h2, _⟩ := h
  subst hr
  exact H.changes k h2 hk
theorem pl_read (h : Pr Is w m p q d e X) (g : Gd) (hg : gdB g) {r : List Bt × Int} (hr : d.read g = r) : Calls Try.prog 24 #[.pointer (some ⟨p, 0, none⟩), gv g] w (okTxE r w) := by
  obtain ⟨o1, o2, h1, h2, _⟩ := h
  subst hr
  exact H.read g h1 hg
theorem pr_read (h : Pr Is w m p q d e X) (g : Gd) (hg : gdB g) {r : List Bt × Int} (hr : e.read g = r) : Calls Try.prog 24 #[.pointer (some ⟨q, 0, none⟩), gv g] w (okTxE r w) := by
  obtain ⟨o1, o2, h1, h2, _⟩ := h
  subst hr
  exact H.read g h2 hg
/-- New blocks may come to X: those that lie behind both chains. -/
theorem Pr.more (h : Pr Is w m p q d e X) (hb : Below w.heap.size w w') {Y : Nat → Prop} (hY : ∀ j, Y j → X j ∨ (w.heap.size ≤ j ∧ j < w'.heap.size)) : Pr Is w' m p q d e Y := by
  obtain ⟨o1, o2, h1, h2, h3, h4, h5⟩ := h
  refine ⟨o1, o2, H.keep h1 (fun j hj => hb.block j (H.low h1 j hj)) hb.size, H.keep h2 (fun j hj => hb.block j (H.low h2 j hj)) hb.size, fun j hj => ⟨(h3 j hj).1, (h3 j hj).2.1, fun hy => ?_⟩, fun j hj => ⟨(h4 j hj).1, fun hy => ?_⟩, fun j hj => ?_⟩
  · rcases hY j hy with h | h
    · exact (h3 j hj).2.2 h
    · have := H.low h1 j hj; omega
  · rcases hY j hy with h | h
    · exact (h4 j hj).2 h
    · have := H.low h2 j hj; omega
  · rcases hY j hj with h | h
    · exact Nat.lt_of_lt_of_le (h5 j h) hb.size
    · exact h.2
/-- Both, new. -/
theorem two_new (W : World) (hw : Below w.heap.size w W) {own : Nat → Prop} (h1 : Is own W p (chNew 8)) (ho : ∀ j, own j → w.heap.size ≤ j) :
    Calls Try.prog 8 #[.int .i64 8] W fun x w' => ∃ q, x = .returned (.pointer (some ⟨q, 0, none⟩)) ∧ Pr Is w' w.heap.size p q (chNew 8) (chNew 8) (fun _ => False) ∧ Below w.heap.size w w' := by
  refine (H.new_some 8 W (by decide) (by decide)).mono ?_
  rintro x w' ⟨q, own2, hx, h2, hb, ho2⟩
  refine ⟨q, hx, ⟨own, own2, H.keep h1 (fun j hj => hb.block j (H.low h1 j hj)) hb.size, h2, fun j hj => ⟨ho j hj, fun h => ?_, fun h => h⟩, fun j hj => ⟨Nat.le_trans hw.size (ho2 j hj), fun h => h⟩, fun j h => h.elim⟩, below_step hw hb⟩
  have a1 := H.low h1 j hj
  have a2 := ho2 j h
  omega
end
end Go.Proofs.Ytfinmfmbbgakhaa.ch

/- The walk of ChainBack. -/
namespace Go.Proofs.Ytfinmfmbbgakhaa.ch
open Go Go.RowKit Go.Sort Go.Proofs.Ytfinmfmbbgakhaa.ib
set_option maxRecDepth 100000

def gd2 (i : Nat) : Gd := (2, i)
theorem gd2_rises : Rises gd2 := ⟨by decide, fun i => by unfold above gd2; simp, fun i j h => by unfold gd2 at h; exact (Prod.mk.inj h).2⟩
theorem PssL.below {w w' : World} {A : Option Addr} {zss : List (List (Int × UInt8))} (h : PssL w A zss) (hb : Below w.heap.size w w') : PssL w' A zss := by
  intro i hi
  obtain ⟨b, o, A1, c1, h1, h2, h3, h4, h5⟩ := h i hi
  exact ⟨b, o, A1, c1, h1, Nat.lt_of_lt_of_le h2 hb.size, by rw [hb.cell (p := ⟨b, o + i, none⟩) h2]; exact h3, h4.below hb, h5⟩

theorem aS_99 {zss : List (List (Int × UInt8))} (n : Nat) (h : n ≤ 15) : ∃ d, (aS gd2 zss n).snap (2, 99) = (d, 0) := by
  have ha : above (2, 99) (aS gd2 zss n).last = true := by
    cases n with
    | zero => rw [aS_zero]; decide
    | succ n =>
      rw [aS_last]
      unfold above gd2
      have : n < 99 := by omega
      simp [this]
  have hm : (aS gd2 zss n).may (2, 99) = 0 := by
    unfold CH.may
    rw [ha, if_pos rfl, if_neg (by rw [aS_len]; omega)]
  unfold CH.snap
  rw [if_pos hm]
  exact ⟨_, rfl⟩

def BcRel (Is : IsT) (zss : List (List (Int × UInt8))) (p q M stay m : Nat) (w : World) (i : Value) (wr : World) : Prop :=
  ∃ k : Nat, k ≤ M ∧ i = .int .i64 (k : Int) ∧ Pr Is wr m p q (aS gd2 zss k) (aS gd2 zss (min k stay)) (fun _ => False) ∧ Below m w wr
def CmpRel (n : Nat) (w : World) (i : Value) (wr : World) : Prop := ∃ k : Nat, k ≤ n ∧ i = .int .i64 (k : Int) ∧ Below w.heap.size w wr
def Bc3Rel (Is : IsT) (zss : List (List (Int × UInt8))) (p q stay m : Nat) (w : World) (i : Value) (wr : World) : Prop :=
  ∃ k : Nat, k ≤ stay ∧ i = .int .i64 (k : Int) ∧ Pr Is wr m p q (aS gd2 zss stay) (aS gd2 zss stay) (fun _ => False) ∧ Below m w wr

set_option maxHeartbeats 25600000 in
theorem chainBack_walk {Is : IsT} (H : Impl Is) (A : Option Addr) (c : Nat) (zss : List (List (Int × UInt8))) (n : Int) (hn : (Lit.int .u8 n).wf = true) (w : World) (hl : zss.length ≤ 9223372036854775807) (hT : PssL w A zss) :
    Calls Try.prog 5 #[.slice A zss.length c, .int .u8 n] w (okTrue w) := by
  obtain ⟨nn, rfl⟩ := u8_of hn
  have hnn := nn.toNat_lt
  have HT := Lib.hid hT
  clear hT hn
  obtain ⟨M, hM⟩ : ∃ M : Nat, M = min zss.length 15 := ⟨_, rfl⟩
  have hMi : (if (15 : Int) < (zss.length : Int) then (15 : Int) else (zss.length : Int)) = (M : Int) := by split <;> omega
  have hM15 : M ≤ 15 := by omega
  have hMl : M ≤ zss.length := by omega
  obtain ⟨stay, hst⟩ : ∃ s, s = nn.toNat % (M + 1) := ⟨_, rfl⟩
  have hstM : stay ≤ M := by have := Nat.mod_lt nn.toNat (show 0 < M + 1 by omega); omega
  have hsti : ((nn.toNat : Nat) : Int).tmod ((M : Int) + 1) = (stay : Int) := by
    rw [Int.tmod_eq_emod_of_nonneg (by omega), hst]
    push_cast
    rfl
  clear hM hst
  generalize nn.toNat = nz at *
  go_enter Try.func5, Try.ntmps5
  go_wp2_with fail
  refine (works_any H w).mono ?_
  rintro e W0 ⟨rfl, b0⟩
  have B0 := Lib.hid b0
  clear b0
  go_wp2_with fail
  refine (H.new_some 8 W0 (by decide) (by decide)).mono ?_
  rintro e W1 ⟨p, own, rfl, hi, hb, ho⟩
  have H2 := Lib.hid (two_new H (w := w) W1 (below_step B0.out hb) hi (fun j hj => Nat.le_trans B0.out.size (ho j hj)))
  clear hi hb ho B0
  go_wp2_with fail
  refine H2.out.mono ?_
  rintro e W2 ⟨q, rfl, hp, hb⟩
  have HP := Lib.hid hp
  have B2 := Lib.hid hb
  clear hp hb H2
  go_wp2_with fail
  go_loopw [9] (fun i wr => BcRel Is zss p q M stay w.heap.size w i wr) (fun i _ => M - (intOf i).toNat)
  case atStart => exact ⟨0, Nat.zero_le _, rfl, by rw [Nat.zero_min]; exact HP.out, B2.out⟩
  case round =>
    clear HP B2
    obtain ⟨k, hk, rfl, hp, hb⟩ := hrel
    have HP := Lib.hid hp
    have HB := Lib.hid hb
    have HB0 := Lib.hid hb
    clear hp hb
    by_cases hlt : k < M
    · have hkM : (k : Int) < (M : Int) := by omega
      have hkl : (k : Int) < (zss.length : Int) := by omega
      have hkz : k < zss.length := by omega
      obtain ⟨b, o, A1, c1, rfl, hbl, hc, hz, hzl⟩ := HT.out k hkz
      have ec : wr.cell? ⟨b, o + k, none⟩ = some (.slice A1 zss[k].length c1) := by rw [HB.out.cell (p := ⟨b, o + k, none⟩) hbl]; exact hc
      have lc : b < wr.heap.size := Nat.lt_of_lt_of_le hbl HB.out.size
      have hgd : zss.getD k [] = zss[k] := by simp [List.getD, hkz]
      have HGD := Lib.hid hgd
      have HZ := Lib.hid hz
      have HC := Lib.hid hc
      have HBL := Lib.hid hbl
      have HAZ : Hid (0 < zss[k].length → ∀ b o, A1 = some ⟨b, o, none⟩ → b < w.heap.size) := fun h0 b o e => by
        obtain ⟨b', o', e', h', _⟩ := hz 0 h0
        rw [e] at e'
        cases e'
        exact h'
      have HMW : Hid (w.heap.size ≤ wr.heap.size) := HB.out.size
      clear hgd hz hc hbl
      have hs1 : (roundP (aS gd2 zss k) zss[k]).snap (2, k) = (aS gd2 zss (k + 1), 0) := by rw [← HGD.out]; exact aS_step gd2_rises k (by omega)
      have HS1 := Lib.hid hs1
      have hgb : gdB (2, k) := ⟨by show 2 < _; omega, by show k < _; omega⟩
      have HGB := Lib.hid hgb
      clear hs1 hgb
      go_wp2_with fail
      refine (pl_round H HP.out HMW.out A1 c1 zss[k] (HZ.out.below HB0.out) HAZ.out hzl).mono ?_
      rintro e V1 ⟨rfl, hp, hk1⟩
      have HP1 := Lib.hid hp
      have HB1 := Lib.hid (HB.out.trans (hk1.below HMW.out))
      have HM1 : Hid (w.heap.size ≤ V1.heap.size) := Nat.le_trans HMW.out hk1.size
      clear hp hk1 HP HB HMW ec lc
      go_wp2_with fail
      refine (guid_any 2 k V1).mono ?_
      rintro e V2 ⟨rfl, b2⟩
      have HP2 := Lib.hid (Pr.below H HP1.out b2)
      have HB2 := Lib.hid (HB1.out.trans (b2.mono HM1.out))
      have HM2 : Hid (w.heap.size ≤ V2.heap.size) := Nat.le_trans HM1.out b2.size
      clear b2 HP1 HB1 HM1
      go_wp2_with fail
      refine (pl_snap H HP2.out HM2.out (2, k) HGB.out HS1.out).mono ?_
      rintro e V3 ⟨rfl, hp, hk3⟩
      dsimp only at hp
      have HP3 := Lib.hid hp
      have HB3 := Lib.hid (HB2.out.trans (hk3.below HM2.out))
      have HM3 : Hid (w.heap.size ≤ V3.heap.size) := Nat.le_trans HM2.out hk3.size
      clear hp hk3 HP2 HB2 HM2
      dsimp only
      have ec : V3.cell? ⟨b, o + k, none⟩ = some (.slice A1 zss[k].length c1) := by rw [HB3.out.cell (p := ⟨b, o + k, none⟩) HBL.out]; exact HC.out
      have lc : b < V3.heap.size := Nat.lt_of_lt_of_le HBL.out HB3.out.size
      by_cases hks : k < stay
      · have hksi : (k : Int) < (stay : Int) := by omega
        have HMN : Hid (min k stay = k ∧ min (k + 1) stay = k + 1) := ⟨by omega, by omega⟩
        rw [HMN.out.1] at HP3
        go_wp2_with fail
        refine (pr_round H HP3.out HM3.out A1 c1 zss[k] (HZ.out.below HB3.out) HAZ.out hzl).mono ?_
        rintro e V4 ⟨rfl, hp, hk4⟩
        have HP4 := Lib.hid hp
        have HB4 := Lib.hid (HB3.out.trans (hk4.below HM3.out))
        have HM4 : Hid (w.heap.size ≤ V4.heap.size) := Nat.le_trans HM3.out hk4.size
        clear hp hk4 HP3 HB3 HM3 ec lc
        go_wp2_with fail
        refine (guid_any 2 k V4).mono ?_
        rintro e V5 ⟨rfl, b5⟩
        have HP5 := Lib.hid (Pr.below H HP4.out b5)
        have HB5 := Lib.hid (HB4.out.trans (b5.mono HM4.out))
        have HM5 : Hid (w.heap.size ≤ V5.heap.size) := Nat.le_trans HM4.out b5.size
        clear b5 HP4 HB4 HM4
        go_wp2_with fail
        refine (pr_snap H HP5.out HM5.out (2, k) HGB.out HS1.out).mono ?_
        rintro e V6 ⟨rfl, hp, hk6⟩
        dsimp only at hp
        have HP6 := Lib.hid hp
        have HB6 := Lib.hid (HB5.out.trans (hk6.below HM5.out))
        clear hp hk6 HP5 HB5 HM5
        dsimp only
        go_wp2_with fail
        go_roundw
        case rel => exact ⟨k + 1, by omega, by go_num, by rw [HMN.out.2]; exact HP6.out, HB6.out⟩
        case measure => simp [intOf]; omega
      · have hksi : ¬ (k : Int) < (stay : Int) := by omega
        have HMN : Hid (min k stay = stay ∧ min (k + 1) stay = stay) := ⟨by omega, by omega⟩
        rw [HMN.out.1] at HP3
        go_wp2_with fail
        go_roundw
        case rel => exact ⟨k + 1, by omega, by go_num, by rw [HMN.out.2]; exact HP3.out, HB3.out⟩
        case measure => simp [intOf]; omega
    · have hkM : ¬ (k : Int) < (M : Int) := by omega
      have hkMe : k = M := by omega
      have hp := HP.out
      rw [hkMe, Nat.min_eq_right hstM] at hp
      have HP1 := Lib.hid hp
      have HMW : Hid (w.heap.size ≤ wr.heap.size) := HB.out.size
      clear hp HP hkMe
      have hstb : b64 (stay : Int) := by unfold b64; omega
      have HSTB := Lib.hid hstb
      clear hstb
      go_wp2_with fail
      refine (pl_roll H HP1.out HMW.out (stay : Int) HSTB.out (aS_roll M stay hstM)).mono ?_
      rintro e V1 ⟨rfl, hp, hk1⟩
      dsimp only at hp
      have HP2 := Lib.hid hp
      have HB1 := Lib.hid (HB.out.trans (hk1.below HMW.out))
      have HM1 : Hid (w.heap.size ≤ V1.heap.size) := Nat.le_trans HMW.out hk1.size
      clear hp hk1 HP1 HB HMW
      dsimp only
      go_wp2_with fail
      refine (pl_list H HP2.out).mono ?_
      rintro e V2 ⟨A2, c2, rfl, -, -, b2⟩
      rw [aS_list_len]
      have HP3 := Lib.hid (Pr.below H HP2.out b2)
      have HB2 := Lib.hid (HB1.out.trans (b2.mono HM1.out))
      have HM2 : Hid (w.heap.size ≤ V2.heap.size) := Nat.le_trans HM1.out b2.size
      clear b2 HP2 HB1 HM1
      have hq0 : ((stay : Int) != (stay : Int)) = false := by simp
      go_wp2_with fail
      refine (pr_list H HP3.out).mono ?_
      rintro e V3 ⟨A3, c3, rfl, -, -, b3⟩
      rw [aS_list_len]
      have HP4 := Lib.hid (Pr.below H HP3.out b3)
      have HB3 := Lib.hid (HB2.out.trans (b3.mono HM2.out))
      have HM3 : Hid (w.heap.size ≤ V3.heap.size) := Nat.le_trans HM2.out b3.size
      clear b3 HP3 HB2 HM2
      go_wp2_with fail
      refine (pl_live H HP4.out).mono ?_
      rintro e V4 ⟨A4, c4, rfl, hx, -, b4⟩
      have HX := Lib.hid hx
      have HP5 := Lib.hid (Pr.below H HP4.out b4)
      have HB4 := Lib.hid (HB3.out.trans (b4.mono HM3.out))
      have HM4 : Hid (w.heap.size ≤ V4.heap.size) := Nat.le_trans HM3.out b4.size
      clear b4 HP4 HB3 HM3 hx
      rw [aS_live_len]
      go_wp2_with fail
      refine (pr_live H HP5.out).mono ?_
      rintro e V5 ⟨A5, c5, rfl, hy, -, b5⟩
      have HY := Lib.hid hy
      have HX2 := Lib.hid (HX.out.below b5)
      have HP6 := Lib.hid (Pr.below H HP5.out b5)
      have HB5 := Lib.hid (HB4.out.trans (b5.mono HM4.out))
      have HM5 : Hid (w.heap.size ≤ V5.heap.size) := Nat.le_trans HM4.out b5.size
      clear b5 HP5 HB4 HM4 hy HX
      rw [aS_live_len]
      obtain ⟨vv, hvv⟩ : ∃ v, (aS gd2 zss stay).live = v := ⟨_, rfl⟩
      have HV8 : Hid (vv.length = 8) := by unfold Hid; rw [← hvv]; exact aS_live_len stay
      rw [hvv] at HX2 HY
      clear hvv
      go_wp2_with fail
      go_loopw [12] (fun i wr => CmpRel 8 V5 i wr) (fun i _ => 8 - (intOf i).toNat)
      case atStart => exact ⟨0, Nat.zero_le _, rfl, Below.refl _ _⟩
      case round =>
        obtain ⟨j, hj, rfl, hb⟩ := hrel
        have HBJ := Lib.hid hb
        clear hb
        by_cases hj8 : j < 8
        · have hj8i : (j : Int) < 8 := by omega
          have hjv : j < vv.length := by rw [HV8.out]; exact hj8
          obtain ⟨bx, ox, rfl, hbx, hcx⟩ := HX2.out j hjv
          obtain ⟨by_, oy, rfl, hby, hcy⟩ := HY.out j hjv
          have e0 : wr.cell? ⟨bx, ox + j, none⟩ = some (.string (str vv[j])) := by rw [HBJ.out.cell (p := ⟨bx, ox + j, none⟩) hbx]; exact hcx
          have e1 : wr.cell? ⟨by_, oy + j, none⟩ = some (.string (str vv[j])) := by rw [HBJ.out.cell (p := ⟨by_, oy + j, none⟩) hby]; exact hcy
          have l0 : bx < wr.heap.size := Nat.lt_of_lt_of_le hbx HBJ.out.size
          have l1 : by_ < wr.heap.size := Nat.lt_of_lt_of_le hby HBJ.out.size
          clear hcx hcy
          generalize str vv[j] = S at *
          have hq : (S.toList != S.toList) = false := by simp
          go_wp2_with fail
          go_quiet (fail)
          go_wp2_with fail
          go_roundw
          case rel => exact ⟨j + 1, by omega, by go_num, by exact ⟨HBJ.out.os, HBJ.out.tape, HBJ.out.output, HBJ.out.size, HBJ.out.block⟩⟩
          case measure => simp [intOf]; omega
        · have hj8i : ¬ (j : Int) < 8 := by omega
          have HP7 := Lib.hid (Pr.below H HP6.out HBJ.out)
          have HB7 := Lib.hid (HB5.out.trans (HBJ.out.mono HM5.out))
          clear HP6 HB5 HM5 HX2 HY hj hj8
          go_wp2_with fail
          obtain ⟨wa, hwa⟩ : ∃ x, x = wr := ⟨_, rfl⟩
          subst hwa
          go_loopw [13] (fun i wr => Bc3Rel Is zss p q stay w.heap.size w i wr) (fun i _ => stay - (intOf i).toNat)
          case atStart => exact ⟨0, Nat.zero_le _, rfl, HP7.out, HB7.out⟩
          case round =>
            clear HP7 HB7 HBJ
            obtain ⟨r, hr, rfl, hp, hb⟩ := hrel
            have HPr := Lib.hid hp
            have HBr := Lib.hid hb
            have HMr : Hid (w.heap.size ≤ wr.heap.size) := hb.size
            clear hp hb
            by_cases hrs : r < stay
            · have hrsi : (r : Int) < (stay : Int) := by omega
              have hrb : b64 (r : Int) := by unfold b64; omega
              have HRB := Lib.hid hrb
              have hch := aS_changes (gd := gd2) (zss := zss) stay r hrs
              have hdl : (diffs (lv zss r) (lv zss (r + 1))).length ≤ 8 := by have := diffs_len (lv zss r) (lv zss (r + 1)); rw [(lv_ok zss (r + 1)).1] at this; exact this
              generalize diffs (lv zss r) (lv zss (r + 1)) = D at *
              have HCH := Lib.hid hch
              clear hrb hch
              go_wp2_with fail
              refine (pl_changes H HPr.out (r : Int) HRB.out HCH.out).mono ?_
              rintro e U1 ⟨A6, c6, rfl, hx, -, b6⟩
              dsimp only at hx
              have HX := Lib.hid hx
              have HP1 := Lib.hid (Pr.below H HPr.out b6)
              have HB1 := Lib.hid (HBr.out.trans (b6.mono HMr.out))
              have HM1 : Hid (w.heap.size ≤ U1.heap.size) := Nat.le_trans HMr.out b6.size
              clear hx b6 HPr HBr HMr
              dsimp only
              go_wp2_with fail
              refine (pr_changes H HP1.out (r : Int) HRB.out HCH.out).mono ?_
              rintro e U2 ⟨A7, c7, rfl, hy, -, b7⟩
              dsimp only at hy
              have HY := Lib.hid hy
              have HX2 := Lib.hid (HX.out.below b7)
              have HP2 := Lib.hid (Pr.below H HP1.out b7)
              have HB2 := Lib.hid (HB1.out.trans (b7.mono HM1.out))
              have HM2 : Hid (w.heap.size ≤ U2.heap.size) := Nat.le_trans HM1.out b7.size
              clear hy b7 HP1 HB1 HM1 HX
              dsimp only
              have hq0 : ((D.length : Int) != (D.length : Int)) = false := by simp
              go_wp2_with fail
              go_loopw [18] (fun i wr => CmpRel D.length U2 i wr) (fun i _ => D.length - (intOf i).toNat)
              case atStart => exact ⟨0, Nat.zero_le _, rfl, Below.refl _ _⟩
              case round =>
                obtain ⟨j, hj, rfl, hb⟩ := hrel
                have HBJ := Lib.hid hb
                clear hb
                by_cases hjd : j < D.length
                · have hjdi : (j : Int) < (D.length : Int) := by omega
                  obtain ⟨bx, ox, rfl, hbx, hcx, hcx1, _⟩ := HX2.out j hjd
                  obtain ⟨by_, oy, rfl, hby, hcy, hcy1, _⟩ := HY.out j hjd
                  have e0 : wr.cell? ⟨bx, ox + j * 2, none⟩ = some (.int .i64 D[j].1) := by rw [HBJ.out.cell (p := ⟨bx, ox + j * 2, none⟩) hbx]; exact hcx
                  have e1 : wr.cell? ⟨bx, ox + j * 2 + 1, none⟩ = some (.string (str D[j].2)) := by rw [HBJ.out.cell (p := ⟨bx, ox + j * 2 + 1, none⟩) hbx]; exact hcx1
                  have e2 : wr.cell? ⟨by_, oy + j * 2, none⟩ = some (.int .i64 D[j].1) := by rw [HBJ.out.cell (p := ⟨by_, oy + j * 2, none⟩) hby]; exact hcy
                  have e3 : wr.cell? ⟨by_, oy + j * 2 + 1, none⟩ = some (.string (str D[j].2)) := by rw [HBJ.out.cell (p := ⟨by_, oy + j * 2 + 1, none⟩) hby]; exact hcy1
                  have l0 : bx < wr.heap.size := Nat.lt_of_lt_of_le hbx HBJ.out.size
                  have l1 : by_ < wr.heap.size := Nat.lt_of_lt_of_le hby HBJ.out.size
                  clear hcx hcy hcx1 hcy1
                  generalize str D[j].2 = S at *
                  generalize D[j].1 = z at *
                  have hq : (S.toList == S.toList) = true := by simp
                  have hqz : (z == z) = true := by simp
                  go_wp2_with fail
                  go_quiet (fail)
                  go_wp2_with fail
                  refine ⟨⟨j + 1, by omega, by go_num, ⟨HBJ.out.os, HBJ.out.tape, HBJ.out.output, HBJ.out.size, HBJ.out.block⟩⟩, ?_⟩
                  simp [intOf]
                  omega
                · have hjdi : ¬ (j : Int) < (D.length : Int) := by omega
                  have HP3 := Lib.hid (Pr.below H HP2.out HBJ.out)
                  have HB3 := Lib.hid (HB2.out.trans (HBJ.out.mono HM2.out))
                  clear HP2 HB2 HM2 HX2 HY hj hjd
                  go_wp2_with fail
                  go_roundw
                  case rel => exact ⟨r + 1, by omega, by go_num, HP3.out, HB3.out⟩
                  case measure => simp [intOf]; omega
            · have hrsi : ¬ (r : Int) < (stay : Int) := by omega
              go_wp2_with fail
              refine (guid_any 2 99 wr).mono ?_
              rintro e U1 ⟨rfl, b⟩
              have HP1 := Lib.hid (Pr.below H HPr.out b)
              have HB1 := Lib.hid (HBr.out.trans (b.mono HMr.out))
              have HM1 : Hid (w.heap.size ≤ U1.heap.size) := Nat.le_trans HMr.out b.size
              clear b HPr HBr HMr
              obtain ⟨dl, hdl⟩ := aS_99 (zss := zss) stay (by omega)
              go_wp2_with fail
              refine (pl_snap H HP1.out HM1.out (2, 99) ⟨by decide, by decide⟩ hdl).mono ?_
              rintro e U2 ⟨rfl, _, hk⟩
              dsimp only
              have HB2 := Lib.hid (HB1.out.trans (hk.below HM1.out))
              clear hk
              go_wp2_with fail
              go_ret
              exact ⟨rfl, HB2.out⟩
end Go.Proofs.Ytfinmfmbbgakhaa.ch

/- ChainBack: behind a rollback a chain is as it was when it had so many snapshots, of all writes and numbers. -/
namespace Go.Proofs.Ytfinmfmbbgakhaa.chainBack
open Go.ChangeShapes Go.WideShapes Go.ChangeAt Go.RowKit
open Go.ChangeMaps (open_string shut_string)
open Go.Proofs.Ytfinmfmbbgakhaa.ib Go.Proofs.Ytfinmfmbbgakhaa.ch

theorem own : ownKnob Try.prog.godebug = none := by kernel_rfl
theorem laidOut : laidOutB Try.prog = true := by kernel_rfl

theorem witness (os : Os) {H : Type} (enc : TypeId × Value → H) :
    (OpenSpec.ofChange Rows.chainBackSpec).preRow enc Try.prog Try.f5 Rows.chainBackRow.domain false Rows.chainBackRow.laid ((World.holding Try.prog os ⟨#[], #[], []⟩).forCall (fun _ _ => 0) ⟨#[], #[.slice none 0 0, .int .u8 0], []⟩).memory #[.slice none 0 0, .int .u8 0] := by
  have hw : (DataW.whole enc Try.prog ((World.holding Try.prog os ⟨#[], #[], []⟩).forCall (fun _ _ => 0) ⟨#[], #[.slice none 0 0, .int .u8 0], []⟩).memory Try.f5.params.toList (OpenSpec.ofChange Rows.chainBackSpec).vars false (#[.slice none 0 0, .int .u8 0] : Array Value).toList 8).map (fun x => (x.1, x.2.1)) =
      some ([.nil, .lit (.int .u8 0)], []) := by kernel_rfl
  obtain ⟨⟨x1, x2, x3⟩, hx, hx1⟩ := Option.map_eq_some_iff.1 hw
  simp only [Prod.mk.injEq] at hx1
  obtain ⟨rfl, rfl⟩ := hx1
  exact OpenSpec.preRow_of_cond 8 hx (by kernel_rfl) (fun k hk => by cases hk) (by kernel_rfl) (laidMetH_nil _ _)

set_option maxRecDepth 100000 in
set_option maxHeartbeats 1600000 in
theorem lifted (os : Os) (started : os.Started) (H : Type) (enc : TypeId × Value → H) (F : Stop.Interp) :
    ReturnsInHanded {} Try.checked os 5 .any ((OpenSpec.ofChange Rows.chainBackSpec).preRow enc Try.prog Try.f5 Rows.chainBackRow.domain false Rows.chainBackRow.laid) (((OpenSpec.ofChange Rows.chainBackSpec).at F).post enc Try.prog Try.f5 false true false false) := by
  refine returnsInHanded_of_row (C := Try.checked) (s := OpenSpec.ofChange Rows.chainBackSpec) own started (by kernel_rfl) Try.func5
    (witness_row_at (enc := enc) (C := Try.checked) false (World.holding Try.prog os ⟨#[], #[], []⟩) #[.slice none 0 0, .int .u8 0] rfl (by kernel_rfl) (by kernel_rfl) (by kernel_rfl) (witness os enc)) ?_
  intro W base args ds gs before hval0 hW _ _ hsz0 hL _ _
  have hval : ∀ (j : Nat) t v, Try.f5.params[j]? = some t → args[j]? = some v → Value.okWide Try.prog W .any base t v := hval0
  have hW' := hW
  obtain ⟨p, q, hA0, hV, rfl, hfz, hnd⟩ := hW
  have hA : DataW.TrodAll enc Try.prog W 0 (fun _ => true) true Try.f5.params.toList args.toList ds p := hA0
  rw [Try.params5] at hA hval
  obtain ⟨v0, vs0, d0, ds0, p0, q0, hargs, rfl, rfl, h0, r0⟩ := trodAll_cons hA
  obtain ⟨v1, vs1, d1, ds1, p1, q1, rfl, rfl, rfl, h1, r1⟩ := trodAll_cons r0
  obtain ⟨rfl, rfl, rfl⟩ := trodAll_nil r1
  obtain rfl : args = #[v0, v1] := by cases args; simp_all
  obtain ⟨rfl, rfl⟩ := trodVars_none hV
  obtain ⟨a0, l0, c0, rfl⟩ := okWide_slice Try.underlying43 (hval 0 43 v0 rfl rfl)
  have k0 := h0
  have lt0 : ∀ x ∈ p0, x.block < W.heap.size := by obtain ⟨m, hm⟩ := k0; exact DataW.trod_lt m _ _ _ hm
  obtain ⟨zs0, hzl0, hl0, hT0⟩ := pss8_of k0
  subst hzl0
  obtain ⟨a1, rfl, rfl, rfl, w1⟩ := open_int Try.underlying5 (hval 1 5 v1 rfl rfl) h1
  clear hA0 hval0 hsz0
  simp only [List.append_nil] at hW'
  refine (chainBack_walk hImpl a0 c0 zs0 a1 w1 W hl0 hT0).mono fun e W' ⟨he, hg⟩ => ?_
  subst he
  exact ⟨_, rfl, _, _, _, [], _, [], hW', trodAll_mk1 (shut_bool Try.underlying4 _), (trodAll_cons_mk (Below.trod laidOut (by kernel_rfl) (of_decide_eq_true (by kernel_rfl)) k0 hg lt0) (trodAll_cons_mk (shut_int Try.underlying5 w1) trodAll_mk0)), rfl, hg.frame _, fun h => by cases h⟩

theorem over : Rows.ChainBackSaid :=
  OpenClaim.holds_of_cond 5 Try.f5 rfl rfl rfl rfl rfl rfl rfl ⟨rfl, rfl, rfl, rfl, rfl⟩ rfl rfl rfl rfl rfl (by kernel_rfl) Try.func5 (by kernel_rfl)
    (of_decide_eq_true (by kernel_rfl)) (by unfold Func.isWrapper; first | (rw [if_pos (by decide +kernel)]; kernel_rfl) | (rw [if_neg (by decide +kernel)]; exact ⟨rfl, rfl⟩))
    (fun os started H enc _ F => by rw [OpenClaim.pre_eq_preRow]; exact lifted os started H enc F)

theorem proved : Rows.ChainBackSaid :=
  over
#print axioms proved
end Go.Proofs.Ytfinmfmbbgakhaa.chainBack


/- ChSeq, ChPair, ChFolM, ChWas. -/
import Derived.Test.YtfinmfmbbgakhaaQ12
import Derived.Test.YtfinmfmbbgakhaaQ8
/- Chains that are made round by round: what they are, and what their changes make. -/
namespace Go.Proofs.Ytfinmfmbbgakhaa.ch
open Go Go.RowKit Go.Proofs.Ytfinmfmbbgakhaa.ib
set_option maxRecDepth 100000

def rdL (l : List Bt) (zs : List (Int × UInt8)) : List Bt := (roundP ⟨l, []⟩ zs).live
theorem wr1_eq (l : List Bt) (ss : List Sn) (x : Int × UInt8) : wr1 ⟨l, ss⟩ x = ⟨(wr1 ⟨l, []⟩ x).live, ss⟩ := by
  unfold wr1 CH.write
  dsimp only
  split <;> rfl
theorem wr1_nil (l : List Bt) (x : Int × UInt8) : (wr1 ⟨l, []⟩ x).snaps = [] := by rw [wr1_eq]
theorem fold_eq : ∀ (zs : List (Int × UInt8)) (l : List Bt) (ss : List Sn), zs.foldl wr1 ⟨l, ss⟩ = ⟨(zs.foldl wr1 ⟨l, []⟩).live, ss⟩
  | [], _, _ => rfl
  | x :: zs, l, ss => by
    rw [List.foldl_cons, List.foldl_cons, wr1_eq l ss x, wr1_eq l [] x, fold_eq zs _ ss]
theorem roundP_eq (l : List Bt) (ss : List Sn) (zs : List (Int × UInt8)) : roundP ⟨l, ss⟩ zs = ⟨rdL l zs, ss⟩ := by
  unfold rdL roundP
  rw [fold_eq]
theorem wr1_ok {n : Nat} {l : List Bt} (h : volOk n l) (x : Int × UInt8) : volOk n (wr1 ⟨l, []⟩ x).live := by
  unfold wr1 CH.write
  split
  · exact h
  · rename_i hc
    exact set_ok h (by simpa using fun h1 => hc (.inr (.inr h1)))
theorem fold_ok {n : Nat} : ∀ (zs : List (Int × UInt8)) (l : List Bt), volOk n l → volOk n (zs.foldl wr1 ⟨l, []⟩).live
  | [], _, h => h
  | x :: zs, l, h => by
    rw [List.foldl_cons, wr1_eq l [] x]
    exact fold_ok zs _ (wr1_ok h x)
theorem rdL_ok {n : Nat} {l : List Bt} (h : volOk n l) (zs : List (Int × UInt8)) : volOk n (rdL l zs) := fold_ok _ l h

/-- The live volume behind so many rounds. -/
def lv (zss : List (List (Int × UInt8))) : Nat → List Bt
  | 0 => zvol 8
  | i + 1 => rdL (lv zss i) (zss.getD i [])
theorem lv_ok (zss : List (List (Int × UInt8))) : ∀ i, volOk 8 (lv zss i)
  | 0 => zvol_ok 8
  | i + 1 => rdL_ok (lv_ok zss i) _
def snAt (gd : Nat → Gd) (zss : List (List (Int × UInt8))) (i : Nat) : Sn := ⟨gd i, lv zss (i + 1), false⟩
/-- The chain with so many snapshots. -/
def aS (gd : Nat → Gd) (zss : List (List (Int × UInt8))) (n : Nat) : CH := ⟨lv zss n, (List.range n).map (snAt gd zss)⟩

structure Rises (gd : Nat → Gd) : Prop where
  first : above (gd 0) (0, 0) = true
  next : ∀ i, above (gd (i + 1)) (gd i) = true
  inj : ∀ i j, gd i = gd j → i = j

section
variable {gd : Nat → Gd} (hg : Rises gd) {zss : List (List (Int × UInt8))}
theorem aS_zero : aS gd zss 0 = chNew 8 := rfl
theorem aS_len (n : Nat) : (aS gd zss n).snaps.length = n := by simp [aS]
theorem aS_snaps_succ (n : Nat) : (aS gd zss (n + 1)).snaps = (aS gd zss n).snaps ++ [snAt gd zss n] := by
  unfold aS
  rw [List.range_succ, List.map_append]
  rfl
theorem aS_last (n : Nat) : (aS gd zss (n + 1)).last = gd n := by
  unfold CH.last
  rw [aS_snaps_succ]
  simp [snAt]
theorem aS_live (n : Nat) : (aS gd zss n).live = lv zss n := rfl
theorem aS_live_len (n : Nat) : (aS gd zss n).live.length = 8 := (lv_ok zss n).1
theorem aS_base (n : Nat) : (aS gd zss n).base = lv zss n := by
  cases n with
  | zero => rfl
  | succ n =>
    unfold CH.base
    rw [aS_snaps_succ]
    simp [snAt]
include hg
theorem aS_may (n : Nat) (h : n < 20) : (aS gd zss n).may (gd n) = 0 := by
  have ha : above (gd n) (aS gd zss n).last = true := by
    cases n with
    | zero => exact hg.first
    | succ n => rw [aS_last]; exact hg.next n
  unfold CH.may
  rw [ha, if_pos rfl, if_neg (by rw [aS_len]; omega)]
/-- One round, and one snapshot more. -/
theorem aS_step (n : Nat) (h : n < 20) : (roundP (aS gd zss n) (zss.getD n [])).snap (gd n) = (aS gd zss (n + 1), 0) := by
  have hr : roundP (aS gd zss n) (zss.getD n []) = ⟨lv zss (n + 1), (aS gd zss n).snaps⟩ := roundP_eq _ _ _
  have hm : (⟨lv zss (n + 1), (aS gd zss n).snaps⟩ : CH).may (gd n) = 0 := aS_may hg n h
  rw [hr]
  unfold CH.snap
  rw [if_pos hm]
  congr 1
  show CH.mk _ _ = CH.mk _ _
  congr 1
  exact (aS_snaps_succ n).symm
omit hg
theorem aS_take (n k : Nat) (h : k ≤ n) : (aS gd zss n).snaps.take k = (aS gd zss k).snaps := by
  unfold aS
  dsimp only
  rw [← List.map_take, List.take_range, Nat.min_eq_left h]
/-- Rolled back. -/
theorem aS_roll (n k : Nat) (h : k ≤ n) : (aS gd zss n).roll (k : Int) = (aS gd zss k, 0) := by
  unfold CH.roll
  rw [if_neg (by rw [aS_len]; omega), Int.toNat_natCast, aS_take n k h]
  congr 1
  show CH.mk _ _ = CH.mk _ _
  congr 1
  have hb := aS_base (gd := gd) (zss := zss) k
  unfold CH.base at hb ⊢
  dsimp only
  cases hl : (aS gd zss k).snaps.getLast? with
  | none =>
    rw [hl] at hb
    dsimp only at hb ⊢
    rw [aS_live_len] at hb ⊢
    exact hb
  | some s =>
    rw [hl] at hb
    exact hb
theorem aS_list_len (n : Nat) : (aS gd zss n).list.length = n := by unfold CH.list; rw [List.length_map, aS_len]
theorem aS_vol (n k : Nat) (h : k < n) : (aS gd zss n).volAt k = lv zss (k + 1) := by
  unfold CH.volAt aS
  dsimp only
  rw [List.getElem?_map, List.getElem?_range h]
  rfl
theorem aS_prev (n k : Nat) (h : k < n) : (aS gd zss n).prev k = lv zss k := by
  unfold CH.prev
  split
  · rename_i h0
    subst h0
    rw [aS_live_len]
    rfl
  · rw [aS_vol n (k - 1) (by omega), Nat.sub_add_cancel (by omega)]
theorem aS_changes (n k : Nat) (h : k < n) : (aS gd zss n).changes (k : Int) = (diffs (lv zss k) (lv zss (k + 1)), 0) := by
  unfold CH.changes
  rw [if_neg (by rw [aS_len]; omega), Int.toNat_natCast, aS_prev n k h, aS_vol n k h]
end
theorem diffs_len (p q : List Bt) : (diffs p q).length ≤ q.length := by
  unfold diffs
  exact Nat.le_trans (List.length_filterMap_le _ _) (by simp)
theorem diffs_b64 {p q : List Bt} (h : q.length ≤ 1000) : ∀ x ∈ diffs p q, b64 x.1 := by
  intro x hx
  unfold diffs at hx
  obtain ⟨i, hi, he⟩ := List.mem_filterMap.1 hx
  have := List.mem_range.1 hi
  split at he
  · cases he
  · simp only [Option.some.injEq] at he
    rw [← he]
    unfold b64
    dsimp only
    omega
end Go.Proofs.Ytfinmfmbbgakhaa.ch

/- Two chains side by side, behind a mark. -/
namespace Go.Proofs.Ytfinmfmbbgakhaa.ch
open Go Go.RowKit Go.Proofs.Ytfinmfmbbgakhaa.ib
set_option maxRecDepth 100000

/-- Two chains; X: other blocks that neither has. -/
def Pr (Is : IsT) (w : World) (m p q : Nat) (d e : CH) (X : Nat → Prop) : Prop :=
  ∃ own own2, Is own w p d ∧ Is own2 w q e ∧ (∀ j, own j → m ≤ j ∧ ¬ own2 j ∧ ¬ X j) ∧ (∀ j, own2 j → m ≤ j ∧ ¬ X j) ∧ ∀ j, X j → j < w.heap.size
/-- All below m, and all of X, stays. -/
def Kp (m : Nat) (X : Nat → Prop) (w w' : World) : Prop := But (fun j => m ≤ j ∧ ¬ X j) w w'
section
variable {Is : IsT} (H : Impl Is) {w w' : World} {m p q : Nat} {d e : CH} {X : Nat → Prop}
theorem Kp.below (h : Kp m X w w') (hm : m ≤ w.heap.size) : Below m w w' := But.below h (fun _ hi => hi.1) hm
theorem Kp.of_below (h : Below w.heap.size w w') : Kp m X w w' := But.of_below h
theorem Kp.refl (w : World) : Kp m X w w := But.refl _ _
theorem Kp.trans {a b c : World} (h : Kp m X a b) (k : Kp m X b c) : Kp m X a c := But.trans h k (fun _ hi => .inl hi)
theorem Kp.block (h : Kp m X w w') {j : Nat} (hj : j < w.heap.size) (hx : X j ∨ j < m) : w'.heap[j]? = w.heap[j]? := But.block h j hj (fun hs => by rcases hx with h | h; exact hs.2 h; omega)
include H
theorem Pr.below (h : Pr Is w m p q d e X) (hb : Below w.heap.size w w') : Pr Is w' m p q d e X := by
  obtain ⟨o1, o2, h1, h2, h3, h4, h5⟩ := h
  exact ⟨o1, o2, H.keep h1 (fun j hj => hb.block j (H.low h1 j hj)) hb.size, H.keep h2 (fun j hj => hb.block j (H.low h2 j hj)) hb.size, h3, h4, fun j hj => Nat.lt_of_lt_of_le (h5 j hj) hb.size⟩
theorem pr_left {own own' own2 : Nat → Prop} {d' : CH} (hm : m ≤ w.heap.size) (h2 : Is own2 w q e) (h3 : ∀ j, own j → m ≤ j ∧ ¬ own2 j ∧ ¬ X j) (h4 : ∀ j, own2 j → m ≤ j ∧ ¬ X j) (h5 : ∀ j, X j → j < w.heap.size) (hi : Is own' w' p d') (hb : But own w w') (hg : ∀ j, own' j → own j ∨ w.heap.size ≤ j) :
    Pr Is w' m p q d' e X ∧ Kp m X w w' := by
  refine ⟨⟨own', own2, hi, H.keep h2 (fun j hj => hb.block j (H.low h2 j hj) (fun ho => (h3 j ho).2.1 hj)) hb.size, fun j hj => ?_, h4, fun j hj => Nat.lt_of_lt_of_le (h5 j hj) hb.size⟩, hb.mono (fun j hj => ⟨(h3 j hj).1, (h3 j hj).2.2⟩)⟩
  rcases hg j hj with h | h
  · exact h3 j h
  · exact ⟨by omega, fun ho => by have := H.low h2 j ho; omega, fun hx => by have := h5 j hx; omega⟩
theorem pr_right {own own2 own2' : Nat → Prop} {e' : CH} (hm : m ≤ w.heap.size) (h1 : Is own w p d) (h3 : ∀ j, own j → m ≤ j ∧ ¬ own2 j ∧ ¬ X j) (h4 : ∀ j, own2 j → m ≤ j ∧ ¬ X j) (h5 : ∀ j, X j → j < w.heap.size) (hi : Is own2' w' q e') (hb : But own2 w w') (hg : ∀ j, own2' j → own2 j ∨ w.heap.size ≤ j) :
    Pr Is w' m p q d e' X ∧ Kp m X w w' := by
  refine ⟨⟨own, own2', H.keep h1 (fun j hj => hb.block j (H.low h1 j hj) (fun ho => (h3 j hj).2.1 ho)) hb.size, hi, fun j hj => ⟨(h3 j hj).1, fun ho => ?_, (h3 j hj).2.2⟩, fun j hj => ?_, fun j hj => Nat.lt_of_lt_of_le (h5 j hj) hb.size⟩, hb.mono (fun j hj => h4 j hj)⟩
  · rcases hg j ho with h | h
    · exact (h3 j hj).2.1 h
    · have := H.low h1 j hj; omega
  · rcases hg j hj with h | h
    · exact h4 j h
    · exact ⟨by omega, fun hx => by have := h5 j hx; omega⟩

theorem pl_round (h : Pr Is w m p q d e X) (hm : m ≤ w.heap.size) (A : Option Addr) (cp : Nat) (zs : List (Int × UInt8)) (hT : PtL w A zs) (hA : 0 < zs.length → ∀ b o, A = some ⟨b, o, none⟩ → b < m) (hl : zs.length ≤ 9223372036854775807) :
    Calls Try.prog 18 #[.pointer (some ⟨p, 0, none⟩), .slice A zs.length cp] w fun x w' => x = .returned (.tuple #[]) ∧ Pr Is w' m p q (roundP d zs) e X ∧ Kp m X w w' := by
  obtain ⟨o1, o2, h1, h2, h3, h4, h5⟩ := h
  refine (round_any H w h1 A cp zs hT (fun h0 b o hb ho => by have := (h3 b ho).1; have := hA h0 b o hb; omega) hl).mono ?_
  rintro x w' ⟨hx, o', hi, hb, hg⟩
  exact ⟨hx, pr_left H hm h2 h3 h4 h5 hi hb hg⟩
theorem pr_round (h : Pr Is w m p q d e X) (hm : m ≤ w.heap.size) (A : Option Addr) (cp : Nat) (zs : List (Int × UInt8)) (hT : PtL w A zs) (hA : 0 < zs.length → ∀ b o, A = some ⟨b, o, none⟩ → b < m) (hl : zs.length ≤ 9223372036854775807) :
    Calls Try.prog 18 #[.pointer (some ⟨q, 0, none⟩), .slice A zs.length cp] w fun x w' => x = .returned (.tuple #[]) ∧ Pr Is w' m p q d (roundP e zs) X ∧ Kp m X w w' := by
  obtain ⟨o1, o2, h1, h2, h3, h4, h5⟩ := h
  refine (round_any H w h2 A cp zs hT (fun h0 b o hb ho => by have := (h4 b ho).1; have := hA h0 b o hb; omega) hl).mono ?_
  rintro x w' ⟨hx, o', hi, hb, hg⟩
  exact ⟨hx, pr_right H hm h1 h3 h4 h5 hi hb hg⟩
theorem pl_snap (h : Pr Is w m p q d e X) (hm : m ≤ w.heap.size) (g : Gd) (hg : gdB g) {r : CH × Int} (hr : d.snap g = r) :
    Calls Try.prog 19 #[.pointer (some ⟨p, 0, none⟩), gv g] w fun x w' => x = .returned (.int .i64 r.2) ∧ Pr Is w' m p q r.1 e X ∧ Kp m X w w' := by
  obtain ⟨o1, o2, h1, h2, h3, h4, h5⟩ := h
  subst hr
  refine (H.snap g h1 hg).mono ?_
  rintro x w' ⟨hx, o', hi, hb, hg⟩
  exact ⟨hx, pr_left H hm h2 h3 h4 h5 hi hb hg⟩
theorem pr_snap (h : Pr Is w m p q d e X) (hm : m ≤ w.heap.size) (g : Gd) (hg : gdB g) {r : CH × Int} (hr : e.snap g = r) :
    Calls Try.prog 19 #[.pointer (some ⟨q, 0, none⟩), gv g] w fun x w' => x = .returned (.int .i64 r.2) ∧ Pr Is w' m p q d r.1 X ∧ Kp m X w w' := by
  obtain ⟨o1, o2, h1, h2, h3, h4, h5⟩ := h
  subst hr
  refine (H.snap g h2 hg).mono ?_
  rintro x w' ⟨hx, o', hi, hb, hg⟩
  exact ⟨hx, pr_right H hm h1 h3 h4 h5 hi hb hg⟩
theorem pl_roll (h : Pr Is w m p q d e X) (hm : m ≤ w.heap.size) (k : Int) (hk : b64 k) {r : CH × Int} (hr : d.roll k = r) :
    Calls Try.prog 15 #[.pointer (some ⟨p, 0, none⟩), .int .i64 k] w fun x w' => x = .returned (.int .i64 r.2) ∧ Pr Is w' m p q r.1 e X ∧ Kp m X w w' := by
  obtain ⟨o1, o2, h1, h2, h3, h4, h5⟩ := h
  subst hr
  refine (H.roll k h1 hk).mono ?_
  rintro x w' ⟨hx, o', hi, hb, hg⟩
  exact ⟨hx, pr_left H hm h2 h3 h4 h5 hi hb hg⟩
/-- What b adds lies in X. -/
theorem pr_add (h : Pr Is w m p q d e X) (hm : m ≤ w.heap.size) (g : Gd) (hg : gdB g) (A : Option Addr) (c : Nat) (x : List (Int × Bt)) (hx : ChL w A x) (hl : x.length ≤ 1000) (hA : ∀ b o, A = some ⟨b, o, none⟩ → X b) {r : CH × Int} (hr : e.add g x = r) :
    Calls Try.prog 23 #[.pointer (some ⟨q, 0, none⟩), gv g, .slice A x.length c] w fun x w' => x = .returned (.int .i64 r.2) ∧ Pr Is w' m p q d r.1 X ∧ Kp m X w w' := by
  obtain ⟨o1, o2, h1, h2, h3, h4, h5⟩ := h
  subst hr
  refine (H.add g A c x h2 hg hx hl (fun b o hb ho => (h4 b ho).2 (hA b o hb))).mono ?_
  rintro x w' ⟨hx, o', hi, hb, hg⟩
  exact ⟨hx, pr_right H hm h1 h3 h4 h5 hi hb hg⟩
theorem pl_list (h : Pr Is w m p q d e X) : Calls Try.prog 25 #[.pointer (some ⟨p, 0, none⟩)] w (okGd d.list w) := by
  obtain ⟨o1, o2, h1, h2, _⟩ := h
  exact H.list h1
theorem pr_list (h : Pr Is w m p q d e X) : Calls Try.prog 25 #[.pointer (some ⟨q, 0, none⟩)] w (okGd e.list w) := by
  obtain ⟨o1, o2, h1, h2, _⟩ := h
  exact H.list h2
theorem pl_live (h : Pr Is w m p q d e X) : Calls Try.prog 21 #[.pointer (some ⟨p, 0, none⟩)] w (okTx d.live w) := by
  obtain ⟨o1, o2, h1, h2, _⟩ := h
  exact H.live h1
theorem pr_live (h : Pr Is w m p q d e X) : Calls Try.prog 21 #[.pointer (some ⟨q, 0, none⟩)] w (okTx e.live w) := by
  obtain ⟨o1, o2, h1, h2, _⟩ := h
  exact H.live h2
theorem pl_changes (h : Pr Is w m p q d e X) (k : Int) (hk : b64 k) {r : List (Int × Bt) × Int} (hr : d.changes k = r) : Calls Try.prog 22 #[.pointer (some ⟨p, 0, none⟩), .int .i64 k] w (okChE r w) := by
  obtain ⟨o1, o2, h1, h2, _⟩ := h
  subst hr
  exact H.changes k h1 hk
theorem pr_changes (h : Pr Is w m p q d e X) (k : Int) (hk : b64 k) {r : List (Int × Bt) × Int} (hr : e.changes k = r) : Calls Try.prog 22 #[.pointer (some ⟨q, 0, none⟩), .int .i64 k] w (okChE r w) := by
  obtain ⟨o1, o2, h1, h2, _⟩ := h
  subst hr
  exact H.changes k h2 hk
theorem pl_read (h : Pr Is w m p q d e X) (g : Gd) (hg : gdB g) {r : List Bt × Int} (hr : d.read g = r) : Calls Try.prog 24 #[.pointer (some ⟨p, 0, none⟩), gv g] w (okTxE r w) := by
  obtain ⟨o1, o2, h1, h2, _⟩ := h
  subst hr
  exact H.read g h1 hg
theorem pr_read (h : Pr Is w m p q d e X) (g : Gd) (hg : gdB g) {r : List Bt × Int} (hr : e.read g = r) : Calls Try.prog 24 #[.pointer (some ⟨q, 0, none⟩), gv g] w (okTxE r w) := by
  obtain ⟨o1, o2, h1, h2, _⟩ := h
  subst hr
  exact H.read g h2 hg
/-- New blocks may come to X: those that lie behind both chains. -/
theorem Pr.more (h : Pr Is w m p q d e X) (hb : Below w.heap.size w w') {Y : Nat → Prop} (hY : ∀ j, Y j → X j ∨ (w.heap.size ≤ j ∧ j < w'.heap.size)) : Pr Is w' m p q d e Y := by
  obtain ⟨o1, o2, h1, h2, h3, h4, h5⟩ := h
  refine ⟨o1, o2, H.keep h1 (fun j hj => hb.block j (H.low h1 j hj)) hb.size, H.keep h2 (fun j hj => hb.block j (H.low h2 j hj)) hb.size, fun j hj => ⟨(h3 j hj).1, (h3 j hj).2.1, fun hy => ?_⟩, fun j hj => ⟨(h4 j hj).1, fun hy => ?_⟩, fun j hj => ?_⟩
  · rcases hY j hy with h | h
    · exact (h3 j hj).2.2 h
    · have := H.low h1 j hj; omega
  · rcases hY j hy with h | h
    · exact (h4 j hj).2 h
    · have := H.low h2 j hj; omega
  · rcases hY j hj with h | h
    · exact Nat.lt_of_lt_of_le (h5 j h) hb.size
    · exact h.2
/-- Both, new. -/
theorem two_new (W : World) (hw : Below w.heap.size w W) {own : Nat → Prop} (h1 : Is own W p (chNew 8)) (ho : ∀ j, own j → w.heap.size ≤ j) :
    Calls Try.prog 8 #[.int .i64 8] W fun x w' => ∃ q, x = .returned (.pointer (some ⟨q, 0, none⟩)) ∧ Pr Is w' w.heap.size p q (chNew 8) (chNew 8) (fun _ => False) ∧ Below w.heap.size w w' := by
  refine (H.new_some 8 W (by decide) (by decide)).mono ?_
  rintro x w' ⟨q, own2, hx, h2, hb, ho2⟩
  refine ⟨q, hx, ⟨own, own2, H.keep h1 (fun j hj => hb.block j (H.low h1 j hj)) hb.size, h2, fun j hj => ⟨ho j hj, fun h => ?_, fun h => h⟩, fun j hj => ⟨Nat.le_trans hw.size (ho2 j hj), fun h => h⟩, fun j h => h.elim⟩, below_step hw hb⟩
  have a1 := H.low h1 j hj
  have a2 := ho2 j h
  omega
end
end Go.Proofs.Ytfinmfmbbgakhaa.ch

/- Changes, put on the volume ahead, make the volume; what is read of a chain made round by round. -/
namespace Go.Proofs.Ytfinmfmbbgakhaa.ch
open Go Go.RowKit Go.Proofs.Ytfinmfmbbgakhaa.ib
set_option maxRecDepth 100000

def dStep (p q : List Bt) (i : Nat) : Option (Int × Bt) := if q.getD i [] = p.getD i [] then none else some ((i : Int), q.getD i [])
theorem put_from (p q : List Bt) (hpq : p.length = q.length) (hq : ∀ v ∈ q, v.length = 32) : ∀ (m k : Nat) (l : List Bt) (b : Int), k + m = q.length → l.length = q.length → b < (k : Int) → (∀ i, i < k → l.getD i [] = q.getD i []) → (∀ i, k ≤ i → l.getD i [] = p.getD i []) →
    putAll l b ((List.range' k m).filterMap (dStep p q)) = some q
  | 0, k, l, b, hk, hl, hb, h1, h2 => by
    show some l = some q
    congr 1
    refine List.ext_getElem? fun i => ?_
    by_cases hi : i < k
    · have := h1 i hi
      rw [List.getD_eq_getElem?_getD, List.getD_eq_getElem?_getD, List.getElem?_eq_getElem (by omega), List.getElem?_eq_getElem (by omega)] at this
      rw [List.getElem?_eq_getElem (by omega), List.getElem?_eq_getElem (by omega)]
      exact congrArg some this
    · rw [List.getElem?_eq_none (by omega), List.getElem?_eq_none (by omega)]
  | m + 1, k, l, b, hk, hl, hb, h1, h2 => by
    have hkq : k < q.length := by omega
    have hqk : q.getD k [] = q[k] := by rw [List.getD_eq_getElem?_getD, List.getElem?_eq_getElem hkq]; rfl
    rw [List.range'_succ, List.filterMap_cons]
    by_cases he : q.getD k [] = p.getD k []
    · have hd : dStep p q k = none := by unfold dStep; rw [if_pos he]
      rw [hd]
      refine put_from p q hpq hq m (k + 1) l b (by omega) hl (by omega) (fun i hi => ?_) (fun i hi => h2 i (by omega))
      by_cases hik : i = k
      · subst hik
        rw [h2 i (Nat.le_refl _), he]
      · exact h1 i (by omega)
    · have hd : dStep p q k = some ((k : Int), q.getD k []) := by unfold dStep; rw [if_neg he]
      rw [hd]
      dsimp only
      unfold putAll
      rw [if_neg (by
        rw [hqk, hq _ (List.getElem_mem hkq)]
        omega), Int.toNat_natCast]
      refine put_from p q hpq hq m (k + 1) _ (k : Int) (by omega) (by rw [List.length_set]; exact hl) (by omega) (fun i hi => ?_) (fun i hi => ?_)
      · rw [List.getD_eq_getElem?_getD, List.getElem?_set]
        by_cases hik : k = i
        · subst hik
          rw [if_pos rfl, if_pos (by omega)]
          rfl
        · rw [if_neg hik, ← List.getD_eq_getElem?_getD]
          exact h1 i (by omega)
      · rw [List.getD_eq_getElem?_getD, List.getElem?_set, if_neg (by omega), ← List.getD_eq_getElem?_getD]
        exact h2 i (by omega)
theorem put_diffs {p q : List Bt} (hpq : p.length = q.length) (hq : ∀ v ∈ q, v.length = 32) : putAll p (-1) (diffs p q) = some q := by
  have h := put_from p q hpq hq q.length 0 p (-1) (by omega) hpq (by omega) (fun i hi => absurd hi (by omega)) (fun i _ => rfl)
  rw [← List.range_eq_range'] at h
  exact h

section
variable {gd : Nat → Gd} (hg : Rises gd) {zss : List (List (Int × UInt8))}
include hg
/-- The changes of a snapshot, put on a chain that has the ones ahead. -/
theorem aS_add (n : Nat) (h : n < 20) : (aS gd zss n).add (gd n) (diffs (lv zss n) (lv zss (n + 1))) = (aS gd zss (n + 1), 0) := by
  unfold CH.add
  rw [if_pos (aS_may hg n h), aS_base, put_diffs (by rw [(lv_ok zss n).1, (lv_ok zss (n + 1)).1]) (lv_ok zss (n + 1)).2]
  dsimp only
  congr 1
  show CH.mk _ _ = CH.mk _ _
  congr 1
  exact (aS_snaps_succ n).symm
theorem aS_read (n k : Nat) (h : k < n) : (aS gd zss n).read (gd k) = (lv zss (k + 1), 0) := by
  have hf : (aS gd zss n).find (gd k) = some k := by
    unfold CH.find
    rw [List.findIdx?_eq_some_iff_getElem]
    refine ⟨by rw [aS_len]; exact h, ?_, fun j hj => ?_⟩
    · simp [aS, snAt]
    · have : ¬ gd j = gd k := fun e => by have := hg.inj _ _ e; omega
      simp [aS, snAt, this]
  have hs : (aS gd zss n).snaps[k]? = some (snAt gd zss k) := by
    unfold aS
    dsimp only
    rw [List.getElem?_map, List.getElem?_range h]
    rfl
  unfold CH.read
  rw [hf]
  dsimp only
  rw [hs]
  rfl
end
def gd1 (i : Nat) : Gd := (1, i + 1)
theorem gd1_rises : Rises gd1 := ⟨by decide, fun i => by unfold above gd1; simp, fun i j h => by unfold gd1 at h; have := (Prod.mk.inj h).2; omega⟩
end Go.Proofs.Ytfinmfmbbgakhaa.ch

/- The volumes as they were: a slice of slices of texts, that no chain has. -/
namespace Go.Proofs.Ytfinmfmbbgakhaa.ch
open Go Go.RowKit Go.Proofs.Ytfinmfmbbgakhaa.ib
set_option maxRecDepth 100000

def OW (w : World) (B : Nat) (v : Value) (vs : List Value) : Prop := w.ownsRow B 48 1 v vs.length vs
theorem infoTx : (Try.prog.info? 48).map (fun i => (i.zero, i.size, i.bytes)) = some (some (.slice none 0 0), 1, 24) := by kernel_rfl
theorem ow_kept {w w' : World} {B : Nat} {v : Value} {vs : List Value} (h : OW w B v vs) (hk : ∀ j, v.ownBlock = some j → w'.heap[j]? = w.heap[j]?) : OW w' B v vs := by
  refine ⟨h.1, ?_⟩
  rcases h.2 with h2 | ⟨g, cap, cur, h1, h2, h3, h4⟩
  · exact .inl h2
  · exact .inr ⟨g, cap, cur, h1, h2, (hk g (by rw [h1]; rfl)).trans h3, h4⟩
def Vols (w : World) (zss : List (List (Int × UInt8))) (v : Value) (vs : List Value) (X : Nat → Prop) : Prop :=
  ∀ j (h : j < vs.length), ∃ A c, vs[j] = .slice A 8 c ∧ TxL w A (lv zss (j + 1)) ∧ ∀ b o, A = some ⟨b, o, none⟩ → X b ∧ v.ownBlock ≠ some b
theorem Vols.kept {w w' : World} {zss : List (List (Int × UInt8))} {v : Value} {vs : List Value} {X : Nat → Prop} (h : Vols w zss v vs X) (hs : w.heap.size ≤ w'.heap.size) (hk : ∀ j, X j → v.ownBlock ≠ some j → w'.heap[j]? = w.heap[j]?) : Vols w' zss v vs X := by
  intro j hj
  obtain ⟨A, c, h1, h2, h3⟩ := h j hj
  exact ⟨A, c, h1, h2.kept hs (fun b o e => hk b (h3 b o e).1 (h3 b o e).2), h3⟩

/-- So many of them, read alone. -/
def WasAt (w : World) (a : Option Addr) (zss : List (List (Int × UInt8))) (n : Nat) (X : Nat → Prop) : Prop :=
  ∀ i, i < n → ∃ b o A c, a = some ⟨b, o, none⟩ ∧ b < w.heap.size ∧ X b ∧ w.cell? ⟨b, o + i, none⟩ = some (.slice A 8 c) ∧ TxL w A (lv zss (i + 1)) ∧ ∀ b' o', A = some ⟨b', o', none⟩ → X b'
theorem WasAt.kept {w w' : World} {a : Option Addr} {zss : List (List (Int × UInt8))} {n : Nat} {X : Nat → Prop} (h : WasAt w a zss n X) (hs : w.heap.size ≤ w'.heap.size) (hk : ∀ j, j < w.heap.size → X j → w'.heap[j]? = w.heap[j]?) : WasAt w' a zss n X := by
  intro i hi
  obtain ⟨b, o, A, c, h1, h2, h3, h4, h5, h6⟩ := h i hi
  refine ⟨b, o, A, c, h1, Nat.lt_of_lt_of_le h2 hs, h3, by rw [World.cell?_of_block (a := ⟨b, o + i, none⟩) (hk b h2 h3)]; exact h4, ?_, h6⟩
  intro r hr
  obtain ⟨b', o', e1, e2, e3⟩ := h5 r hr
  exact ⟨b', o', e1, Nat.lt_of_lt_of_le e2 hs, by rw [World.cell?_of_block (a := ⟨b', o' + r, none⟩) (hk b' e2 (h6 b' o' e1))]; exact e3⟩
theorem WasAt.below {w w' : World} {a : Option Addr} {zss : List (List (Int × UInt8))} {n : Nat} {X : Nat → Prop} (h : WasAt w a zss n X) (hb : Below w.heap.size w w') : WasAt w' a zss n X := h.kept hb.size (fun j hj _ => hb.block j hj)
theorem WasAt.kp {w w' : World} {a : Option Addr} {zss : List (List (Int × UInt8))} {n m : Nat} {X Y : Nat → Prop} (h : WasAt w a zss n X) (hb : Kp m Y w w') (hy : ∀ j, X j → Y j) : WasAt w' a zss n X := h.kept hb.size (fun j hj hx => Kp.block hb hj (.inl (hy j hx)))
theorem was_of {w : World} {B : Nat} {v : Value} {vs : List Value} {zss : List (List (Int × UInt8))} {X : Nat → Prop} (h : OW w B v vs) (hv : Vols w zss v vs X) (hx : ∀ j, v.ownBlock = some j → X j) : ∃ a c, v = .slice a vs.length c ∧ WasAt w a zss vs.length X := by
  rcases h.2 with ⟨rfl, h0⟩ | ⟨g, cap, cur, rfl, hg, hh, hcc, hm, hcs, hcur⟩
  · exact ⟨none, 0, by rw [h0], fun i hi => by omega⟩
  · refine ⟨some ⟨g, 0, none⟩, cap, rfl, fun i hi => ?_⟩
    obtain ⟨A, c, h1, h2, h3⟩ := hv i hi
    refine ⟨g, 0, A, c, rfl, (Array.getElem?_eq_some_iff.1 hh).1, hx g rfl, ?_, h2, fun b o e => (h3 b o e).1⟩
    rw [Nat.zero_add, cell_of_row w g i cur 48 (0, 0) hh]
    have h4 : (cur.toList.take (vs.length * 1))[i]? = some vs[i] := by rw [hcur, List.getElem?_eq_getElem hi]
    rw [List.getElem?_take] at h4
    split at h4
    · rw [h1] at h4
      simpa using h4
    · cases h4

section
variable {Is : IsT} (H : Impl Is) {w w' : World} {m p q : Nat} {d e : CH} {X : Nat → Prop}
include H
/-- A step that turns blocks of X, and new ones, alone. -/
theorem Pr.step {S : Nat → Prop} (h : Pr Is w m p q d e X) (hb : But S w w') (hS : ∀ j, S j → X j ∨ w.heap.size ≤ j) : Pr Is w' m p q d e X := by
  obtain ⟨o1, o2, h1, h2, h3, h4, h5⟩ := h
  refine ⟨o1, o2, H.keep h1 (fun j hj => hb.block j (H.low h1 j hj) (fun hs => ?_)) hb.size, H.keep h2 (fun j hj => hb.block j (H.low h2 j hj) (fun hs => ?_)) hb.size, h3, h4, fun j hj => Nat.lt_of_lt_of_le (h5 j hj) hb.size⟩
  · rcases hS j hs with h | h
    · exact (h3 j hj).2.2 h
    · have := H.low h1 j hj; omega
  · rcases hS j hs with h | h
    · exact (h4 j hj).2 h
    · have := H.low h2 j hj; omega
theorem Pr.step2 {S Y : Nat → Prop} (h : Pr Is w m p q d e X) (hb : But S w w') (hS : ∀ j, S j → X j ∨ w.heap.size ≤ j) (hY : ∀ j, Y j → X j ∨ (w.heap.size ≤ j ∧ j < w'.heap.size)) : Pr Is w' m p q d e Y := by
  have h' := Pr.step H h hb hS
  obtain ⟨o1, o2, h1, h2, h3, h4, h5⟩ := h
  obtain ⟨hl1, hl2⟩ : (∀ j, o1 j → j < w.heap.size) ∧ ∀ j, o2 j → j < w.heap.size := ⟨H.low h1, H.low h2⟩
  clear h'
  refine ⟨o1, o2, H.keep h1 (fun j hj => hb.block j (H.low h1 j hj) (fun hs => ?_)) hb.size, H.keep h2 (fun j hj => hb.block j (H.low h2 j hj) (fun hs => ?_)) hb.size, fun j hj => ⟨(h3 j hj).1, (h3 j hj).2.1, fun hy => ?_⟩, fun j hj => ⟨(h4 j hj).1, fun hy => ?_⟩, fun j hj => ?_⟩
  · rcases hS j hs with h | h
    · exact (h3 j hj).2.2 h
    · have := hl1 j hj; omega
  · rcases hS j hs with h | h
    · exact (h4 j hj).2 h
    · have := hl2 j hj; omega
  · rcases hY j hy with h | h
    · exact (h3 j hj).2.2 h
    · have := hl1 j hj; omega
  · rcases hY j hy with h | h
    · exact (h4 j hj).2 h
    · have := hl2 j hj; omega
  · rcases hY j hj with h | h
    · exact Nat.lt_of_lt_of_le (h5 j h) hb.size
    · exact h.2
omit H in
theorem Pr.less {Y : Nat → Prop} (h : Pr Is w m p q d e X) (hY : ∀ j, Y j → X j) : Pr Is w m p q d e Y := by
  obtain ⟨o1, o2, h1, h2, h3, h4, h5⟩ := h
  exact ⟨o1, o2, h1, h2, fun j hj => ⟨(h3 j hj).1, (h3 j hj).2.1, fun hy => (h3 j hj).2.2 (hY j hy)⟩, fun j hj => ⟨(h4 j hj).1, fun hy => (h4 j hj).2 (hY j hy)⟩, fun j hj => h5 j (hY j hj)⟩
omit H in
theorem Pr.x_lt (h : Pr Is w m p q d e X) : ∀ j, X j → j < w.heap.size := h.choose_spec.choose_spec.2.2.2.2
end
end Go.Proofs.Ytfinmfmbbgakhaa.ch


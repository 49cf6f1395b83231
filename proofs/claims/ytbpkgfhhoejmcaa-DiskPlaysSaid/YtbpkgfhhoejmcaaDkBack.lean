/- slices.Backward over a list of writes: its contract, for a range over it. -/
import Derived.RangeFuncNested
import Derived.RangeFuncBound
import Derived.RangeFuncCalls
import Derived.RangeFuncLeaves
import Derived.Shelf.Abstract
import Derived.Shelf.RegionOpen
import Derived.WalkKit
import Derived.OwnWalkIn
import Derived.TacticsInMore
import Derived.LoopNIn
import Derived.LoopIn
import Derived.Test.YtbpkgfhhoejmcaaDkApp
namespace Go.Proofs.Ytbpkgfhhoejmcaa.dk
open Go Go.RowKit Go.Shelf

attribute [local go_sem] Oper.semAt_some

theorem wpListIn_value {F : Fence} {n : Nat} {P : Program} {ops : Array Oper} {rest : List Oper} {o : Oper} {a : Act} {w w' : World} {v : Value} {Q : Exit → Act → World → Prop} (hg : o.guard = none) (hnd : ∀ c, o.op ≠ .defer c) (hab : o.about P w a.eval = none)
    (h : (execOp a.eval o).run P w = .ok (.value v) w') (hn : wpListIn F n P ops Q rest (a.put o.dst v) w') : wpListIn F n P ops Q (o :: rest) a w := by
  refine wpListIn_plain hg fun K' hK' => ?_
  unfold Oper.wpIn
  refine ⟨fun f hf => (by rw [hab] at hf; cases hf), ?_⟩
  rw [Oper.semAt_plain F _ _ hnd, h]
  exact hK' _ _ hn

theorem wpListIn_skip_ {F : Fence} {n : Nat} {P : Program} {ops : Array Oper} {rest : List Oper} {o : Oper} {a : Act} {w w' : World} {Q : Exit → Act → World → Prop} (hg : o.guard = none) (hnd : ∀ c, o.op ≠ .defer c) (hab : o.about P w a.eval = none)
    (h : (execOp a.eval o).run P w = .ok .skip w') (hn : wpListIn F n P ops Q rest (a.put o.dst undef) w') : wpListIn F n P ops Q (o :: rest) a w := by
  refine wpListIn_plain hg fun K' hK' => ?_
  unfold Oper.wpIn
  refine ⟨fun f hf => (by rw [hab] at hf; cases hf), ?_⟩
  rw [Oper.semAt_plain F _ _ hnd, h]
  exact hK' _ _ hn

theorem about_load {P : Program} {o : Oper} {w : World} {ρ : Operand → Value} (t : TypeId) (x : Operand) (h : o.op = .load t x) : o.about P w ρ = none := by simp [Oper.about, h]
theorem about_store {P : Program} {o : Oper} {w : World} {ρ : Operand → Value} (t : TypeId) (x y : Operand) (h : o.op = .store t x y) : o.about P w ρ = none := by simp [Oper.about, h]
theorem about_alloc {P : Program} {o : Oper} {w : World} {ρ : Operand → Value} (t : TypeId) (h : o.op = .alloc t) : o.about P w ρ = none := by simp [Oper.about, h]

/-- A write, that fits a disk of n sectors. -/
abbrev Wr (n : Nat) := { x : Nat × Bt × Bt × Bool // x.1 < n ∧ x.2.1.length = 32 ∧ x.2.2.1.length = 32 }

theorem row_get (l : List (Nat × Bt × Bt × Bool)) (h : ∀ x ∈ l, (wrCells x).length = 66) (k : Nat) (hk : k < l.length) (j : Nat) (hj : j < 66) : (wrRow l)[k * 66 + j]? = (wrCells l[k])[j]? := by
  induction l generalizing k with
  | nil => simp at hk
  | cons x l ih =>
    have h1 := h x (by simp)
    show (wrCells x ++ wrRow l)[k * 66 + j]? = _
    cases k with
    | zero =>
      rw [List.getElem?_append_left (by omega)]
      simp
    | succ k =>
      rw [List.getElem?_append_right (by omega), h1, show (k + 1) * 66 + j - 66 = k * 66 + j by omega]
      exact ih (fun y hy => h y (by simp [hy])) k (by simpa using hk)

/-- The k-th write of a row that is owned. -/
theorem own_get {w : World} {v : Value} {l : List (Nat × Bt × Bt × Bool)} {base : Nat} (hown : w.ownsRow base 61 66 v l.length (wrRow l)) (h : ∀ x ∈ l, (wrCells x).length = 66) (k : Nat) (hk : k < l.length) :
    ∃ g c cur, v = .slice (some ⟨g, 0, none⟩) l.length c ∧ l.length ≤ c ∧ c ≤ maxLen ∧ w.heap[g]? = some (.cells cur 61 (0, 0)) ∧ ∀ j u, (wrCells l[k])[j]? = some u → cur[k * 66 + j]? = some u := by
  rcases hown.2 with ⟨_, h0⟩ | ⟨g, cap, cur, rfl, _, hg, hc, hm, hs, htk⟩
  · omega
  · refine ⟨g, cap, cur, rfl, hc, hm, hg, fun j u hu => ?_⟩
    have hl : (wrCells l[k]).length = 66 := h _ (List.getElem_mem hk)
    have hj : j < 66 := by rw [← hl]; exact (List.getElem?_eq_some_iff.1 hu).1
    have h1 : k * 66 + j < l.length * 66 := by
      have : (k + 1) * 66 ≤ l.length * 66 := Nat.mul_le_mul_right _ hk
      omega
    rw [← row_get l h k hk j hj, ← htk, List.getElem?_take_of_lt h1] at hu
    simpa using hu

def BackKp (Bs : Nat) (v : Value) (W W' : World) : Prop := ∀ b, b = Bs ∨ v.ownBlock = some b → W'.heap[b]? = W.heap[b]?

/-- The places as they come. -/
def backs {n : Nat} (L : List (Wr n)) : List (Nat × Wr n) := (L.zipIdx.map fun x => (x.2, x.1)).reverse
theorem backs_length {n : Nat} (L : List (Wr n)) : (backs L).length = L.length := by simp [backs]
theorem backs_get {n : Nat} (L : List (Wr n)) (r : Nat) (h : r < L.length) : (backs L)[r]? = some (L.length - 1 - r, L[L.length - 1 - r]) := by
  unfold backs
  rw [List.getElem?_reverse (by simpa using h)]
  simp

def encW {n : Nat} (x : Nat × Wr n) : Array Value := #[.int .i64 (x.1 : Int), .agg (wrCells x.2.1).toArray]

set_option maxRecDepth 100000 in
set_option maxHeartbeats 2000000 in
theorem back1_in (F : Fence) (nn : Nat) (hF : F.fn 40) (hro : F.round = none) (hn : 1 ≤ nn) (l Bs : Nat) (v : Value) {n : Nat} (L : List (Wr n)) (hL : L.length ≤ 1000000) (J Jx : List (Nat × Wr n) → World → Prop)
    (hY : ∀ pre x W, J pre W → pre.length < L.length → YieldAt F (nn - 1) Try.prog l (encW x) W fun e W' =>
      (e = .returned (.bool true) ∧ J (pre ++ [x]) W' ∧ BackKp Bs v W W') ∨ (e = .returned (.bool false) ∧ Jx (pre ++ [x]) W'))
    (W : World) (hBs : Blk W Bs 43 #[v]) (hown : W.ownsRow 0 61 66 v L.length (wrRow (L.map (·.1)))) (h0 : J [] W) :
    CallsIn F nn Try.prog 40 #[.func (.yield l) #[] #[], .pointer (some ⟨Bs, 0, none⟩)] W fun e W' => (∃ v, e = .returned v) ∧
      ((∃ ys, ys = backs L ∧ J ys W') ∨ (∃ pre, True ∧ Jx pre W')) := by
  have h66 : ∀ x ∈ L.map (fun y => y.1), (wrCells x).length = 66 := by
    intro x hx
    obtain ⟨y, _, rfl⟩ := List.mem_map.1 hx
    exact wrCells_len _ y.2.2.1 y.2.2.2
  obtain ⟨A, c, hA⟩ := own_form hown
  have HB := Lib.hid hBs
  have HO := Lib.hid hown
  have H66 := Lib.hid h66
  have HY := Lib.hid hY
  have HA := Lib.hid hA
  have HVB : Hid (v.ownBlock = v.ownBlock) := rfl
  clear hBs hown h66 hY
  subst hA
  have kB : W.cell? ⟨Bs, 0, none⟩ = some (.slice A L.length c) := HB.out.cell 0
  refine callsIn_of_wp Try.func40 rfl hF ?_ hro
  simp only [Try.ntmps40, List.size_toArray, List.length_cons, List.length_nil, Nat.reduceAdd, Nat.reduceSub, Array.replicate_succ, Array.replicate_zero, List.push_toArray, List.append_toArray, List.nil_append, List.cons_append]
  gi_wp2
  gi_loopw [3] (fun i wr => ∃ k : Nat, k ≤ L.length ∧ i = .int .i64 ((k : Int) - 1) ∧ J ((backs L).take (L.length - k)) wr ∧ BackKp Bs (.slice A L.length c) W wr) (fun i _ => (intOf i + 1).toNat)
  case atStart => exact ⟨L.length, Nat.le_refl _, rfl, by simpa using h0, fun _ _ => rfl⟩
  case round =>
    obtain ⟨k, hk, rfl, hJ, hKp⟩ := hrel
    have HKp := Lib.hid hKp
    have HJ := Lib.hid hJ
    have kb' : wr.cell? ⟨Bs, 0, none⟩ = some (.slice A L.length c) := (World.cell?_of_block (a := ⟨Bs, 0, none⟩) (hKp Bs (.inl rfl))).trans kB
    clear hKp hJ
    cases k with
    | zero =>
      gi_wp2
      go_end0
      have := HJ.out
      rw [Nat.sub_zero, List.take_of_length_le (by rw [backs_length]; exact Nat.le_refl _)] at this
      exact ⟨⟨_, rfl⟩, .inl ⟨_, rfl, this⟩⟩
    | succ j =>
      have ej : ((j + 1 : Nat) : Int) - 1 = (j : Int) := by omega
      rw [ej]
      have hj : j < L.length := by omega
      have hown' : wr.ownsRow 0 61 66 (.slice A L.length c) (L.map (fun y => y.1)).length (wrRow (L.map (fun y => y.1))) := by
        rw [List.length_map]
        exact own_of_block HO.out (fun b hb => HKp.out b (.inr hb))
      obtain ⟨g, c', cur, hv, hlc, hcm, hg, hcur⟩ := own_get hown' H66.out j (by rw [List.length_map]; exact hj)
      simp only [Value.slice.injEq, List.length_map, true_and] at hv
      obtain ⟨rfl, rfl⟩ := hv
      have htk : (backs L).take (L.length - j) = (backs L).take (L.length - (j + 1)) ++ [(j, L[j])] := by
        have hr : L.length - (j + 1) < L.length := by omega
        have h1 := backs_get L (L.length - (j + 1)) hr
        have e1 : L.length - j = (L.length - (j + 1)) + 1 := by omega
        have e2 : L.length - 1 - (L.length - (j + 1)) = j := by omega
        rw [e1, List.take_add_one, h1]
        simp only [e2, Option.toList_some]
      have hx66 : (wrCells ((L.map (fun y => y.1))[j]'(by rw [List.length_map]; exact hj))).length = 66 := H66.out _ (List.getElem_mem _)
      rw [List.getElem_map] at hx66 hcur
      have HTK := Lib.hid htk
      obtain ⟨fn, tmps, assign, body, hy, hR⟩ := HY.out _ (j, L[j]) wr HJ.out (by rw [List.length_take, backs_length]; omega)
      generalize L[j] = x at *
      dsimp only [encW] at hy
      have HG := Lib.hid hg
      have HCur := Lib.hid hcur
      have HX := Lib.hid hx66
      have HR := Lib.hid hR
      have HLC := Lib.hid hlc
      have HCM := Lib.hid hcm
      clear hg hcur hx66 hR hown' htk hlc hcm ej
      gi_wp2_with (refine wpListIn_value rfl (fun c h => by cases h) (about_load _ _ rfl) (exec_load_part 61 (.tmp 15) rfl g (j * 66) rfl _ cur (wrCells x.1) _ _ HG.out Try.underlying61 rfl (by rw [size70, HX.out]) HCur.out) ?_)
      refine HR.out.mono ?_
      rintro e W3 (⟨rfl, hJ3, hk3⟩ | ⟨rfl, hJx3⟩)
      · gi_wp2
        go_roundw
        case rel =>
          refine ⟨j, by omega, rfl, by rw [HTK.out]; exact hJ3, fun b hb => (hk3 b hb).trans (HKp.out b hb)⟩
        case measure => simp [intOf]
      · gi_wp2
        refine bodyPost_ret (results_none rfl _ _ _) rfl ?_
        exact ⟨⟨_, rfl⟩, .inr ⟨_, trivial, hJx3⟩⟩

theorem backward_in (F : Fence) (n : Nat) (hF : F.fn 24) (hro : F.round = none) (a : Option Addr) (len cap : Nat) (w : World) :
    CallsIn F n Try.prog 24 #[.slice a len cap] w fun e w' => e = .returned (.func (.func 40) #[] #[.pointer (some ⟨w.heap.size, 0, none⟩)]) ∧ w' = w.alloc (.cells #[.slice a len cap] 43) := by
  refine callsIn_of_wp Try.func24 rfl hF ?_ hro
  simp only [Try.ntmps24, List.size_toArray, List.length_cons, List.length_nil, Nat.reduceAdd, Nat.reduceSub, Array.replicate_succ, Array.replicate_zero, List.push_toArray, List.append_toArray, List.nil_append, List.cons_append]
  gi_wp2
  go_ret
  exact ⟨rfl, rfl⟩

theorem back_stops (F : Fence) (nn : Nat) (hF : F.fn 40) (hro : F.round = none) (hn : 1 ≤ nn) (Bs : Nat) (v : Value) {n : Nat} (L : List (Wr n)) (hL : L.length ≤ 1000000) (w : World)
    (hBs : Blk w Bs 43 #[v]) (hown : w.ownsRow 0 61 66 v L.length (wrRow (L.map (·.1)))) :
    SeqStopsK F nn Try.prog 40 #[.pointer (some ⟨Bs, 0, none⟩)] encW (BackKp Bs v) (fun ys => ys = backs L) (fun _ => True) L.length w := fun l J Jx W hW _ _ hY h0 =>
  back1_in F nn hF hro hn l Bs v L hL J Jx hY W (hBs.of_block (hW.block _ hBs.lt)) (own_of_block hown (fun b hb => hW.block b (own_lt hown b hb))) h0

end Go.Proofs.Ytbpkgfhhoejmcaa.dk

/- What lose of package disk does. -/
import Derived.Test.YtbpkgfhhoejmcaaDkEasy
import Derived.Deep.QuietTactic
import Derived.BigQuiet
import Derived.StillTailTactics
namespace Go.Proofs.Ytbpkgfhhoejmcaa.dk
open Go Go.RowKit

/-- What a write's row of cells is good for. -/
structure RowOf (cs : Array Value) (x : Nat × Bt × Bt × Bool) : Prop where
  size : cs.size = 66
  at_ : cs[0]? = some (.int .i64 (x.1 : Int))
  data : ∀ j u, (Lib.byteCells x.2.1)[j]? = some u → cs[1 + j]? = some u
  before : ∀ j u, (Lib.byteCells x.2.2.1)[j]? = some u → cs[33 + j]? = some u
  written : cs[65]? = some (.bool x.2.2.2)

theorem rowOf (x : Nat × Bt × Bt × Bool) (h1 : x.2.1.length = 32) (h2 : x.2.2.1.length = 32) : RowOf (wrCells x).toArray x := by
  have e1 : (Lib.byteCells x.2.1).length = 32 := by rw [Lib.byteCells_length, h1]
  have e2 : (Lib.byteCells x.2.2.1).length = 32 := by rw [Lib.byteCells_length, h2]
  refine ⟨by simp [wrCells, e1, e2], rfl, ?_, ?_, ?_⟩
  · intro j u hu
    have hj : j < 32 := by rw [← e1]; exact (List.getElem?_eq_some_iff.1 hu).1
    simp only [List.getElem?_toArray, wrCells, Nat.add_comm 1 j, List.getElem?_cons_succ]
    rw [List.getElem?_append_left (by omega)]
    exact hu
  · intro j u hu
    have hj : j < 32 := by rw [← e2]; exact (List.getElem?_eq_some_iff.1 hu).1
    simp only [List.getElem?_toArray, wrCells, show 33 + j = (32 + j) + 1 by omega, List.getElem?_cons_succ]
    rw [List.getElem?_append_right (by omega), e1, List.getElem?_append_left (by omega), show 32 + j - 32 = j by omega]
    exact hu
  · simp only [List.getElem?_toArray, wrCells, show 65 = 64 + 1 from rfl, List.getElem?_cons_succ]
    rw [List.getElem?_append_right (by omega), e1, List.getElem?_append_right (by omega), e2]
    rfl

section
variable {w : World} {p m : Nat}

theorem lose_any (hp : p < w.heap.size) (hc : w.cell? ⟨p, 2, none⟩ = some (.map (some m))) {s : Sects} (hm : MapIs w m s) (x : Nat × Bt × Bt × Bool) (cs : Array Value) (hr : RowOf cs x) (hx : x.1 < s.length) (hs : s.length ≤ 1024) (hl : x.2.2.1.length = 32) :
    Calls Try.prog 25 #[.pointer (some ⟨p, 0, none⟩), .agg cs] w fun e w' => e = .returned (.tuple #[]) ∧ MapIs w' m (undo s x) ∧ But (fun k => k = m) w w' := by
  obtain ⟨k, dat, bef, wr⟩ := x
  obtain ⟨h66, hat, hdat, hbef, hwr⟩ := hr
  simp only at hat hdat hbef hwr hx hl
  have HR := Lib.hid hbef
  have HM := Lib.hid hm
  have HS := Lib.hid hs
  have HL := Lib.hid hl
  have H66 := Lib.hid h66
  clear hbef hdat hm hs hl h66
  cases wr with
  | true =>
    go_enter Try.func25, Try.ntmps25
    go_wp2
    refine wp_region_still_w 8 (by kernel_rfl) (by kernel_rfl) ?_
    simp only [List.take_succ_cons, List.take_zero, List.drop_succ_cons, List.drop_zero]
    iterate 7 still_step
    refine still_value rfl (exec_load_part _ _ rfl w.heap.size 33 rfl _ cs (Lib.byteCells bef) _ _ (heap_alloc_new w _) Try.underlying58 rfl (by rw [info67, Lib.byteCells_length, HL.out]) HR.out) ?_
    refine wpStill_nil ?_
    refine wpList_store_dk rfl _ _ _ rfl rfl (HM.out.of_block (Below.heap_alloc w _ _ HM.out.lt)) k rfl bef rfl hx HS.out ?_
    intro w' hm' ht
    go_wp2
    go_end0
    exact ⟨rfl, hm', ((But.refl _ w).alloc _).drew.trans (turned_but ht) (fun _ h => .inl h)⟩
  | false =>
    go_enter Try.func25, Try.ntmps25
    go_wp2
    refine wp_region_still_w 6 (by kernel_rfl) (by kernel_rfl) ?_
    simp only [List.take_succ_cons, List.take_zero, List.drop_succ_cons, List.drop_zero]
    iterate 6 still_step
    refine wpStill_nil ?_
    refine wpList_drop_dk rfl _ _ rfl rfl (HM.out.of_block (Below.heap_alloc w _ _ HM.out.lt)) k rfl hx HS.out ?_
    intro w' hm' ht
    go_wp2
    go_end0
    exact ⟨rfl, hm', ((But.refl _ w).alloc _).drew.trans (turned_but ht) (fun _ h => .inl h)⟩
end
end Go.Proofs.Ytbpkgfhhoejmcaa.dk

/- What Copy of package disk does. -/
import Derived.Test.YtbpkgfhhoejmcaaDkInG
import Derived.Test.YtbpkgfhhoejmcaaRkCopy
import Derived.Shelf.SlMaps.Clone
import Derived.Laws.Cover3
namespace Go.Proofs.Ytbpkgfhhoejmcaa.dk
open Go Go.RowKit

theorem MapIs.twin {w w' : World} {m n : Nat} {s : Sects} (h : MapIs w m s) : ∃ es clock, w.heap[m]? = some (.map es clock) ∧ ∀ (w' : World) (n : Nat), w'.heap[n]? = some (.map es clock) → MapIs w' n s := by
  obtain ⟨D, ⟨es, clock, h1, h2⟩, h3⟩ := h
  exact ⟨es, clock, h1, fun w' n hn => ⟨D, ⟨es, clock, hn, h2⟩, h3⟩⟩

theorem mclone_any (b : Nat) (es : Array MapEntry) (clock : Nat) (w : World) (hb : w.heap[b]? = some (.map es clock)) :
    Calls Try.prog 22 #[.map (some b)] w fun e w' => e = .returned (.map (some w.heap.size)) ∧ w' = w.alloc (.map es clock) := by
  have hq := fun w => run_eql_map_nil_sl (P := Try.prog) w 42 _ _ (some b) Try.underlying42
  go_enter Try.func22, Try.ntmps22
  go_wp2
  rw [run_callFunc_extern Try.func39 (by kernel_rfl) (by kernel_rfl) (by kernel_rfl) (e := Extern.MapsClone.clone) (by kernel_rfl), run_maps_clone_sl w 42 hb]
  simp only [Result.andThen]
  rw [Oper.upon_value]
  go_wp2
  rw [run_typeAssert_map_sl _ 42 _ _ _ _ Try.underlying42]
  simp only [Result.andThen]
  rw [Oper.upon_value]
  go_wp2
  go_ret
  exact ⟨rfl, rfl⟩

theorem exec_zero70 {ρ : Operand → Value} {o : Oper} {w : World} (ho : o.op = .buildSlice 43 0 #[]) :
    (execOp ρ o).run Try.prog w = .ok (.value (.slice (some ⟨w.heap.size, 0, none⟩) 0 0)) (w.alloc (.cells #[] 61)) := by
  unfold execOp
  rw [ho]
  go_simp

theorem eql_nil (w : World) (a : Option Addr) (n c : Nat) : (binOp .eql 43 (.slice a n c) (.slice none 0 0)).run Try.prog w = .ok (.bool a.isNone) w := by
  simp only [binOp]
  simp [run_equal_slice_nil _ _ _ _ _ _ Try.underlying43]

def SClonePost (n : Nat) (xs : List Value) (w : World) (e : Ending) (w' : World) : Prop := ∃ v', e = .returned v' ∧ w'.ownsRow w.heap.size 61 66 v' n xs ∧ Below w.heap.size w w'

set_option maxRecDepth 100000 in
theorem sclone_any (w : World) (v : Value) (n : Nat) (xs : List Value) (h : w.ownsRow 0 61 66 v n xs) (h1 : ∀ u ∈ xs, u.oneCell' = true) (hn : n ≤ 100000) :
    Calls Try.prog 23 #[v] w (SClonePost n xs w) := by
  have hown := h
  rcases h.2 with ⟨rfl, h0⟩ | ⟨g, cap, cur, rfl, hg, hh, hc, hm, hcs, hcur⟩
  · subst h0
    have hx : xs = [] := by have := h.1; simpa using this
    subst hx
    have hq := fun w => eql_nil w none 0 0
    clear hown h
    go_enter Try.func23, Try.ntmps23
    go_wp2_with fail
    go_ret
    exact ⟨_, rfl, World.ownsRow_nil _ _ _ _, Below.refl _ _⟩
  · obtain ⟨i0, hi, hz0, hz1, hz2⟩ := info_parts info70
    have hcell : ∀ (j : Nat) (u : Value), xs[j]? = some u → (w.alloc (.cells #[] 61)).cell? ((⟨g, 0, none⟩ : Addr).add j) = some u := by
      intro j u hu
      rw [addr_add, Nat.zero_add]
      have hj : j < xs.length := (List.getElem?_eq_some_iff.1 hu).1
      have := World.ownsRow.cellAt hown j (by rw [← hown.1]; exact hj)
      rw [World.cell?_of_block (a := ⟨g, j, none⟩) (Below.heap_alloc w _ g (Array.getElem?_eq_some_iff.1 hh).1), this]
      exact hu
    obtain ⟨v', w', hrun, h2, h3, _⟩ := run_append_own (P := Try.prog) (w.alloc (.cells #[] 61)) w.heap.size 43 43 61 i0 _ 66 80 Try.underlying43 hi hz0 hz1 hz2 (by simp [Value.cells, wrCells_len, zz_length]) (by decide) (.slice (some ⟨w.heap.size, 0, none⟩) 0 0) 0 [] (World.ownsRow_made w #[] 0 (Nat.le_refl _) (by decide) rfl) ⟨g, 0, none⟩ n cap xs h.1 hcell h1 (by unfold maxLen; omega) (by omega) (by simp)
    rw [Nat.zero_add, List.nil_append] at h2
    have HR := Lib.hid hrun
    have H2 := Lib.hid h2
    have H3 := Lib.hid h3
    clear hown h hcell h1 hrun h2 h3 hi hz0 hz1 hz2 hcs hcur hh
    have hq := fun w => eql_nil w (some ⟨g, 0, none⟩) n cap
    go_enter Try.func23, Try.ntmps23
    go_wp2_with (first | (refine wpList_value rfl (exec_zero70 rfl) ?_) | (refine wpList_value rfl (exec_append2 (.tmp 5) (.tmp 6) rfl rfl rfl rfl HR.out) ?_))
    go_ret
    refine ⟨_, rfl, H2.out, ?_⟩
    have hb : Below w.heap.size w (w.alloc (.cells #[] 61)) := (Below.refl _ _).alloc (Nat.le_refl _) _
    exact hb.grown H3.out hb.size (fun k hk => by simp [Value.ownBlock] at hk; omega)
end Go.Proofs.Ytbpkgfhhoejmcaa.dk

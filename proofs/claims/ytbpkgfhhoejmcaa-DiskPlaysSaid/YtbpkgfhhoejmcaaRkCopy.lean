/- What Copy of the document's disk does. -/
import Derived.Test.YtbpkgfhhoejmcaaRkFlush
import Derived.Test.YtbpkgfhhoejmcaaRkWrite2
namespace Go.Proofs.Ytbpkgfhhoejmcaa.dk
open Go Go.RowKit

/-- append onto no slice at all: a copy. -/
theorem clone_row {P : Program} (w : World) (t e : TypeId) (i : TypeInfo) (z : Value) (size bytes : Nat) (ht : P.underlying t = some (.slice e)) (hi : P.info? e = some i) (hz : i.zero = some z)
    (hsize : i.size = size) (hby : i.bytes = bytes) (hzs : z.cells.size = size) (hsz : 0 < size) (v : Value) (n : Nat) (xs : List Value) (hown : w.ownsRow 0 e size v n xs) (h1 : ∀ u ∈ xs, u.oneCell' = true) (hn : n ≤ 100000) (hbytes : n * bytes ≤ 140737488355328) :
    ∃ v' w', (Builtin.append_ #[t, t] t #[.slice none 0 0, v]).run P w = .ok v' w' ∧ w'.ownsRow w.heap.size e size v' n xs ∧ w.grownBy w' none := by
  have h63 : 0 + n ≤ maxLen := by unfold maxLen; omega
  rcases hown.2 with ⟨rfl, h0⟩ | ⟨g, cap, cur, rfl, hg, hh, hc, hm, hcs, hcur⟩
  · subst h0
    have hx : xs = [] := by have := hown.1; simpa using this
    subst hx
    refine ⟨.slice none 0 0, w, ?_, World.ownsRow_nil _ _ _ _, ⟨rfl, rfl, rfl, Nat.le_refl _, fun _ _ _ => rfl⟩⟩
    subst hsize
    simp [Builtin.append_, hi, sizeOf, typeInfo, Sem.run_bind, run_underlying ht, Builtin.lenOf, Builtin.firstCells]
  · obtain ⟨v', w', hrun, h2, h3, _⟩ := run_append_own (P := P) w w.heap.size t t e i z size bytes ht hi hz hsize hby hzs hsz (.slice none 0 0) 0 [] (World.ownsRow_nil _ _ _ _) ⟨g, 0, none⟩ n cap xs hown.1 (fun j u hu => by
      rw [addr_add, Nat.zero_add]
      have hj : j < xs.length := (List.getElem?_eq_some_iff.1 hu).1
      have := World.ownsRow.cellAt hown j (by rw [← hown.1]; exact hj)
      rw [this]
      exact hu) h1 h63 (by simpa using hbytes) (Nat.le_refl _)
    refine ⟨v', w', hrun, ?_, h3⟩
    simpa using h2

theorem exec_append2 {P : Program} {ρ : Operand → Value} {o : Oper} {w w' : World} {vx vy v' : Value} {t : TypeId} (x y : Operand) (ho : o.op = .call { callee := .builtin .append, args := #[x, y], argTypes := #[t, t] }) (ht : o.type = t) (hx : ρ x = vx) (hy : ρ y = vy)
    (hrun : (Builtin.append_ #[t, t] t #[vx, vy]).run P w = .ok v' w') : (execOp ρ o).run P w = .ok (.value v') w' := by
  simp [execOp, ho, resolve, invoke, builtin, hx, hy, ht, hrun, Result.andThen]

theorem strs_of_own {w : World} {B n : Nat} {v : Value} {s : Sects} (h : w.ownsRow B 9 1 v n (sRow s)) (hn : 0 < n) : ∃ g c, v = .slice (some ⟨g, 0, none⟩) n c ∧ B ≤ g ∧ g < w.heap.size ∧ StrsB w g s := by
  rcases h.2 with ⟨_, h0⟩ | ⟨g, cap, cur, rfl, hg, hh, hc, hm, hcs, hcur⟩
  · omega
  · refine ⟨g, cap, rfl, hg, (Array.getElem?_eq_some_iff.1 hh).1, cur.toList.drop (n * 1), ?_⟩
    unfold Blk
    rw [hh, ← hcur, List.take_append_drop]

theorem own_of_strs {w : World} {g c n : Nat} {s : Sects} (h : StrsB w g s) (hn : s.length = n) : ∀ (j : Nat) (u : Value), (sRow s)[j]? = some u → w.cell? ((⟨g, 0, none⟩ : Addr).add j) = some u := by
  intro j u hu
  have hj : j < s.length := by have := (List.getElem?_eq_some_iff.1 hu).1; rwa [sRow_length] at this
  rw [addr_add, Nat.zero_add, h.cell j hj, ← sRow_get s j hj]
  exact hu

/-- A row of strings, copied. -/
theorem clone_strs (w : World) (g c n : Nat) (s : Sects) (h : StrsB w g s) (hn : s.length = n) (h0 : 0 < n) (h1 : n ≤ 1024) :
    ∃ g' c' w', (Builtin.append_ #[46, 46] 46 #[.slice none 0 0, .slice (some ⟨g, 0, none⟩) n c]).run Try.prog w = .ok (.slice (some ⟨g', 0, none⟩) n c') w' ∧ w.heap.size ≤ g' ∧ g' < w'.heap.size ∧ StrsB w' g' s ∧ Below w.heap.size w w' := by
  obtain ⟨z0, hi, hz0, hz1, hz2⟩ := info_parts Try.info9
  obtain ⟨v', w', hrun, h2, h3, _⟩ := run_append_own (P := Try.prog) w w.heap.size 46 46 9 z0 (.string ByteArray.empty) 1 16 Try.underlying46 hi hz0 hz1 hz2 rfl (by decide) (.slice none 0 0) 0 [] (World.ownsRow_nil _ _ _ _) ⟨g, 0, none⟩ n c (sRow s) (by rw [sRow_length, hn]; omega) (own_of_strs (c := c) h hn) (fun u hu => by
    simp only [sRow, List.mem_map] at hu
    obtain ⟨x, _, rfl⟩ := hu
    rfl) (by unfold maxLen; omega) (by omega) (Nat.le_refl _)
  rw [Nat.zero_add, List.nil_append] at h2
  obtain ⟨g', c', rfl, e1, e2, e3⟩ := strs_of_own h2 h0
  exact ⟨g', c', w', hrun, e1, e2, e3, ⟨h3.os, h3.tape, h3.output, h3.size, fun k hk => h3.block k hk (by simp [Value.ownBlock])⟩⟩

theorem clone_writes (w : World) (v : Value) (l : List (Nat × Bt)) (h : w.ownsRow 0 73 2 v l.length (wRow l)) (hl : l.length ≤ 100000) :
    ∃ v' w', (Builtin.append_ #[47, 47] 47 #[.slice none 0 0, v]).run Try.prog w = .ok v' w' ∧ w'.ownsRow w.heap.size 73 2 v' l.length (wRow l) ∧ Below w.heap.size w w' := by
  obtain ⟨z0, hi, hz0, hz1, hz2⟩ := info_parts infoW
  obtain ⟨v', w', hrun, h2, h3⟩ := clone_row (P := Try.prog) w 47 73 z0 _ 2 24 Try.underlying47 hi hz0 hz1 hz2 rfl (by decide) v l.length (wRow l) h (fun u hu => by
    simp only [wRow, List.mem_flatMap] at hu
    obtain ⟨x, _, hu⟩ := hu
    exact wCells_one x u hu) hl (by omega)
  exact ⟨v', w', hrun, h2, ⟨h3.os, h3.tape, h3.output, h3.size, fun k hk => h3.block k hk (by simp)⟩⟩
end Go.Proofs.Ytbpkgfhhoejmcaa.dk

/- A disk's map in memory: what lies at each place. -/
import Derived.Test.YtbpkgfhhoejmcaaDkPure
import Derived.Test.YtbpkgfhhoejmcaaProg
import Derived.Maps.OwnSet
import Derived.WalkKit
import Derived.Lib.BufferWrite
namespace Go.Proofs.Ytbpkgfhhoejmcaa.dk
open Go Go.RowKit

abbrev D1 := DataW Unit

def cLit : Value → D1
  | .int k a => .lit (.int k a)
  | _ => .nil
def cRead : Value → Option (D1 × List MemPlace)
  | .agg cs => some (.agg (cs.toList.map cLit), [])
  | _ => none
/-- A sector's 32 bytes, as one value. -/
def cVal (v : Bt) : Value := .agg (Lib.byteCells v).toArray
def cDat (v : Bt) : D1 := .agg ((Lib.byteCells v).map cLit)

theorem cRead_mk (v : Bt) : cRead (cVal v) = some (cDat v, []) := by simp [cRead, cVal, cDat]

theorem cLit_inv : ∀ (l : List Value) (v : Bt), l.map cLit = (Lib.byteCells v).map cLit → l = Lib.byteCells v
  | [], [], _ => rfl
  | x :: l, [], h => by simp [Lib.byteCells] at h
  | [], b :: v, h => by simp [Lib.byteCells] at h
  | x :: l, b :: v, h => by
    simp only [Lib.byteCells, List.map_cons, List.cons.injEq] at h ⊢
    refine ⟨?_, cLit_inv l v h.2⟩
    have h1 := h.1
    cases x <;> simp [cLit] at h1
    rw [h1.1, h1.2]

theorem cRead_inv {x : Value} {v : Bt} {ps : List MemPlace} (h : cRead x = some (cDat v, ps)) : x = cVal v := by
  cases x <;> simp [cRead, cDat] at h
  rename_i cs
  have := cLit_inv cs.toList v (by simpa using h.1)
  rw [cVal, ← this]

theorem cVal_zz : cVal zz = .agg #[Value.int IntKind.u8 0, Value.int IntKind.u8 0, Value.int IntKind.u8 0, Value.int IntKind.u8 0, Value.int IntKind.u8 0, Value.int IntKind.u8 0, Value.int IntKind.u8 0, Value.int IntKind.u8 0, Value.int IntKind.u8 0, Value.int IntKind.u8 0, Value.int IntKind.u8 0, Value.int IntKind.u8 0, Value.int IntKind.u8 0, Value.int IntKind.u8 0, Value.int IntKind.u8 0, Value.int IntKind.u8 0, Value.int IntKind.u8 0, Value.int IntKind.u8 0, Value.int IntKind.u8 0, Value.int IntKind.u8 0, Value.int IntKind.u8 0, Value.int IntKind.u8 0, Value.int IntKind.u8 0, Value.int IntKind.u8 0, Value.int IntKind.u8 0, Value.int IntKind.u8 0, Value.int IntKind.u8 0, Value.int IntKind.u8 0, Value.int IntKind.u8 0, Value.int IntKind.u8 0, Value.int IntKind.u8 0, Value.int IntKind.u8 0] := rfl

/-- Block m is the map of what was written. -/
def MapIs (w : World) (m : Nat) (s : Sects) : Prop :=
  ∃ D : D1, w.ownsMap Try.prog 3 cRead m (Maps.size D) D ∧ (∀ k : Int, Maps.has D (.int .i64 k) = (look s k).isSome) ∧
    (∀ (k : Int) v, look s k = some v → ∀ z, D.atKey (.int .i64 k) z = cDat v) ∧ Maps.size D = cnt s

theorem own_tight {w : World} {b n : Nat} {D : D1} {P : Program} {k : TypeId} {R : Value → Option (D1 × List MemPlace)} (h : w.ownsMap P k R b n D) : w.ownsMap P k R b (Maps.size D) D := by
  obtain ⟨es, clock, hb, F, _, rfl⟩ := h
  exact ⟨es, clock, hb, F, by simp [Maps.size, length_sorted], rfl⟩

theorem MapIs.lt {w : World} {m : Nat} {s : Sects} (h : MapIs w m s) : m < w.heap.size := by
  obtain ⟨D, h1, _⟩ := h
  exact h1.lt

theorem MapIs.of_block {w w' : World} {m : Nat} {s : Sects} (h : MapIs w m s) (hb : w'.heap[m]? = w.heap[m]?) : MapIs w' m s := by
  obtain ⟨D, ⟨es, clock, h1, h2⟩, h3⟩ := h
  exact ⟨D, ⟨es, clock, hb.trans h1, h2⟩, h3⟩

theorem MapIs.made (w : World) (n : Nat) : MapIs (w.alloc (.map #[] 0)) w.heap.size (List.replicate n none) := by
  have hl : ∀ k : Int, look (List.replicate n none) k = none := by
    intro k
    unfold look
    split
    · simp only [List.getElem?_replicate]
      split <;> rfl
    · rfl
  refine ⟨.map [], World.ownsMap_made w Try.prog 3 cRead, fun k => by rw [hl]; rfl, fun k v h => (by rw [hl] at h; cases h), ?_⟩
  simp [Maps.size, cnt, List.countP_replicate]

theorem keyLit (k : Int) : WideAt.IsKeyLit (Lit.int .i64 k) := trivial
abbrev keyed : Go.Maps.Keyed Try.prog 3 := Go.Maps.int_keyed Try.underlying3
theorem wf64 (k : Int) (h0 : -9223372036854775808 ≤ k) (h1 : k ≤ 9223372036854775807) : (Lit.int .i64 k).wf = true := WalkArith.wf_i64 (by omega)

theorem MapIs.find {w : World} {m : Nat} {s : Sects} (h : MapIs w m s) (k : Int) (h0 : -9223372036854775808 ≤ k) (h1 : k ≤ 9223372036854775807) :
    (Instr.lookup 42 (.map (some m)) (.int .i64 k) true).run Try.prog w = .ok (.tuple #[cVal ((look s k).getD zz), .bool (look s k).isSome]) w ∧
    (Instr.lookup 42 (.map (some m)) (.int .i64 k) false).run Try.prog w = .ok (cVal ((look s k).getD zz)) w := by
  obtain ⟨D, hown, hh, ha, _⟩ := h
  have hkey := Go.Maps.keyOf_int_mk (P := Try.prog) (k := 3) Try.underlying3 (wf64 k h0 h1)
  have hz : (zeroValue 58).run Try.prog w = .ok (cVal zz) w := by rw [cVal_zz]; exact Try.zeroValue58 w
  have hat : D.atKey (.int .i64 k) (cDat zz) = cDat ((look s k).getD zz) := by
    cases hx : look s k with
    | none => exact Maps.atKey_of_not_has (by rw [hh, hx]; rfl) _
    | some v => exact ha k v hx _
  obtain ⟨v, ps, hrun, hv⟩ := hown.look_ok keyed Try.underlying42 hz (cRead_mk zz) hkey
  obtain ⟨v2, ps2, hrun2, hv2⟩ := hown.lookup keyed Try.underlying42 hz (cRead_mk zz) hkey
  rw [hat] at hv hv2
  rw [cRead_inv hv, hh] at hrun
  rw [cRead_inv hv2] at hrun2
  exact ⟨hrun, hrun2⟩

theorem MapIs.len {w : World} {m : Nat} {s : Sects} (h : MapIs w m s) (ty : TypeId) : (Builtin.len_ #[42] ty #[.map (some m)]).run Try.prog w = .ok (.int .i64 (cnt s : Int)) w := by
  obtain ⟨D, hown, _, _, hc⟩ := h
  rw [← hc]
  exact hown.len Try.underlying42 ty

theorem key_ne {a b : Int} (h : a ≠ b) : (Lit.int .i64 a) ≠ Lit.int .i64 b := fun e => h (by injection e)

theorem MapIs.store {w : World} {m : Nat} {s : Sects} (h : MapIs w m s) (k : Nat) (v : Bt) (hk : k < s.length) (h1 : s.length ≤ 1024) :
    ∃ w', (Instr.mapUpdate 42 (.map (some m)) (.int .i64 (k : Int)) (cVal v)).run Try.prog w = .ok () w' ∧ MapIs w' m (put s k v) ∧ w.mapTurned w' m := by
  obtain ⟨D, hown, hh, ha, hc⟩ := h
  have hkey := Go.Maps.keyOf_int_mk (P := Try.prog) (k := 3) Try.underlying3 (wf64 (k : Int) (by omega) (by omega))
  have hti := hown.tidy keyed
  have hcl := cnt_le s
  obtain ⟨w', hrun, r1, r2⟩ := hown.store keyed Try.underlying42 (by unfold maxLen; omega) hkey (cRead_mk v)
  refine ⟨w', hrun, ⟨_, own_tight r1, ?_, ?_, ?_⟩, r2⟩
  · intro j
    by_cases e : j = (k : Int)
    · subst e
      rw [Maps.has_put_same hti.isMap (keyLit _), put, look_set_same _ _ _ hk]
      rfl
    · rw [Maps.has_put_other (key_ne e), put, look_set_other _ _ _ _ e, hh]
  · intro j u hu z
    by_cases e : j = (k : Int)
    · subst e
      rw [put, look_set_same _ _ _ hk] at hu
      injection hu with hu
      subst hu
      exact Maps.atKey_put_same hti.isMap (keyLit _) _ _
    · rw [put, look_set_other _ _ _ _ e] at hu
      rw [Maps.atKey_put_other (key_ne e)]
      exact ha j u hu z
  · rw [Maps.size_put hti, put, cnt_set_some _ _ _ hk, hh, hc]

theorem MapIs.drop {w : World} {m : Nat} {s : Sects} (h : MapIs w m s) (k : Nat) (hk : k < s.length) (h1 : s.length ≤ 1024) (ty : TypeId) :
    ∃ w', (Builtin.delete_ #[42, 3] ty #[.map (some m), .int .i64 (k : Int)]).run Try.prog w = .ok (.tuple #[]) w' ∧ MapIs w' m (s.set k none) ∧ w.mapTurned w' m := by
  obtain ⟨D, hown, hh, ha, hc⟩ := h
  have hkey := Go.Maps.keyOf_int_mk (P := Try.prog) (k := 3) Try.underlying3 (wf64 (k : Int) (by omega) (by omega))
  have hti := hown.tidy keyed
  obtain ⟨w', hrun, r1, r2⟩ := hown.drop keyed Try.underlying42 hkey ty
  refine ⟨w', hrun, ⟨_, own_tight r1, ?_, ?_, ?_⟩, r2⟩
  · intro j
    by_cases e : j = (k : Int)
    · subst e
      rw [Maps.has_del_same, look_set_same _ _ _ hk]
      rfl
    · rw [Maps.has_del_other (key_ne e), look_set_other _ _ _ _ e, hh]
  · intro j u hu z
    by_cases e : j = (k : Int)
    · subst e
      rw [look_set_same _ _ _ hk] at hu
      cases hu
    · rw [look_set_other _ _ _ _ e] at hu
      rw [Maps.atKey_del_other (key_ne e)]
      exact ha j u hu z
  · have g1 := Maps.size_del (k := .int .i64 (k : Int)) hti
    have g2 := cnt_set_none s k hk
    rw [hh] at g1
    omega

end Go.Proofs.Ytbpkgfhhoejmcaa.dk

/- What Fits of package disk does: the closure that tells, and its maker. -/
import Derived.Test.YtbpkgfhhoejmcaaDkNew
import Derived.Test.YtbpkgfhhoejmcaaSlots
import Derived.Deep.QuietTactic
import Derived.BigQuiet
namespace Go.Proofs.Ytbpkgfhhoejmcaa.dk
open Go Go.RowKit

/-- Block a is the map of what was asked. -/
def SetIs (w : World) (a : Nat) (acc : List Int) : Prop :=
  ∃ D : D1, w.ownsMap Try.prog 3 unitElem a (Maps.size D) D ∧ (∀ k : Int, Maps.has D (.int .i64 k) = acc.contains k) ∧ Maps.size D = acc.length

def addTo (acc : List Int) (x : Int) : List Int := if acc.contains x then acc else acc ++ [x]

theorem SetIs.lt {w : World} {a : Nat} {acc : List Int} (h : SetIs w a acc) : a < w.heap.size := by
  obtain ⟨D, h1, _⟩ := h
  exact h1.lt
theorem SetIs.of_block {w w' : World} {m : Nat} {s : List Int} (h : SetIs w m s) (hb : w'.heap[m]? = w.heap[m]?) : SetIs w' m s := by
  obtain ⟨D, ⟨es, clock, h1, h2⟩, h3⟩ := h
  exact ⟨D, ⟨es, clock, hb.trans h1, h2⟩, h3⟩
theorem SetIs.made (w : World) : SetIs (w.alloc (.map #[] 0)) w.heap.size [] :=
  ⟨.map [], World.ownsMap_made w Try.prog 3 unitElem, fun _ => rfl, rfl⟩

theorem SetIs.len {w : World} {a : Nat} {acc : List Int} (h : SetIs w a acc) (ty : TypeId) : (Builtin.len_ #[75] ty #[.map (some a)]).run Try.prog w = .ok (.int .i64 (acc.length : Int)) w := by
  obtain ⟨D, hown, _, hc⟩ := h
  rw [← hc]
  exact hown.len Try.underlying75 ty

theorem SetIs.store {w : World} {a : Nat} {acc : List Int} (h : SetIs w a acc) (k : Int) (k0 : -9223372036854775808 ≤ k) (k1 : k ≤ 9223372036854775807) (hl : acc.length < maxLen) :
    ∃ w', (Instr.mapUpdate 75 (.map (some a)) (.int .i64 k) (.agg #[])).run Try.prog w = .ok () w' ∧ SetIs w' a (addTo acc k) ∧ w.mapTurned w' a := by
  obtain ⟨D, hown, hh, hc⟩ := h
  have hkey := Go.Maps.keyOf_int_mk (P := Try.prog) (k := 3) Try.underlying3 (wf64 k k0 k1)
  have hti := hown.tidy keyed
  obtain ⟨w', hrun, r1, r2⟩ := hown.store keyed Try.underlying75 (by omega) hkey unitElem_mk
  refine ⟨w', hrun, ⟨_, own_tight r1, ?_, ?_⟩, r2⟩
  · intro j
    by_cases e : j = k
    · subst e
      rw [Maps.has_put_same hti.isMap (keyLit _)]
      unfold addTo
      split
      · exact (by assumption : acc.contains j = true).symm
      · simp
    · rw [Maps.has_put_other (key_ne e), hh]
      unfold addTo
      split
      · rfl
      · simp [e]
  · rw [Maps.size_put hti, hh, hc]
    unfold addTo
    split <;> simp

theorem exec_len_set {ρ : Operand → Value} {o : Oper} {w : World} {b : Nat} {s : List Int} (x : Operand) (ho : o.op = .call { callee := .builtin .len, args := #[x], argTypes := #[75] }) (hx : ρ x = .map (some b)) (h : SetIs w b s) :
    (execOp ρ o).run Try.prog w = .ok (.value (.int .i64 (s.length : Int))) w := by
  simp [execOp, ho, resolve, invoke, builtin, hx, h.len o.type, Result.andThen]

theorem wpList_store_set {ops : Array Oper} {rest : List Oper} {o : Oper} {a : Act} {w : World} {Q : Exit → Act → World → Prop} {b : Nat} {s : List Int} (hg : o.guard = none) (x y z : Operand) (ho : o.op = .mapUpdate 75 x y z) (hx : a.eval x = .map (some b)) (h : SetIs w b s)
    (k : Int) (hy : a.eval y = .int .i64 k) (hz : a.eval z = .agg #[]) (k0 : -9223372036854775808 ≤ k) (k1 : k ≤ 9223372036854775807) (hl : s.length < maxLen)
    (hK : ∀ w', SetIs w' b (addTo s k) → w.mapTurned w' b → wpList Try.prog ops Q rest (a.put o.dst undef) w') : wpList Try.prog ops Q (o :: rest) a w := by
  refine wpList_plain hg fun K' hK' => ?_
  obtain ⟨w', hrun, r1, r2⟩ := h.store k k0 k1 hl
  unfold Oper.wp
  simp [execOp, ho, hx, hy, hz, hrun, Result.andThen]
  exact hK' _ _ (hK w' r1 r2)

/-- What the closure has captured. -/
structure Env (w : World) (p B1 B4 B3 a : Nat) (free : Int) (acc : List Int) : Prop where
  b1 : Blk w B1 24 #[.pointer (some ⟨p, 0, none⟩)]
  b4 : Blk w B4 75 #[.map (some a)]
  b3 : Blk w B3 3 #[.int .i64 free]
  set_ : SetIs w a acc

def ask (d : DD) (acc : List Int) (x : Int) : Bool × List Int :=
  if d.has x = false then (false, acc)
  else if (look d.now x).isSome then (true, acc)
  else (decide (((addTo acc x).length : Int) ≤ d.room - (d.used : Int)), addTo acc x)

def AskPost (r : Bool × List Int) (a : Nat) (w : World) (e : Ending) (w' : World) : Prop :=
  e = .returned (.bool r.1) ∧ SetIs w' a r.2 ∧ But (fun k => k = a) w w'

section
variable {w : World} {p m : Nat} {v : Value} {d : DD} {own : Nat → Prop} {B1 B4 B3 a : Nat} {acc : List Int}

theorem ask_not (h : DkAt w own p m v d) (he : Env w p B1 B4 B3 a (d.room - (d.used : Int)) acc) (x : Int) (hh : d.has x = false) :
    Calls Try.prog 43 #[.int .i64 x, .pointer (some ⟨B1, 0, none⟩), .pointer (some ⟨B4, 0, none⟩), .pointer (some ⟨B3, 0, none⟩)] w (AskPost (false, acc) a w) := by
  have hhas := has_any h x
  rw [hh] at hhas
  have HH := Lib.hid hhas
  have HE := Lib.hid he
  have g1 : w.cell? ⟨B1, 0, none⟩ = some (.pointer (some ⟨p, 0, none⟩)) := he.b1.cell 0
  clear h he hhas hh
  go_enter Try.func43, Try.ntmps43
  go_wp2_with (go_at_call 26; refine HH.out.mono ?_; rintro e w' ⟨rfl, rfl⟩)
  go_ret
  exact ⟨rfl, HE.out.set_, But.refl _ _⟩

theorem ask_old {most : Nat} (h0 : d.ok most) (h : DkAt w own p m v d) (he : Env w p B1 B4 B3 a (d.room - (d.used : Int)) acc) (x : Int) (hh : d.has x = true) (hs : (look d.now x).isSome = true) :
    Calls Try.prog 43 #[.int .i64 x, .pointer (some ⟨B1, 0, none⟩), .pointer (some ⟨B4, 0, none⟩), .pointer (some ⟨B3, 0, none⟩)] w (AskPost (true, acc) a w) := by
  have hhas := has_any h x
  rw [hh] at hhas
  have HH := Lib.hid hhas
  have HE := Lib.hid he
  have HM := Lib.hid h.2.1
  have g1 : w.cell? ⟨B1, 0, none⟩ = some (.pointer (some ⟨p, 0, none⟩)) := he.b1.cell 0
  have c2 := (blk6 h.1).2.2.1
  have hk0 : 0 ≤ x ∧ x < (d.n : Int) := by simpa [DD.has] using hh
  have HK := Lib.hid hk0
  have HN := Lib.hid h0.n1
  have hlen : (Lib.byteCells ((look d.now x).getD zz)).toArray.size = 32 := by
    simp only [List.size_toArray, Lib.byteCells_length]
    cases hx : look d.now x with
    | none => exact zz_length
    | some u => exact h0.look1 hx
  have HL := Lib.hid hlen
  have HS := Lib.hid hs
  have hal := fun c => SetIs.of_block he.set_ (Below.heap_alloc w (.cells c 58) a he.set_.lt)
  have HA := Lib.hid hal
  clear h he hhas hh hk0 hlen hs hal h0
  go_enter Try.func43, Try.ntmps43
  go_wp2_with (first | (go_at_call 26; refine HH.out.mono ?_; rintro e w' ⟨rfl, rfl⟩) | (at_lookup; refine wpList_value rfl (exec_look_ok _ _ rfl rfl HM.out x rfl (by have := HK.out; omega) (by have := HK.out; have := HN.out; omega)) ?_; rw [HS.out]) | (refine wpList_skip rfl (exec_store_new w 58 _ _ (.tmp 6) (.tmp 19) rfl rfl rfl (by rw [HL.out]; exact info67) (by rw [HL.out]; rfl) (bytes_all _)) ?_))
  go_ret
  exact ⟨rfl, HA.out _, (But.refl _ _).alloc _⟩

theorem ask_new {most : Nat} (h0 : d.ok most) (h : DkAt w own p m v d) (he : Env w p B1 B4 B3 a (d.room - (d.used : Int)) acc) (x : Int) (hh : d.has x = true) (hs : (look d.now x).isSome = false) (hl : acc.length < maxLen) :
    Calls Try.prog 43 #[.int .i64 x, .pointer (some ⟨B1, 0, none⟩), .pointer (some ⟨B4, 0, none⟩), .pointer (some ⟨B3, 0, none⟩)] w (AskPost (decide (((addTo acc x).length : Int) ≤ d.room - (d.used : Int)), addTo acc x) a w) := by
  have hhas := has_any h x
  rw [hh] at hhas
  have HH := Lib.hid hhas
  have HE := Lib.hid he
  have HM := Lib.hid h.2.1
  have g1 : w.cell? ⟨B1, 0, none⟩ = some (.pointer (some ⟨p, 0, none⟩)) := he.b1.cell 0
  have g4 : w.cell? ⟨B4, 0, none⟩ = some (.map (some a)) := he.b4.cell 0
  have g3 : w.cell? ⟨B3, 0, none⟩ = some (.int .i64 (d.room - (d.used : Int))) := he.b3.cell 0
  have l4 := he.b4.lt
  have l3 := he.b3.lt
  have c2 := (blk6 h.1).2.2.1
  have hk0 : 0 ≤ x ∧ x < (d.n : Int) := by simpa [DD.has] using hh
  have HK := Lib.hid hk0
  have HN := Lib.hid h0.n1
  have hlen : (Lib.byteCells ((look d.now x).getD zz)).toArray.size = 32 := by
    simp only [List.size_toArray, Lib.byteCells_length]
    cases hx : look d.now x with
    | none => exact zz_length
    | some u => exact h0.look1 hx
  have HL := Lib.hid hlen
  have HS := Lib.hid hs
  have hal := fun c => SetIs.of_block he.set_ (Below.heap_alloc w (.cells c 58) a he.set_.lt)
  have HA := Lib.hid hal
  have HLl := Lib.hid hl
  have n43 : B4 ≠ a := by
    rintro rfl
    obtain ⟨D, ⟨es, clock, q, _⟩, _⟩ := he.set_
    have := he.b4
    unfold Blk at this
    rw [q] at this
    cases this
  have n33 : B3 ≠ a := by
    rintro rfl
    obtain ⟨D, ⟨es, clock, q, _⟩, _⟩ := he.set_
    have := he.b3
    unfold Blk at this
    rw [q] at this
    cases this
  clear h he hhas hh hk0 hlen hs hal h0 hl
  generalize hfree : d.room - (d.used : Int) = free at *
  clear hfree
  go_enter Try.func43, Try.ntmps43
  go_wp2_with (first | (go_at_call 26; refine HH.out.mono ?_; rintro e w' ⟨rfl, rfl⟩) | (at_lookup; refine wpList_value rfl (exec_look_ok _ _ rfl rfl HM.out x rfl (by have := HK.out; omega) (by have := HK.out; have := HN.out; omega)) ?_; rw [HS.out]) | (refine wpList_skip rfl (exec_store_new w 58 _ _ (.tmp 6) (.tmp 19) rfl rfl rfl (by rw [HL.out]; exact info67) (by rw [HL.out]; rfl) (bytes_all _)) ?_) | (at_mapUpdate; refine wpList_store_set rfl _ _ _ rfl rfl (HA.out _) x rfl rfl (by have := HK.out; omega) (by have := HK.out; have := HN.out; omega) HLl.out ?_; intro w2 hs2 ht2; have HS2 := Lib.hid hs2; have HB2 := Lib.hid (((But.refl (fun k => k = a) w).alloc _).trans (turned_but ht2) (fun _ h => .inl h)); have q4 := ((turned_but ht2).block B4 (by simp; omega) n43).trans (Below.heap_alloc w _ B4 l4); have q3 := ((turned_but ht2).block B3 (by simp; omega) n33).trans (Below.heap_alloc w _ B3 l3); have k4 := (World.cell?_of_block (a := ⟨B4, 0, none⟩) q4).trans g4; have k3 := (World.cell?_of_block (a := ⟨B3, 0, none⟩) q3).trans g3; clear hs2 ht2 q4 q3) | (at_len; refine wpList_value rfl (exec_len_set _ rfl rfl HS2.out) ?_))
  go_ret
  exact ⟨rfl, HS2.out, HB2.out⟩
end
end Go.Proofs.Ytbpkgfhhoejmcaa.dk

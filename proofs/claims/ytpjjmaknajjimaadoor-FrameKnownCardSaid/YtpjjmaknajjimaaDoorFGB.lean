/- What FrameBack's operations do that make memory in a drawn order. -/
import Derived.Test.YtpjjmaknajjimaaDoorFWorks
import Derived.Test.YtpjjmaknajjimaaDoorFRef
import Derived.Test.YtpjjmaknajjimaaDoorSlots
import Derived.Test.YtpjjmaknajjimaaDoorStep
import Derived.Deep.RegionLawGrows
namespace Go.Proofs.YtpjjmaknajjimaaDoor
open Go.RowKit

/-- What the operations of 'append(append([]string{}, l...), string(make([]byte, 32)))' yield: 0 the empty list, 2 the copy, 3 the bytes, 4 the text, 5 the list of one. -/
def GB (B : Nat) (v3 : Value) (ps : List (List UInt8)) : Nat → Value → World → Prop
  | 0, v, w => ∃ b, v = .slice (some ⟨b, 0, none⟩) 0 0 ∧ B ≤ b ∧ w.heap[b]? = some (.cells #[] 9 (0, 0))
  | 1, v, _ => v = v3
  | 2, v, w => OwnsStrs w B v ps
  | 3, v, w => ∃ b, v = .slice (some ⟨b, 0, none⟩) 32 32 ∧ w.heap[b]? = some (.cells (Lib.byteCells (List.replicate 32 0)).toArray 5 (0, 0))
  | 4, v, _ => v = .string (str (List.replicate 32 0))
  | 5, v, w => ∃ b, v = .slice (some ⟨b, 0, none⟩) 1 1 ∧ w.heap[b]? = some (.cells #[.string (str (List.replicate 32 0))] 9 (0, 0))
  | _, _, _ => True

theorem one_cell_b (p : List UInt8) : ∀ u ∈ ([Value.string (str p)] : List Value), u.oneCell' = true := by
  intro u hu
  simp at hu
  subst hu
  rfl

theorem heap_keeps {w w' : World} {b : Nat} {o : Obj} (h : w.heap[b]? = some o) (hb : Below w.heap.size w w') : w'.heap[b]? = some o := by
  rw [hb.block b (Array.getElem?_eq_some_iff.1 h).1]; exact h

theorem GB_mono (B : Nat) (v3 : Value) (ps : List (List UInt8)) (i : Nat) (v : Value) (w w' : World) (hi : i < 6) (h : GB B v3 ps i v w) (hb : Below w.heap.size w w') : GB B v3 ps i v w' := by
  match i, hi, h with
  | 0, _, ⟨b, h1, h2, h3⟩ => exact ⟨b, h1, h2, heap_keeps h3 hb⟩
  | 1, _, h => exact h
  | 2, _, h => exact owns_kept h hb
  | 3, _, ⟨b, h1, h2⟩ => exact ⟨b, h1, heap_keeps h2 hb⟩
  | 4, _, h => exact h
  | 5, _, ⟨b, h1, h2⟩ => exact ⟨b, h1, heap_keeps h2 hb⟩

theorem owns_strs {w : World} {B : Nat} {v : Value} {ps : List (List UInt8)} (h : OwnsStrs w B v ps) (hp : 0 < ps.length) :
    ∃ g c, v = .slice (some ⟨g, 0, none⟩) ps.length c ∧ B ≤ g ∧ g < w.heap.size ∧ ps.length ≤ c ∧ StrsAt w (some ⟨g, 0, none⟩) ps := by
  obtain ⟨a, c, rfl, hc, _, hs, hn, hx⟩ := h.view
  cases a with
  | none => rw [hn rfl] at hp; simp at hp
  | some x =>
    obtain ⟨g, rfl, h1, h2⟩ := hx x rfl
    exact ⟨g, c, rfl, h1, h2, hc, hs⟩

theorem slice_cut (T E : TypeId) (hT : Tryd.prog.underlying T = some (.slice E)) (hE : ∀ w, (Go.sizeOf E).run Tryd.prog w = .ok 1 w) (a : Option Addr) (len cap : Nat) (k : Int) (h0 : 0 ≤ k) (hk : k.toNat ≤ cap) (w : World) :
    (Instr.slice T (.slice a len cap) none (some (.int .i64 k)) none).run Tryd.prog w = .ok (.slice a k.toNat cap) w := by
  have h1 : k ≤ (cap : Int) := by omega
  have he : Tryd.prog.elem T = E := by simp [Program.elem, hT]
  have hT' : Tryd.prog.underlying T = some (.slice (Tryd.prog.elem T)) := by rw [he]; exact hT
  have ha : a.map (·.add 0) = a := by cases a <;> simp [Addr.add]
  rw [run_slice_any (P := Tryd.prog) w T a len cap hT', he]
  simp [Instr.sliceBounds, run_sliceBound, h0, h1, hE, sliced, ha, Result.andThen]

section
variable {B : Nat} {v3 : Value} {ps : List (List UInt8)} {ρ : Operand → Value} {W : World} {o : Oper}

theorem gb0 (ho : o.op = .buildSlice 22 0 #[]) (hB : B ≤ W.heap.size) :
    stepTo Tryd.prog (fun v w' => Below W.heap.size W w' ∧ GB B v3 ps 0 v w') ((execOp ρ o).run Tryd.prog W) := by
  refine stepTo_value (v := .slice (some ⟨W.heap.size, 0, none⟩) 0 0) (w' := W.alloc (.cells #[] 9)) ?_ ⟨(Below.refl _ _).alloc (Nat.le_refl _) _, W.heap.size, rfl, hB, heap_alloc_new W _⟩
  unfold execOp
  rw [ho]
  go_simp

theorem gb1 (t : Tmp) (ho : o.op = .move (.tmp t)) (h3 : ρ (.tmp t) = v3) :
    stepTo Tryd.prog (fun v w' => Below W.heap.size W w' ∧ GB B v3 ps 1 v w') ((execOp ρ o).run Tryd.prog W) := by
  refine stepTo_value (v := v3) (w' := W) ?_ ⟨Below.refl _ _, rfl⟩
  unfold execOp
  rw [ho]
  go_simp

theorem gb2 (s x : Tmp) (g c : Nat) (u : Value) (ho : o.op = .call { callee := .builtin .append, args := #[.tmp s, .tmp x], argTypes := #[22, 22] }) (h83 : ρ (.tmp s) = u) (hu : GB B v3 ps 0 u W) (h84 : ρ (.tmp x) = .slice (some ⟨g, 0, none⟩) ps.length c)
    (hstr : StrsAt W (some ⟨g, 0, none⟩) ps) (hp : 0 < ps.length) (hp1 : ps.length ≤ 1000) (hB : B ≤ W.heap.size) :
    stepTo Tryd.prog (fun v w' => Below W.heap.size W w' ∧ GB B v3 ps 2 v w') ((execOp ρ o).run Tryd.prog W) := by
  obtain ⟨b, rfl, hb1, hb2⟩ := hu
  obtain ⟨i0, hi, hz0, hz1, hz2⟩ := info_parts Tryd.info9
  have hnews : ∀ j v, (strVals ps)[j]? = some v → W.cell? ((⟨g, 0, none⟩ : Addr).add j) = some v := by
    intro j v hj
    have hjl : j < ps.length := by
      have := (List.getElem?_eq_some_iff.1 hj).1
      rwa [strVals_length] at this
    obtain ⟨b', o', he, _, hc⟩ := hstr j hjl
    simp only [Option.some.injEq, Addr.mk.injEq, and_true] at he
    obtain ⟨rfl, rfl⟩ := he
    rw [addr_add, hc]
    simp only [strVals, List.getElem?_map, List.getElem?_eq_getElem hjl, Option.map_some, Option.some.injEq] at hj
    rw [hj]
  obtain ⟨v', w', hrun, r1, r2⟩ := run_append_arg_grows (P := Tryd.prog) W 22 o.type 9 i0 (.string ByteArray.empty) 1 16 Tryd.underlying22 hi hz0 hz1 hz2 rfl (by decide) ⟨b, 0, none⟩ 0 0 [] rfl (fun j u h => by simp at h) ⟨g, 0, none⟩ ps.length c (strVals ps) (by rw [strVals_length, Nat.mul_one]) hnews (by omega) (by unfold maxLen; omega) (by omega)
  refine stepTo_value (v := v') (w' := w') ?_ ⟨(Below.refl W.heap.size W).grown r2 (Nat.le_refl _) (fun j hj => by cases hj), ?_⟩
  · unfold execOp
    rw [ho]
    simp [resolve, invoke, builtin, h83, h84, hrun, Result.andThen]
  · simp only [Nat.zero_add, List.nil_append] at r1
    exact ownsRow_mono r1 hB

theorem gb3 (c : Operand) (ho : o.op = .makeSlice 33 c c) (hc : ρ c = .int .i64 32) :
    stepTo Tryd.prog (fun v w' => Below W.heap.size W w' ∧ GB B v3 ps 3 v w') ((execOp ρ o).run Tryd.prog W) := by
  have hm := make_zeros 32 32 W rfl (by decide)
  refine stepTo_value (v := .slice (some ⟨W.heap.size, 0, none⟩) 32 32) (w' := W.alloc (.cells (Lib.byteCells (List.replicate 32 0)).toArray 5)) ?_ ⟨(Below.refl _ _).alloc (Nat.le_refl _) _, W.heap.size, rfl, heap_alloc_new W _⟩
  unfold execOp
  rw [ho]
  simp [hc, hm, Result.andThen]

theorem gb4 (t : Tmp) (u : Value) (ho : o.op = .convert 33 9 (.tmp t)) (ht : ρ (.tmp t) = u) (hu : GB B v3 ps 3 u W) :
    stepTo Tryd.prog (fun v w' => Below W.heap.size W w' ∧ GB B v3 ps 4 v w') ((execOp ρ o).run Tryd.prog W) := by
  obtain ⟨b, rfl, hb⟩ := hu
  have hcv := conv_block (List.replicate 32 0) b 32 W (by simp) hb
  refine stepTo_value (v := .string (str (List.replicate 32 0))) (w' := W) ?_ ⟨Below.refl _ _, rfl⟩
  unfold execOp
  rw [ho]
  simp [ht, hcv, Result.andThen]

theorem one_str (t : Operand) (z : ByteArray) (ho : o.op = .buildSlice 22 1 #[(0, t)]) (ht : ρ t = .string z) :
    stepTo Tryd.prog (fun v w' => Below W.heap.size W w' ∧ ∃ b, v = .slice (some ⟨b, 0, none⟩) 1 1 ∧ w'.heap[b]? = some (.cells #[.string z] 9 (0, 0))) ((execOp ρ o).run Tryd.prog W) := by
  refine stepTo_value (v := .slice (some ⟨W.heap.size, 0, none⟩) 1 1) (w' := W.alloc (.cells #[.string z] 9)) ?_ ⟨(Below.refl _ _).alloc (Nat.le_refl _) _, W.heap.size, rfl, heap_alloc_new W _⟩
  unfold execOp
  rw [ho]
  simp only [List.map_toArray, List.map_cons, List.map_nil, ht]
  go_simp

theorem gb5 (t : Tmp) (u : Value) (ho : o.op = .buildSlice 22 1 #[(0, .tmp t)]) (ht : ρ (.tmp t) = u) (hu : GB B v3 ps 4 u W) :
    stepTo Tryd.prog (fun v w' => Below W.heap.size W w' ∧ GB B v3 ps 5 v w') ((execOp ρ o).run Tryd.prog W) := by
  obtain rfl : u = .string (str (List.replicate 32 0)) := hu
  exact one_str (.tmp t) _ ho ht
end

def BackIRel (ps : List (List UInt8)) (i : Value) : Prop := ∃ k : Nat, k ≤ ps.length ∧ i = .int .i64 (k : Int)

end Go.Proofs.YtpjjmaknajjimaaDoor

/- What FrameKnown's operations do that make memory in a drawn order; and that none of its ten lists is a text's. -/
import Derived.Test.YtpjjmaknajjimaaDoorFGB
import Derived.Test.YtpjjmaknajjimaaDoorFRUn
namespace Go.Proofs.YtpjjmaknajjimaaDoor
open Go.RowKit

/-! ### The ten lists -/

def zz : List UInt8 := List.replicate 32 0
def Bb : List UInt8 := [0, 9, 203, 244, 57, 38, 49, 50, 51, 52, 53, 54, 55, 56, 57, 0, 0, 0, 0, 0, 0, 0, 0, 0, 0, 0, 0, 0, 0, 0, 0, 0]
def nine : ByteArray := ⟨#[49, 50, 51, 52, 53, 54, 55, 56, 57]⟩

/-- The lists, in terms of b's one sector and of zeros. -/
def knownOf (b z : List UInt8) : List (List (List UInt8)) :=
  [[], [b, b], [b, z], [b.take 31], [b ++ [120]], [[0, 9] ++ z.drop 2], [[0, 8] ++ b.drop 2], [[255, 255] ++ b.drop 2], [b.take 31 ++ [120]], [b, []]]

def noText (ps : List (List UInt8)) : Bool :=
  ps.isEmpty || ps.any (fun p => p.length != 32) ||
    (let n := 256 * (ps.flatten.getD 0 0).toNat + (ps.flatten.getD 1 0).toNat
     decide (8192 < n) || decide (ps.flatten.length < 6 + n) || wholeB ((ps.flatten.drop 6).take n) != ps.flatten)

theorem noText_none (ps : List (List UInt8)) (h : noText ps = true) : ∀ t, ¬ IsText ps t := by
  intro t ht
  have hf : ps.flatten = wholeB t := by rw [ht.2, flatten_secs]
  have h32 : ∀ p ∈ ps, p.length = 32 := by
    intro p hp
    obtain ⟨i, hi, rfl⟩ := List.getElem_of_mem hp
    rw [ht.2] at hi
    have := secs_each t i hi
    have e : ps[i] = (secs t)[i] := List.getElem_of_eq ht.2 _
    rw [e]; exact this
  have hne : ps ≠ [] := fun e => none_empty t (e ▸ ht)
  have hl : 6 ≤ ps.flatten.length := by rw [hf, wholeB_length]; have := nsec_pos t.length; omega
  have h0 : 0 < ps.flatten.length := by omega
  have h1 : 1 < ps.flatten.length := by omega
  have e0 : ps.flatten.getD 0 0 = ps.flatten[0] := by rw [List.getD_eq_getElem?_getD, List.getElem?_eq_getElem h0]; rfl
  have e1 : ps.flatten.getD 1 0 = ps.flatten[1] := by rw [List.getD_eq_getElem?_getD, List.getElem?_eq_getElem h1]; rfl
  have hn := text_len ps t ht (by omega) (by omega)
  unfold noText at h
  simp only [Bool.or_eq_true, List.isEmpty_iff, List.any_eq_true, bne_iff_ne, decide_eq_true_eq, ne_eq] at h
  rw [e0, e1] at h
  rcases h with (h | ⟨p, hp, h⟩) | (h | h) | h
  · exact hne h
  · exact h (h32 p hp)
  · exact none_len ps (by omega) (by omega) _ rfl (.inl h) t ht
  · exact none_len ps (by omega) (by omega) _ rfl (.inr h) t ht
  · exact none_whole ps (by omega) (by omega) _ rfl h t ht

theorem known_none : ∀ ps ∈ knownOf Bb zz, (∀ t, ¬ IsText ps t) ∧ ps.length ≤ 1000 ∧ ps.flatten.length ≤ 100000 := by
  have h : (knownOf Bb zz).all (fun ps => noText ps && decide (ps.length ≤ 1000) && decide (ps.flatten.length ≤ 100000)) = true := by decide +kernel
  intro ps hp
  have := List.all_eq_true.1 h ps hp
  simp only [Bool.and_eq_true, decide_eq_true_eq] at this
  exact ⟨noText_none ps this.1.1, this.1.2, this.2⟩

theorem secs_nine : secs (bl nine) = [Bb] := by decide +kernel
theorem secs_none : secs (bl ⟨#[]⟩) = [zz] := by decide +kernel

/-! ### Zeros made -/

theorem mk_zeros (z : Nat) (hz : z ≤ 1000000) : ∃ zc : Array Value,
    (∀ w : World, (Instr.makeSlice 33 (.int .i64 (z : Int)) (.int .i64 (z : Int))).run Tryd.prog w = .ok (.slice (some ⟨w.heap.size, 0, none⟩) z z) (w.alloc (.cells zc 5))) ∧
    (∀ w : World, (convert 33 9 (.slice (some ⟨w.heap.size, 0, none⟩) z z)).run Tryd.prog (w.alloc (.cells zc 5)) = .ok (.string (str (List.replicate z 0))) (w.alloc (.cells zc 5))) :=
  ⟨(Lib.byteCells (List.replicate z 0)).toArray, fun w => make_zeros (z : Int) z w rfl hz, fun w => conv_block (List.replicate z 0) w.heap.size z _ (by simp) (heap_alloc_new w _)⟩

/-! ### The words of the region's operations -/

/-- A slice literal of strings. -/
def IsLit (v : Value) (w : World) (ps : List (List UInt8)) : Prop := ∃ b, v = .slice (some ⟨b, 0, none⟩) ps.length ps.length ∧ w.heap[b]? = some (.cells (strVals ps).toArray 9 (0, 0))

theorem IsLit.keeps {v : Value} {w w' : World} {ps : List (List UInt8)} (h : IsLit v w ps) (hb : Below w.heap.size w w') : IsLit v w' ps := by
  obtain ⟨b, h1, h2⟩ := h
  exact ⟨b, h1, heap_keeps h2 hb⟩

theorem IsLit.strs {v : Value} {w : World} {ps : List (List UInt8)} (h : IsLit v w ps) : ∃ a c, v = .slice a ps.length c ∧ StrsAt w a ps := by
  obtain ⟨b, h1, h2⟩ := h
  refine ⟨some ⟨b, 0, none⟩, ps.length, h1, fun i hi => ⟨b, 0, rfl, (Array.getElem?_eq_some_iff.1 h2).1, ?_⟩⟩
  rw [Nat.zero_add, cell_of_row w b i _ _ _ h2]
  simp [strVals, hi]

/-- A slice of slices of strings. -/
def IsLits (v : Value) (w : World) (ls : List (List (List UInt8))) : Prop :=
  ∃ b vs, v = .slice (some ⟨b, 0, none⟩) ls.length ls.length ∧ w.heap[b]? = some (.cells (vs : List Value).toArray 22 (0, 0)) ∧ vs.length = ls.length ∧
    ∀ k (h : k < ls.length), ∃ u a c, vs[k]? = some u ∧ u = .slice a ls[k].length c ∧ StrsAt w a ls[k]

theorem IsLits.keeps {v : Value} {w w' : World} {ls : List (List (List UInt8))} (h : IsLits v w ls) (hb : Below w.heap.size w w') : IsLits v w' ls := by
  obtain ⟨b, vs, h1, h2, h3, h4⟩ := h
  refine ⟨b, vs, h1, heap_keeps h2 hb, h3, fun k hk => ?_⟩
  obtain ⟨u, a, c, hu, he, hs⟩ := h4 k hk
  exact ⟨u, a, c, hu, he, hs.below hb (Nat.le_refl _)⟩

section
variable {ρ : Operand → Value} {W : World} {o : Oper}

theorem fk_val (v : Value) (h : (execOp ρ o).run Tryd.prog W = .ok (.value v) W) :
    stepTo Tryd.prog (fun u w' => Below W.heap.size W w' ∧ u = v) ((execOp ρ o).run Tryd.prog W) :=
  stepTo_value h ⟨Below.refl _ _, rfl⟩

theorem fk_move (x : Operand) (v : Value) (ho : o.op = .move x) (h : ρ x = v) :
    stepTo Tryd.prog (fun u w' => Below W.heap.size W w' ∧ u = v) ((execOp ρ o).run Tryd.prog W) := by
  refine fk_val v ?_
  unfold execOp
  rw [ho]
  go_simp

theorem fk_addr (x k : Operand) (g n c : Nat) (ho : o.op = .indexAddr 22 x k) (h : ρ x = .slice (some ⟨g, 0, none⟩) (n + 1) c) (hk : ρ k = .int .i64 0) :
    stepTo Tryd.prog (fun u w' => Below W.heap.size W w' ∧ u = .pointer (some ⟨g, 0, none⟩)) ((execOp ρ o).run Tryd.prog W) := by
  refine fk_val _ ?_
  have hi : (0 : Int) < ((n + 1 : Nat) : Int) := by omega
  unfold execOp
  rw [ho]
  simp only [h, hk]
  go_simp

theorem fk_load (x : Operand) (g : Nat) (v : Value) (ho : o.op = .load 9 x) (h : ρ x = .pointer (some ⟨g, 0, none⟩)) (hc : W.cell? ⟨g, 0, none⟩ = some v) :
    stepTo Tryd.prog (fun u w' => Below W.heap.size W w' ∧ u = v) ((execOp ρ o).run Tryd.prog W) := by
  refine fk_val _ ?_
  unfold execOp
  rw [ho]
  simp only [h]
  go_simp

theorem fk_upto (x k : Operand) (l : List UInt8) (n : Nat) (ho : o.op = .slice 9 x none (some k) none) (h : ρ x = .string (str l)) (hk : ρ k = .int .i64 (n : Int)) (hn : n ≤ l.length) :
    stepTo Tryd.prog (fun u w' => Below W.heap.size W w' ∧ u = .string (str (l.take n))) ((execOp ρ o).run Tryd.prog W) := by
  have hz := str_size l
  have hx : (str l).extract 0 n = str (l.take n) := by rw [← str_bl (ByteArray.extract _ _ _), bl_upto, bl_str]
  have hni : (n : Int) ≤ ((str l).size : Int) := by omega
  refine fk_val _ ?_
  unfold execOp
  rw [ho]
  simp only [h]
  rw [← hx]
  generalize str l = s at *
  clear hz hx
  go_simp

theorem fk_from (x k : Operand) (l : List UInt8) (n : Nat) (ho : o.op = .slice 9 x (some k) none none) (h : ρ x = .string (str l)) (hk : ρ k = .int .i64 (n : Int)) (hn : n ≤ l.length) :
    stepTo Tryd.prog (fun u w' => Below W.heap.size W w' ∧ u = .string (str (l.drop n))) ((execOp ρ o).run Tryd.prog W) := by
  have hz := str_size l
  have hx : (str l).extract n (str l).size = str (l.drop n) := by rw [← str_bl (ByteArray.extract _ _ _), bl_from, bl_str]
  have hni : (n : Int) ≤ ((str l).size : Int) := by omega
  refine fk_val _ ?_
  unfold execOp
  rw [ho]
  simp only [h]
  rw [← hx]
  generalize str l = s at *
  clear hz hx
  go_simp

theorem fk_cat (x y : Operand) (l r : List UInt8) (ho : o.op = .binOp .add 9 x y 9) (h : ρ x = .string (str l)) (hk : ρ y = .string (str r)) (hl : l.length ≤ 1000) (hr : r.length ≤ 1000) :
    stepTo Tryd.prog (fun u w' => Below W.heap.size W w' ∧ u = .string (str (l ++ r))) ((execOp ρ o).run Tryd.prog W) := by
  have hz := str_size l
  have hz2 := str_size r
  have hx := str_add l r
  refine fk_val _ ?_
  unfold execOp
  rw [ho]
  simp only [h, hk]
  rw [← hx]
  have h1 : (str l).size ≤ 1000 := by omega
  have h2 : (str r).size ≤ 1000 := by omega
  have h12 : (str l).size + (str r).size ≤ 9223372036854775807 := by omega
  generalize str l = s at *
  generalize str r = t at *
  clear hz hz2 hx
  go_simp

theorem fk_one (x : Operand) (p : List UInt8) (ho : o.op = .buildSlice 22 1 #[(0, x)]) (h : ρ x = .string (str p)) :
    stepTo Tryd.prog (fun v w' => Below W.heap.size W w' ∧ IsLit v w' [p]) ((execOp ρ o).run Tryd.prog W) := by
  refine stepTo_value (v := .slice (some ⟨W.heap.size, 0, none⟩) 1 1) (w' := W.alloc (.cells #[.string (str p)] 9)) ?_ ⟨(Below.refl _ _).alloc (Nat.le_refl _) _, W.heap.size, rfl, heap_alloc_new W _⟩
  unfold execOp
  rw [ho]
  simp only [List.map_toArray, List.map_cons, List.map_nil, h]
  go_simp

theorem fk_two (x y : Operand) (p q : List UInt8) (ho : o.op = .buildSlice 22 2 #[(0, x), (1, y)]) (h : ρ x = .string (str p)) (hy : ρ y = .string (str q)) :
    stepTo Tryd.prog (fun v w' => Below W.heap.size W w' ∧ IsLit v w' [p, q]) ((execOp ρ o).run Tryd.prog W) := by
  refine stepTo_value (v := .slice (some ⟨W.heap.size, 0, none⟩) 2 2) (w' := W.alloc (.cells #[.string (str p), .string (str q)] 9)) ?_ ⟨(Below.refl _ _).alloc (Nat.le_refl _) _, W.heap.size, rfl, heap_alloc_new W _⟩
  unfold execOp
  rw [ho]
  simp only [List.map_toArray, List.map_cons, List.map_nil, h, hy]
  go_simp
theorem fk_ten (x0 x1 x2 x3 x4 x5 x6 x7 x8 x9 : Operand) (u1 u2 u3 u4 u5 u6 u7 u8 u9 : Value) (p1 p2 p3 p4 p5 p6 p7 p8 p9 : List (List UInt8)) (ho : o.op = .buildSlice 36 10 #[(0, x0), (1, x1), (2, x2), (3, x3), (4, x4), (5, x5), (6, x6), (7, x7), (8, x8), (9, x9)]) (h0 : ρ x0 = .slice none 0 0) (h1 : ρ x1 = u1) (l1 : IsLit u1 W p1) (h2 : ρ x2 = u2) (l2 : IsLit u2 W p2) (h3 : ρ x3 = u3) (l3 : IsLit u3 W p3) (h4 : ρ x4 = u4) (l4 : IsLit u4 W p4) (h5 : ρ x5 = u5) (l5 : IsLit u5 W p5) (h6 : ρ x6 = u6) (l6 : IsLit u6 W p6) (h7 : ρ x7 = u7) (l7 : IsLit u7 W p7) (h8 : ρ x8 = u8) (l8 : IsLit u8 W p8) (h9 : ρ x9 = u9) (l9 : IsLit u9 W p9) :
    stepTo Tryd.prog (fun v w' => Below W.heap.size W w' ∧ IsLits v w' [[], p1, p2, p3, p4, p5, p6, p7, p8, p9]) ((execOp ρ o).run Tryd.prog W) := by
  obtain ⟨a1, c1, e1, s1⟩ := l1.strs
  obtain ⟨b1, rfl, _⟩ := l1
  obtain ⟨a2, c2, e2, s2⟩ := l2.strs
  obtain ⟨b2, rfl, _⟩ := l2
  obtain ⟨a3, c3, e3, s3⟩ := l3.strs
  obtain ⟨b3, rfl, _⟩ := l3
  obtain ⟨a4, c4, e4, s4⟩ := l4.strs
  obtain ⟨b4, rfl, _⟩ := l4
  obtain ⟨a5, c5, e5, s5⟩ := l5.strs
  obtain ⟨b5, rfl, _⟩ := l5
  obtain ⟨a6, c6, e6, s6⟩ := l6.strs
  obtain ⟨b6, rfl, _⟩ := l6
  obtain ⟨a7, c7, e7, s7⟩ := l7.strs
  obtain ⟨b7, rfl, _⟩ := l7
  obtain ⟨a8, c8, e8, s8⟩ := l8.strs
  obtain ⟨b8, rfl, _⟩ := l8
  obtain ⟨a9, c9, e9, s9⟩ := l9.strs
  obtain ⟨b9, rfl, _⟩ := l9
  have hb : Below W.heap.size W (W.alloc (.cells #[.slice none 0 0, .slice (some ⟨b1, 0, none⟩) p1.length p1.length, .slice (some ⟨b2, 0, none⟩) p2.length p2.length, .slice (some ⟨b3, 0, none⟩) p3.length p3.length, .slice (some ⟨b4, 0, none⟩) p4.length p4.length, .slice (some ⟨b5, 0, none⟩) p5.length p5.length, .slice (some ⟨b6, 0, none⟩) p6.length p6.length, .slice (some ⟨b7, 0, none⟩) p7.length p7.length, .slice (some ⟨b8, 0, none⟩) p8.length p8.length, .slice (some ⟨b9, 0, none⟩) p9.length p9.length] 22)) := (Below.refl _ _).alloc (Nat.le_refl _) _
  refine stepTo_value (v := .slice (some ⟨W.heap.size, 0, none⟩) 10 10) (w' := W.alloc (.cells #[.slice none 0 0, .slice (some ⟨b1, 0, none⟩) p1.length p1.length, .slice (some ⟨b2, 0, none⟩) p2.length p2.length, .slice (some ⟨b3, 0, none⟩) p3.length p3.length, .slice (some ⟨b4, 0, none⟩) p4.length p4.length, .slice (some ⟨b5, 0, none⟩) p5.length p5.length, .slice (some ⟨b6, 0, none⟩) p6.length p6.length, .slice (some ⟨b7, 0, none⟩) p7.length p7.length, .slice (some ⟨b8, 0, none⟩) p8.length p8.length, .slice (some ⟨b9, 0, none⟩) p9.length p9.length] 22)) ?_ ⟨hb, W.heap.size, [.slice none 0 0, .slice (some ⟨b1, 0, none⟩) p1.length p1.length, .slice (some ⟨b2, 0, none⟩) p2.length p2.length, .slice (some ⟨b3, 0, none⟩) p3.length p3.length, .slice (some ⟨b4, 0, none⟩) p4.length p4.length, .slice (some ⟨b5, 0, none⟩) p5.length p5.length, .slice (some ⟨b6, 0, none⟩) p6.length p6.length, .slice (some ⟨b7, 0, none⟩) p7.length p7.length, .slice (some ⟨b8, 0, none⟩) p8.length p8.length, .slice (some ⟨b9, 0, none⟩) p9.length p9.length], rfl, heap_alloc_new W _, rfl, fun k hk => ?_⟩
  · unfold execOp
    rw [ho]
    simp only [List.map_toArray, List.map_cons, List.map_nil, h0, h1, h2, h3, h4, h5, h6, h7, h8, h9]
    go_simp
  · have hs0 : StrsAt (W.alloc (.cells #[.slice none 0 0, .slice (some ⟨b1, 0, none⟩) p1.length p1.length, .slice (some ⟨b2, 0, none⟩) p2.length p2.length, .slice (some ⟨b3, 0, none⟩) p3.length p3.length, .slice (some ⟨b4, 0, none⟩) p4.length p4.length, .slice (some ⟨b5, 0, none⟩) p5.length p5.length, .slice (some ⟨b6, 0, none⟩) p6.length p6.length, .slice (some ⟨b7, 0, none⟩) p7.length p7.length, .slice (some ⟨b8, 0, none⟩) p8.length p8.length, .slice (some ⟨b9, 0, none⟩) p9.length p9.length] 22)) none [] := StrsAt.nil _ _
    rcases k with _ | _ | _ | _ | _ | _ | _ | _ | _ | _ | k
    · exact ⟨_, none, 0, rfl, rfl, hs0⟩
    · exact ⟨_, a1, c1, rfl, e1, s1.below hb (Nat.le_refl _)⟩
    · exact ⟨_, a2, c2, rfl, e2, s2.below hb (Nat.le_refl _)⟩
    · exact ⟨_, a3, c3, rfl, e3, s3.below hb (Nat.le_refl _)⟩
    · exact ⟨_, a4, c4, rfl, e4, s4.below hb (Nat.le_refl _)⟩
    · exact ⟨_, a5, c5, rfl, e5, s5.below hb (Nat.le_refl _)⟩
    · exact ⟨_, a6, c6, rfl, e6, s6.below hb (Nat.le_refl _)⟩
    · exact ⟨_, a7, c7, rfl, e7, s7.below hb (Nat.le_refl _)⟩
    · exact ⟨_, a8, c8, rfl, e8, s8.below hb (Nat.le_refl _)⟩
    · exact ⟨_, a9, c9, rfl, e9, s9.below hb (Nat.le_refl _)⟩
    · exact absurd hk (by simp)

theorem fk_len (x : Operand) (g n c : Nat) (ho : o.op = .call { callee := .builtin .len, args := #[x], argTypes := #[36] }) (h : ρ x = .slice (some ⟨g, 0, none⟩) n c) :
    stepTo Tryd.prog (fun u w' => Below W.heap.size W w' ∧ u = .int .i64 (n : Int)) ((execOp ρ o).run Tryd.prog W) := by
  refine fk_val _ ?_
  unfold execOp
  rw [ho]
  simp only [resolve, invoke, builtin, List.map_toArray, List.map_cons, List.map_nil, h]
  go_simp
theorem lits_len {x : Operand} {u : Value} {ls : List (List (List UInt8))} (h : ρ x = u) (hl : IsLits u W ls) (ho : o.op = .call { callee := .builtin .len, args := #[x], argTypes := #[36] }) :
    stepTo Tryd.prog (fun u w' => Below W.heap.size W w' ∧ u = .int .i64 (ls.length : Int)) ((execOp ρ o).run Tryd.prog W) := by
  obtain ⟨b, vs, rfl, _⟩ := hl
  exact fk_len x b _ _ ho h
end

/-- What is said of one operation's value. -/
structure KW where
  kind : Nat
  v : Value
  ps : List (List UInt8)
  ls : List (List (List UInt8))

def KW.val (v : Value) : KW := ⟨0, v, [], []⟩
def KW.lit (ps : List (List UInt8)) : KW := ⟨1, undef, ps, []⟩
def KW.lits (ls : List (List (List UInt8))) : KW := ⟨2, undef, [], ls⟩

def KW.holds (k : KW) (v : Value) (w : World) : Prop :=
  match k.kind with
  | 0 => v = k.v
  | 1 => IsLit v w k.ps
  | _ => IsLits v w k.ls

def GK (T : List KW) (i : Nat) (v : Value) (w : World) : Prop := (T.getD i (.val undef)).holds v w

theorem GK_mono (T : List KW) (m i : Nat) (v : Value) (w w' : World) (_ : i < m) (h : GK T i v w) (hb : Below w.heap.size w w') : GK T i v w' := by
  unfold GK KW.holds at *
  generalize T.getD i (.val undef) = k at *
  obtain ⟨n, x, ps, ls⟩ := k
  match n, h with
  | 0, h => exact h
  | 1, h => exact IsLit.keeps h hb
  | _ + 2, h => exact IsLits.keeps h hb

/-- The table of FrameKnown's region. -/
def tableK (vb vz p : Value) (b z : List UInt8) : List KW := [
  .val vb, .val p, .val (.string (str b)), .val vb, .val p, .val (.string (str b)), .lit [b, b], .val vb,
  .val p, .val (.string (str b)), .val vz, .lit [b, z], .val vb, .val p, .val (.string (str b)), .val (.string (str (b.take 31))),
  .lit [b.take 31], .val vb, .val p, .val (.string (str b)), .val (.string (str (b ++ [120]))), .lit [b ++ [120]], .val vz, .val (.string (str (z.drop 2))),
  .val (.string (str ([0, 9] ++ z.drop 2))), .lit [[0, 9] ++ z.drop 2], .val vb, .val p, .val (.string (str b)), .val (.string (str (b.drop 2))), .val (.string (str ([0, 8] ++ b.drop 2))), .lit [[0, 8] ++ b.drop 2],
  .val vb, .val p, .val (.string (str b)), .val (.string (str (b.drop 2))), .val (.string (str ([255, 255] ++ b.drop 2))), .lit [[255, 255] ++ b.drop 2], .val vb, .val p,
  .val (.string (str b)), .val (.string (str (b.take 31))), .val (.string (str (b.take 31 ++ [120]))), .lit [b.take 31 ++ [120]], .val vb, .val p, .val (.string (str b)), .lit [b, []],
  .lits (knownOf b z), .val (.int .i64 10), .val (.int .i64 0)]

end Go.Proofs.YtpjjmaknajjimaaDoor

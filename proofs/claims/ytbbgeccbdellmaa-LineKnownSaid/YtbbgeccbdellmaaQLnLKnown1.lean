/- LnWKn. -/
import Derived.Test.YtbbgeccbdellmaaQ2
import Derived.Test.YtbbgeccbdellmaaQ6
import Derived.Test.YtbbgeccbdellmaaQLnLKnown0
import Derived.LoopTactic
import Derived.BigQuiet
set_option linter.unusedVariables false
set_option linter.unusedSimpArgs false
/- The walk of LineKnown. -/
namespace Go.Proofs.Ytbbgeccbdellmaa.ln
open Go Go.RowKit Go.Sort Go.Proofs.Ytbbgeccbdellmaa Go.Proofs.Ytbbgeccbdellmaa.ib Go.Proofs.Ytbbgeccbdellmaa.lg
set_option maxRecDepth 100000

/-- Lines that may be; lines that may not. -/
def kgs : List Ln := [⟨0, 0, false, []⟩, ⟨5, 0, false, []⟩, ⟨2, 2, true, [(0, 1), (2, 0)]⟩, ⟨9223372036854775808, 0, false, [(1, 1), (1, 2), (2, 1)]⟩]
def kbs : List Ln := [⟨1, 0, false, [(0, 0)]⟩, ⟨1, 0, false, [(1, 1), (1, 1)]⟩, ⟨2, 0, false, [(2, 1), (1, 2)]⟩, ⟨1, 0, false, [(2, 1)]⟩, ⟨0, -1, false, []⟩, ⟨0, 1, false, []⟩, ⟨1, 2, false, [(1, 1)]⟩]
def lnN (l : List Ln) (k : Nat) : Ln := l.getD k ⟨0, 0, false, []⟩
theorem kgs_facts : ∀ k : Fin 4, nCheck (lnN kgs k.val) = 0 ∧ (lnN kgs k.val).gs.length ≤ 3 := by decide +kernel
theorem kbs_facts : ∀ k : Fin 7, nCheck (lnN kbs k.val) = 2 ∧ (lnN kbs k.val).gs.length ≤ 3 := by decide +kernel
/-- A list of lines. -/
def LsAt (W : World) (g n : Nat) (l : List Ln) : Prop := ∃ cs, Blk W g 25 cs ∧ ∀ k, k < n → ∃ A c, cs[k * 4]? = some (.int .u64 ((lnN l k).ep : Int)) ∧ cs[k * 4 + 1]? = some (.int .i64 (lnN l k).bf) ∧ cs[k * 4 + 2]? = some (.bool (lnN l k).ls) ∧ cs[k * 4 + 3]? = some (.slice A (lnN l k).gs.length c) ∧ GdL W A (lnN l k).gs c
theorem LsAt.below {w w' : World} {g n : Nat} {l : List Ln} (h : LsAt w g n l) (hb : Below w.heap.size w w') : LsAt w' g n l := by
  obtain ⟨cs, h1, h2⟩ := h
  exact ⟨cs, h1.below hb, fun k hk => by
    obtain ⟨A, c, a0, a1, a2, a3, a4⟩ := h2 k hk
    exact ⟨A, c, a0, a1, a2, a3, a4.below hb⟩⟩
theorem LsAt.cells {W : World} {g n : Nat} {l : List Ln} (h : LsAt W g n l) (k : Nat) (hk : k < n) : g < W.heap.size ∧ ∃ A c, W.cell? ⟨g, k * 4, none⟩ = some (.int .u64 ((lnN l k).ep : Int)) ∧ W.cell? ⟨g, k * 4 + 1, none⟩ = some (.int .i64 (lnN l k).bf) ∧ W.cell? ⟨g, k * 4 + 2, none⟩ = some (.bool (lnN l k).ls) ∧ W.cell? ⟨g, k * 4 + 3, none⟩ = some (.slice A (lnN l k).gs.length c) ∧ GdL W A (lnN l k).gs c := by
  obtain ⟨cs, h1, h2⟩ := h
  obtain ⟨A, c, a0, a1, a2, a3, a4⟩ := h2 k hk
  exact ⟨h1.lt, A, c, (h1.cell _).trans a0, (h1.cell _).trans a1, (h1.cell _).trans a2, (h1.cell _).trans a3, a4⟩
theorem lit_step {w0 w : World} (h : Below w0.heap.size w0 w) (o : Obj) : Below w0.heap.size w0 (w.alloc o) ∧ Below w.heap.size w (w.alloc o) := ⟨h.alloc h.size o, (Below.refl _ w).alloc (Nat.le_refl _) o⟩
/-- The first k guids of the epoch 1. -/
def kg (k : Nat) : List Gd := (List.range k).map fun i => (1, i + 1)
theorem kg_len (k : Nat) : (kg k).length = k := by simp [kg]
theorem kg_succ (k : Nat) : kg (k + 1) = kg k ++ [(1, k + 1)] := by simp [kg, List.range_succ]
theorem kg_take : (kg 21).take 20 = kg 20 := by decide +kernel
theorem kg_check : nCheck ⟨1, -1, false, kg 21⟩ = 3 ∧ nCheck ⟨1, 20, false, kg 20⟩ = 0 := by decide +kernel
def WK6G (M : Ln) (A : Option Addr) (c aLG k : Nat) : Nat → Value → World → Prop
  | 0, v, _ => v = .slice (some ⟨aLG, 0, none⟩) 4 4
  | 1, v, _ => v = .int .i64 ((k : Nat) : Int)
  | 2, v, _ => v = .pointer (some ⟨aLG, k * 4, none⟩)
  | 3, v, _ => v = .agg #[.int .u64 (M.ep : Int), .int .i64 M.bf, .bool M.ls, .slice A M.gs.length c]
  | 4, v, _ => v = .int .i64 0
  | 5, v, _ => v = .bool false
  | 6, v, _ => v = .bool false
  | 7, v, _ => v = .slice (some ⟨aLG, 0, none⟩) 4 4
  | 8, v, _ => v = .int .i64 ((k : Nat) : Int)
  | 9, v, _ => v = .pointer (some ⟨aLG, k * 4, none⟩)
  | 10, v, _ => v = .agg #[.int .u64 (M.ep : Int), .int .i64 M.bf, .bool M.ls, .slice A M.gs.length c]
  | 11, v, _ => v = .slice (some ⟨aLG, 0, none⟩) 4 4
  | 12, v, _ => v = .int .i64 ((k : Nat) : Int)
  | 13, v, _ => v = .pointer (some ⟨aLG, k * 4, none⟩)
  | 14, v, _ => v = .agg #[.int .u64 (M.ep : Int), .int .i64 M.bf, .bool M.ls, .slice A M.gs.length c]
  | 15, v, _ => v = .bool true
  | 16, v, _ => v = .bool false
  | 17, v, _ => v = .bool false
  | _, _, _ => True
theorem WK6G_mono (M : Ln) (A : Option Addr) (c aLG k : Nat) (i : Nat) (v : Value) (w w' : World) (hi : i < 18) (h : WK6G M A c aLG k i v w) (hb : Below w.heap.size w w') : WK6G M A c aLG k i v w' := by
  match i, hi, h with
  | 0, _, h | 1, _, h | 2, _, h | 3, _, h | 4, _, h | 5, _, h | 6, _, h | 7, _, h | 8, _, h | 9, _, h | 10, _, h | 11, _, h | 12, _, h | 13, _, h | 14, _, h | 15, _, h | 16, _, h | 17, _, h => exact h
  | j + 18, hi, _ => exact absurd hi (by omega)
def WKLG (X : Option Addr) (cx jn k g5 : Nat) : Nat → Value → World → Prop
  | 0, v, _ => v = .pointer (some ⟨g5, 3, none⟩)
  | 1, v, _ => v = .slice X jn cx
  | 2, v, _ => v = .int .i64 ((k : Nat) : Int)
  | 3, v, _ => v = .int .u64 ((k : Nat) : Int)
  | 4, v, _ => v = .agg #[.int .u64 1, .int .u64 ((k : Nat) : Int)]
  | 5, v, W => ∃ a, v = .slice (some ⟨a, 0, none⟩) 1 1 ∧ GdL W (some ⟨a, 0, none⟩) [(1, k)] 1
  | _, _, _ => True
theorem WKLG_mono (X : Option Addr) (cx jn k g5 : Nat) (i : Nat) (v : Value) (w w' : World) (hi : i < 6) (h : WKLG X cx jn k g5 i v w) (hb : Below w.heap.size w w') : WKLG X cx jn k g5 i v w' := by
  match i, hi, h with
  | 0, _, h | 1, _, h | 2, _, h | 3, _, h | 4, _, h => exact h
  | 5, _, ⟨a, hv, h1⟩ => exact ⟨a, hv, h1.below hb⟩
  | j + 6, hi, _ => exact absurd hi (by omega)
def WKSG (gs : Nat) : Nat → Value → World → Prop
  | 0, v, _ => v = .pointer (some ⟨gs + 1, 3, none⟩)
  | 1, v, _ => v = .slice (some ⟨gs, 0, none⟩) 1 1
  | 2, v, _ => v = .agg #[.int .u64 9, .int .u64 9]
  | _, _, _ => True
theorem WKSG_mono (gs : Nat) (i : Nat) (v : Value) (w w' : World) (hi : i < 3) (h : WKSG gs i v w) (hb : Below w.heap.size w w') : WKSG gs i v w' := by
  match i, hi, h with
  | 0, _, h | 1, _, h | 2, _, h => exact h
  | j + 3, hi, _ => exact absurd hi (by omega)
def WKFG (X : Option Addr) (cx cc g5 gc bc oc : Nat) : Nat → Value → World → Prop
  | 0, v, _ => v = .bool true
  | 1, v, _ => v = .bool true
  | 2, v, _ => v = .bool true
  | 3, v, _ => v = .bool true
  | 4, v, _ => v = .int .i64 3
  | 5, v, _ => v = .bool true
  | 6, v, _ => v = .bool true
  | 7, v, _ => v = .bool true
  | 8, v, _ => v = .int .i64 0
  | 9, v, _ => v = .bool true
  | 10, v, _ => v = .bool true
  | 11, v, _ => v = .bool true
  | 12, v, _ => v = .pointer (some ⟨gc, 3, none⟩)
  | 13, v, _ => v = .slice (some ⟨bc, oc, none⟩) 1 cc
  | 14, v, _ => v = .int .i64 1
  | 15, v, _ => v = .bool true
  | 16, v, _ => v = .bool true
  | 17, v, _ => v = .bool true
  | 18, v, _ => v = .pointer (some ⟨gc, 3, none⟩)
  | 19, v, _ => v = .slice (some ⟨bc, oc, none⟩) 1 cc
  | 20, v, _ => v = .pointer (some ⟨bc, oc, none⟩)
  | 21, v, _ => v = .agg #[.int .u64 1, .int .u64 1]
  | 22, v, _ => v = .agg #[.int .u64 1, .int .u64 1]
  | 23, v, _ => v = .bool true
  | 24, v, _ => v = .bool true
  | 25, v, _ => v = .bool true
  | 26, v, _ => v = .agg #[.int .u64 1, .int .i64 20, .bool false, .slice X 20 cx]
  | 27, v, _ => v = .int .i64 0
  | 28, v, _ => v = .bool true
  | 29, v, _ => v = .bool true
  | 30, v, _ => v = .bool true
  | 31, v, _ => v = .agg #[.int .u64 1, .int .i64 20, .bool false, .slice X 20 cx]
  | 32, v, _ => v = .int .i64 0
  | 33, v, _ => v = .bool true
  | 34, v, _ => v = .bool true
  | 35, v, _ => v = .bool true
  | 36, v, _ => v = .agg #[.int .u64 1, .int .u64 1]
  | 37, v, W => ∃ a, v = .slice (some ⟨a, 0, none⟩) 1 1 ∧ GdL W (some ⟨a, 0, none⟩) [(1, 1)] 1
  | 38, v, _ => v = .agg #[.int .u64 0, .int .i64 0, .bool false, .slice none 0 0]
  | 39, v, _ => v = .int .i64 1
  | 40, v, _ => v = .bool true
  | 41, v, _ => v = .bool true
  | 42, v, _ => v = .bool true
  | 43, v, _ => v = .agg #[.int .u64 0, .int .u64 1]
  | 44, v, W => ∃ a, v = .slice (some ⟨a, 0, none⟩) 1 1 ∧ GdL W (some ⟨a, 0, none⟩) [(0, 1)] 1
  | 45, v, _ => v = .agg #[.int .u64 1, .int .i64 0, .bool false, .slice none 0 0]
  | 46, v, _ => v = .int .i64 0
  | 47, v, _ => v = .bool true
  | 48, v, _ => v = .bool true
  | 49, v, _ => v = .bool true
  | 50, v, _ => v = .agg #[.int .u64 0, .int .i64 1, .bool false, .slice none 0 0]
  | 51, v, _ => v = .agg #[.int .u64 0, .int .i64 0, .bool false, .slice none 0 0]
  | 52, v, _ => v = .bool false
  | 53, v, _ => v = .bool true
  | 54, v, _ => v = .bool true
  | 55, v, _ => v = .bool true
  | 56, v, _ => v = .agg #[.int .u64 0, .int .i64 0, .bool true, .slice none 0 0]
  | 57, v, _ => v = .agg #[.int .u64 0, .int .i64 0, .bool false, .slice none 0 0]
  | 58, v, _ => v = .bool false
  | 59, v, _ => v = .bool true
  | 60, v, _ => v = .bool true
  | 61, v, _ => v = .bool true
  | 62, v, _ => v = .agg #[.int .u64 1, .int .u64 1]
  | 63, v, W => ∃ a, v = .slice (some ⟨a, 0, none⟩) 1 1 ∧ GdL W (some ⟨a, 0, none⟩) [(1, 1)] 1
  | 64, v, W => ∃ a, v = .agg #[.int .u64 1, .int .i64 0, .bool false, .slice (some ⟨a, 0, none⟩) 1 1] ∧ GdL W (some ⟨a, 0, none⟩) [(1, 1)] 1
  | 65, v, _ => v = .agg #[.int .u64 1, .int .u64 2]
  | 66, v, W => ∃ a, v = .slice (some ⟨a, 0, none⟩) 1 1 ∧ GdL W (some ⟨a, 0, none⟩) [(1, 2)] 1
  | 67, v, W => ∃ a, v = .agg #[.int .u64 1, .int .i64 0, .bool false, .slice (some ⟨a, 0, none⟩) 1 1] ∧ GdL W (some ⟨a, 0, none⟩) [(1, 2)] 1
  | 68, v, _ => v = .bool false
  | 69, v, _ => v = .bool true
  | 70, v, _ => v = .bool true
  | 71, v, _ => v = .bool true
  | 72, v, W => ∃ a, v = .slice (some ⟨a, 0, none⟩) 0 0 ∧ GdL W (some ⟨a, 0, none⟩) [] 0
  | 73, v, W => ∃ a, v = .agg #[.int .u64 0, .int .i64 0, .bool false, .slice (some ⟨a, 0, none⟩) 0 0] ∧ GdL W (some ⟨a, 0, none⟩) [] 0
  | 74, v, _ => v = .agg #[.int .u64 0, .int .i64 0, .bool false, .slice none 0 0]
  | 75, v, _ => v = .bool true
  | 76, v, _ => v = .bool true
  | 77, v, _ => v = .bool true
  | _, _, _ => True
theorem WKFG_mono (X : Option Addr) (cx cc g5 gc bc oc : Nat) (i : Nat) (v : Value) (w w' : World) (hi : i < 78) (h : WKFG X cx cc g5 gc bc oc i v w) (hb : Below w.heap.size w w') : WKFG X cx cc g5 gc bc oc i v w' := by
  match i, hi, h with
  | 0, _, h | 1, _, h | 2, _, h | 3, _, h | 4, _, h | 5, _, h | 6, _, h | 7, _, h | 8, _, h | 9, _, h | 10, _, h | 11, _, h | 12, _, h | 13, _, h | 14, _, h | 15, _, h | 16, _, h | 17, _, h | 18, _, h | 19, _, h | 20, _, h | 21, _, h | 22, _, h | 23, _, h | 24, _, h | 25, _, h | 26, _, h | 27, _, h | 28, _, h | 29, _, h | 30, _, h | 31, _, h | 32, _, h | 33, _, h | 34, _, h | 35, _, h | 36, _, h | 38, _, h | 39, _, h | 40, _, h | 41, _, h | 42, _, h | 43, _, h | 45, _, h | 46, _, h | 47, _, h | 48, _, h | 49, _, h | 50, _, h | 51, _, h | 52, _, h | 53, _, h | 54, _, h | 55, _, h | 56, _, h | 57, _, h | 58, _, h | 59, _, h | 60, _, h | 61, _, h | 62, _, h | 65, _, h | 68, _, h | 69, _, h | 70, _, h | 71, _, h | 74, _, h | 75, _, h | 76, _, h | 77, _, h => exact h
  | 37, _, ⟨a, hv, h1⟩ => exact ⟨a, hv, h1.below hb⟩
  | 44, _, ⟨a, hv, h1⟩ => exact ⟨a, hv, h1.below hb⟩
  | 63, _, ⟨a, hv, h1⟩ => exact ⟨a, hv, h1.below hb⟩
  | 64, _, ⟨a, hv, h1⟩ => exact ⟨a, hv, h1.below hb⟩
  | 66, _, ⟨a, hv, h1⟩ => exact ⟨a, hv, h1.below hb⟩
  | 67, _, ⟨a, hv, h1⟩ => exact ⟨a, hv, h1.below hb⟩
  | 72, _, ⟨a, hv, h1⟩ => exact ⟨a, hv, h1.below hb⟩
  | 73, _, ⟨a, hv, h1⟩ => exact ⟨a, hv, h1.below hb⟩
  | j + 78, hi, _ => exact absurd hi (by omega)
def KnRel (b : Nat) (w : World) (i : Value) (wr : World) : Prop := ∃ k : Nat, k ≤ b ∧ i = .int .i64 (k : Int) ∧ Below w.heap.size w wr
def KlRel (g : Nat) (V : World) (i : Value) (wq : World) : Prop := ∃ j : Nat, j ≤ 21 ∧ i = .int .i64 ((j + 1 : Nat) : Int) ∧ (∃ v, Blk wq g 25 #[.int .u64 1, .int .i64 (-1), .bool false, v] ∧ OGd wq V.heap.size v (kg j)) ∧ Below V.heap.size V wq
set_option maxHeartbeats 25600000 in
theorem lineKnown_walk (w : World) : Calls Try.prog 9 #[] w (endB true w) := by
  go_enter Try.func9, Try.ntmps9
  have B0 := Lib.hid (Below.refl w.heap.size w)
  go_wp2_with fail
  refine (guid_any 0 1 w).mono ?_
  rintro en W1 ⟨rfl, hb1⟩
  have B1 := Lib.hid (below_step B0.out hb1)
  clear hb1 B0
  go_wp2_with fail
  refine (guid_any 2 0 W1).mono ?_
  rintro en W2 ⟨rfl, hb2⟩
  have B2 := Lib.hid (below_step B1.out hb2)
  clear hb2 B1
  obtain ⟨b3, d3⟩ := lit_step B2.out (.cells #[.int .u64 0, .int .u64 1, .int .u64 2, .int .u64 0] 34)
  have k3 := Blk.new W2 34 #[.int .u64 0, .int .u64 1, .int .u64 2, .int .u64 0]
  obtain ⟨W3, hW3⟩ : ∃ z, W2.alloc (.cells #[.int .u64 0, .int .u64 1, .int .u64 2, .int .u64 0] 34) = z := ⟨_, rfl⟩
  rw [hW3] at b3 d3 k3
  obtain ⟨aA1, haA1⟩ : ∃ g, W2.heap.size = g := ⟨_, rfl⟩
  rw [haA1] at k3
  have B3 := Lib.hid b3
  have A1 := Lib.hid (gd_lit (l := [(0, 1), (2, 0)]) k3 (by decide))
  clear b3 d3 k3 B2
  go_wp2_with fail
  try rw [hW3]
  try rw [haA1]
  clear hW3 haA1
  refine (guid_any 1 1 W3).mono ?_
  rintro en W4 ⟨rfl, hb4⟩
  have B4 := Lib.hid (below_step B3.out hb4)
  have A1_4 := Lib.hid (A1.out.below hb4)
  clear A1
  clear hb4 B3
  go_wp2_with fail
  refine (guid_any 1 2 W4).mono ?_
  rintro en W5 ⟨rfl, hb5⟩
  have B5 := Lib.hid (below_step B4.out hb5)
  have A1_5 := Lib.hid (A1_4.out.below hb5)
  clear A1_4
  clear hb5 B4
  go_wp2_with fail
  refine (guid_any 2 1 W5).mono ?_
  rintro en W6 ⟨rfl, hb6⟩
  have B6 := Lib.hid (below_step B5.out hb6)
  have A1_6 := Lib.hid (A1_5.out.below hb6)
  clear A1_5
  clear hb6 B5
  obtain ⟨b7, d7⟩ := lit_step B6.out (.cells #[.int .u64 1, .int .u64 1, .int .u64 1, .int .u64 2, .int .u64 2, .int .u64 1] 34)
  have k7 := Blk.new W6 34 #[.int .u64 1, .int .u64 1, .int .u64 1, .int .u64 2, .int .u64 2, .int .u64 1]
  obtain ⟨W7, hW7⟩ : ∃ z, W6.alloc (.cells #[.int .u64 1, .int .u64 1, .int .u64 1, .int .u64 2, .int .u64 2, .int .u64 1] 34) = z := ⟨_, rfl⟩
  rw [hW7] at b7 d7 k7
  obtain ⟨aA2, haA2⟩ : ∃ g, W6.heap.size = g := ⟨_, rfl⟩
  rw [haA2] at k7
  have B7 := Lib.hid b7
  have A1_7 := Lib.hid (A1_6.out.below d7)
  clear A1_6
  have A2 := Lib.hid (gd_lit (l := [(1, 1), (1, 2), (2, 1)]) k7 (by decide))
  clear b7 d7 k7 B6
  obtain ⟨b8, d8⟩ := lit_step B7.out (.cells #[.int .u64 0, .int .i64 0, .bool false, .slice none 0 0, .int .u64 5, .int .i64 0, .bool false, .slice none 0 0, .int .u64 2, .int .i64 2, .bool true, .slice (some ⟨aA1, 0, none⟩) 2 2, .int .u64 9223372036854775808, .int .i64 0, .bool false, .slice (some ⟨aA2, 0, none⟩) 3 3] 25)
  have k8 := Blk.new W7 25 #[.int .u64 0, .int .i64 0, .bool false, .slice none 0 0, .int .u64 5, .int .i64 0, .bool false, .slice none 0 0, .int .u64 2, .int .i64 2, .bool true, .slice (some ⟨aA1, 0, none⟩) 2 2, .int .u64 9223372036854775808, .int .i64 0, .bool false, .slice (some ⟨aA2, 0, none⟩) 3 3]
  obtain ⟨W8, hW8⟩ : ∃ z, W7.alloc (.cells #[.int .u64 0, .int .i64 0, .bool false, .slice none 0 0, .int .u64 5, .int .i64 0, .bool false, .slice none 0 0, .int .u64 2, .int .i64 2, .bool true, .slice (some ⟨aA1, 0, none⟩) 2 2, .int .u64 9223372036854775808, .int .i64 0, .bool false, .slice (some ⟨aA2, 0, none⟩) 3 3] 25) = z := ⟨_, rfl⟩
  rw [hW8] at b8 d8 k8
  obtain ⟨aLG, haLG⟩ : ∃ g, W7.heap.size = g := ⟨_, rfl⟩
  rw [haLG] at k8
  have B8 := Lib.hid b8
  have A1_8 := Lib.hid (A1_7.out.below d8)
  clear A1_7
  have A2_8 := Lib.hid (A2.out.below d8)
  clear A2
  have LG := Lib.hid (show LsAt W8 aLG 4 kgs from ⟨_, k8, fun k hk => by
    match k, hk with
    | 0, _ => exact ⟨_, _, rfl, rfl, rfl, rfl, GdL.none _⟩
    | 1, _ => exact ⟨_, _, rfl, rfl, rfl, rfl, GdL.none _⟩
    | 2, _ => exact ⟨_, _, rfl, rfl, rfl, rfl, A1_8.out⟩
    | 3, _ => exact ⟨_, _, rfl, rfl, rfl, rfl, A2_8.out⟩⟩)
  clear b8 d8 k8 B7
  obtain ⟨b9, d9⟩ := lit_step B8.out (.cells #[.int .u64 0, .int .u64 0] 34)
  have k9 := Blk.new W8 34 #[.int .u64 0, .int .u64 0]
  obtain ⟨W9, hW9⟩ : ∃ z, W8.alloc (.cells #[.int .u64 0, .int .u64 0] 34) = z := ⟨_, rfl⟩
  rw [hW9] at b9 d9 k9
  obtain ⟨aC0, haC0⟩ : ∃ g, W8.heap.size = g := ⟨_, rfl⟩
  rw [haC0] at k9
  have B9 := Lib.hid b9
  have LG_9 := Lib.hid (LG.out.below d9)
  clear LG
  have C0 := Lib.hid (gd_lit (l := [(0, 0)]) k9 (by decide))
  clear b9 d9 k9 B8
  go_wp2_with fail
  try rw [hW7]
  try rw [hW8]
  try rw [hW9]
  try rw [haA2]
  try rw [haLG]
  try rw [haC0]
  clear hW7 haA2
  clear hW8 haLG
  clear hW9 haC0
  refine (guid_any 1 1 W9).mono ?_
  rintro en W10 ⟨rfl, hb10⟩
  have B10 := Lib.hid (below_step B9.out hb10)
  have LG_10 := Lib.hid (LG_9.out.below hb10)
  clear LG_9
  have C0_10 := Lib.hid (C0.out.below hb10)
  clear C0
  clear hb10 B9
  go_wp2_with fail
  refine (guid_any 1 1 W10).mono ?_
  rintro en W11 ⟨rfl, hb11⟩
  have B11 := Lib.hid (below_step B10.out hb11)
  have LG_11 := Lib.hid (LG_10.out.below hb11)
  clear LG_10
  have C0_11 := Lib.hid (C0_10.out.below hb11)
  clear C0_10
  clear hb11 B10
  obtain ⟨b12, d12⟩ := lit_step B11.out (.cells #[.int .u64 1, .int .u64 1, .int .u64 1, .int .u64 1] 34)
  have k12 := Blk.new W11 34 #[.int .u64 1, .int .u64 1, .int .u64 1, .int .u64 1]
  obtain ⟨W12, hW12⟩ : ∃ z, W11.alloc (.cells #[.int .u64 1, .int .u64 1, .int .u64 1, .int .u64 1] 34) = z := ⟨_, rfl⟩
  rw [hW12] at b12 d12 k12
  obtain ⟨aC1, haC1⟩ : ∃ g, W11.heap.size = g := ⟨_, rfl⟩
  rw [haC1] at k12
  have B12 := Lib.hid b12
  have LG_12 := Lib.hid (LG_11.out.below d12)
  clear LG_11
  have C0_12 := Lib.hid (C0_11.out.below d12)
  clear C0_11
  have C1 := Lib.hid (gd_lit (l := [(1, 1), (1, 1)]) k12 (by decide))
  clear b12 d12 k12 B11
  go_wp2_with fail
  try rw [hW12]
  try rw [haC1]
  clear hW12 haC1
  refine (guid_any 2 1 W12).mono ?_
  rintro en W13 ⟨rfl, hb13⟩
  have B13 := Lib.hid (below_step B12.out hb13)
  have LG_13 := Lib.hid (LG_12.out.below hb13)
  clear LG_12
  have C0_13 := Lib.hid (C0_12.out.below hb13)
  clear C0_12
  have C1_13 := Lib.hid (C1.out.below hb13)
  clear C1
  clear hb13 B12
  go_wp2_with fail
  refine (guid_any 1 2 W13).mono ?_
  rintro en W14 ⟨rfl, hb14⟩
  have B14 := Lib.hid (below_step B13.out hb14)
  have LG_14 := Lib.hid (LG_13.out.below hb14)
  clear LG_13
  have C0_14 := Lib.hid (C0_13.out.below hb14)
  clear C0_13
  have C1_14 := Lib.hid (C1_13.out.below hb14)
  clear C1_13
  clear hb14 B13
  obtain ⟨b15, d15⟩ := lit_step B14.out (.cells #[.int .u64 2, .int .u64 1, .int .u64 1, .int .u64 2] 34)
  have k15 := Blk.new W14 34 #[.int .u64 2, .int .u64 1, .int .u64 1, .int .u64 2]
  obtain ⟨W15, hW15⟩ : ∃ z, W14.alloc (.cells #[.int .u64 2, .int .u64 1, .int .u64 1, .int .u64 2] 34) = z := ⟨_, rfl⟩
  rw [hW15] at b15 d15 k15
  obtain ⟨aC2, haC2⟩ : ∃ g, W14.heap.size = g := ⟨_, rfl⟩
  rw [haC2] at k15
  have B15 := Lib.hid b15
  have LG_15 := Lib.hid (LG_14.out.below d15)
  clear LG_14
  have C0_15 := Lib.hid (C0_14.out.below d15)
  clear C0_14
  have C1_15 := Lib.hid (C1_14.out.below d15)
  clear C1_14
  have C2 := Lib.hid (gd_lit (l := [(2, 1), (1, 2)]) k15 (by decide))
  clear b15 d15 k15 B14
  go_wp2_with fail
  try rw [hW15]
  try rw [haC2]
  clear hW15 haC2
  refine (guid_any 2 1 W15).mono ?_
  rintro en W16 ⟨rfl, hb16⟩
  have B16 := Lib.hid (below_step B15.out hb16)
  have LG_16 := Lib.hid (LG_15.out.below hb16)
  clear LG_15
  have C0_16 := Lib.hid (C0_15.out.below hb16)
  clear C0_15
  have C1_16 := Lib.hid (C1_15.out.below hb16)
  clear C1_15
  have C2_16 := Lib.hid (C2.out.below hb16)
  clear C2
  clear hb16 B15
  obtain ⟨b17, d17⟩ := lit_step B16.out (.cells #[.int .u64 2, .int .u64 1] 34)
  have k17 := Blk.new W16 34 #[.int .u64 2, .int .u64 1]
  obtain ⟨W17, hW17⟩ : ∃ z, W16.alloc (.cells #[.int .u64 2, .int .u64 1] 34) = z := ⟨_, rfl⟩
  rw [hW17] at b17 d17 k17
  obtain ⟨aC3, haC3⟩ : ∃ g, W16.heap.size = g := ⟨_, rfl⟩
  rw [haC3] at k17
  have B17 := Lib.hid b17
  have LG_17 := Lib.hid (LG_16.out.below d17)
  clear LG_16
  have C0_17 := Lib.hid (C0_16.out.below d17)
  clear C0_16
  have C1_17 := Lib.hid (C1_16.out.below d17)
  clear C1_16
  have C2_17 := Lib.hid (C2_16.out.below d17)
  clear C2_16
  have C3 := Lib.hid (gd_lit (l := [(2, 1)]) k17 (by decide))
  clear b17 d17 k17 B16
  go_wp2_with fail
  try rw [hW17]
  try rw [haC3]
  clear hW17 haC3
  refine (guid_any 1 1 W17).mono ?_
  rintro en W18 ⟨rfl, hb18⟩
  have B18 := Lib.hid (below_step B17.out hb18)
  have LG_18 := Lib.hid (LG_17.out.below hb18)
  clear LG_17
  have C0_18 := Lib.hid (C0_17.out.below hb18)
  clear C0_17
  have C1_18 := Lib.hid (C1_17.out.below hb18)
  clear C1_17
  have C2_18 := Lib.hid (C2_17.out.below hb18)
  clear C2_17
  have C3_18 := Lib.hid (C3.out.below hb18)
  clear C3
  clear hb18 B17
  obtain ⟨b19, d19⟩ := lit_step B18.out (.cells #[.int .u64 1, .int .u64 1] 34)
  have k19 := Blk.new W18 34 #[.int .u64 1, .int .u64 1]
  obtain ⟨W19, hW19⟩ : ∃ z, W18.alloc (.cells #[.int .u64 1, .int .u64 1] 34) = z := ⟨_, rfl⟩
  rw [hW19] at b19 d19 k19
  obtain ⟨aC6, haC6⟩ : ∃ g, W18.heap.size = g := ⟨_, rfl⟩
  rw [haC6] at k19
  have B19 := Lib.hid b19
  have LG_19 := Lib.hid (LG_18.out.below d19)
  clear LG_18
  have C0_19 := Lib.hid (C0_18.out.below d19)
  clear C0_18
  have C1_19 := Lib.hid (C1_18.out.below d19)
  clear C1_18
  have C2_19 := Lib.hid (C2_18.out.below d19)
  clear C2_18
  have C3_19 := Lib.hid (C3_18.out.below d19)
  clear C3_18
  have C6 := Lib.hid (gd_lit (l := [(1, 1)]) k19 (by decide))
  clear b19 d19 k19 B18
  obtain ⟨b20, d20⟩ := lit_step B19.out (.cells #[.int .u64 1, .int .i64 0, .bool false, .slice (some ⟨aC0, 0, none⟩) 1 1, .int .u64 1, .int .i64 0, .bool false, .slice (some ⟨aC1, 0, none⟩) 2 2, .int .u64 2, .int .i64 0, .bool false, .slice (some ⟨aC2, 0, none⟩) 2 2, .int .u64 1, .int .i64 0, .bool false, .slice (some ⟨aC3, 0, none⟩) 1 1, .int .u64 0, .int .i64 (-1), .bool false, .slice none 0 0, .int .u64 0, .int .i64 1, .bool false, .slice none 0 0, .int .u64 1, .int .i64 2, .bool false, .slice (some ⟨aC6, 0, none⟩) 1 1] 25)
  have k20 := Blk.new W19 25 #[.int .u64 1, .int .i64 0, .bool false, .slice (some ⟨aC0, 0, none⟩) 1 1, .int .u64 1, .int .i64 0, .bool false, .slice (some ⟨aC1, 0, none⟩) 2 2, .int .u64 2, .int .i64 0, .bool false, .slice (some ⟨aC2, 0, none⟩) 2 2, .int .u64 1, .int .i64 0, .bool false, .slice (some ⟨aC3, 0, none⟩) 1 1, .int .u64 0, .int .i64 (-1), .bool false, .slice none 0 0, .int .u64 0, .int .i64 1, .bool false, .slice none 0 0, .int .u64 1, .int .i64 2, .bool false, .slice (some ⟨aC6, 0, none⟩) 1 1]
  obtain ⟨W20, hW20⟩ : ∃ z, W19.alloc (.cells #[.int .u64 1, .int .i64 0, .bool false, .slice (some ⟨aC0, 0, none⟩) 1 1, .int .u64 1, .int .i64 0, .bool false, .slice (some ⟨aC1, 0, none⟩) 2 2, .int .u64 2, .int .i64 0, .bool false, .slice (some ⟨aC2, 0, none⟩) 2 2, .int .u64 1, .int .i64 0, .bool false, .slice (some ⟨aC3, 0, none⟩) 1 1, .int .u64 0, .int .i64 (-1), .bool false, .slice none 0 0, .int .u64 0, .int .i64 1, .bool false, .slice none 0 0, .int .u64 1, .int .i64 2, .bool false, .slice (some ⟨aC6, 0, none⟩) 1 1] 25) = z := ⟨_, rfl⟩
  rw [hW20] at b20 d20 k20
  obtain ⟨aLB, haLB⟩ : ∃ g, W19.heap.size = g := ⟨_, rfl⟩
  rw [haLB] at k20
  have B20 := Lib.hid b20
  have LG_20 := Lib.hid (LG_19.out.below d20)
  clear LG_19
  have C0_20 := Lib.hid (C0_19.out.below d20)
  clear C0_19
  have C1_20 := Lib.hid (C1_19.out.below d20)
  clear C1_19
  have C2_20 := Lib.hid (C2_19.out.below d20)
  clear C2_19
  have C3_20 := Lib.hid (C3_19.out.below d20)
  clear C3_19
  have C6_20 := Lib.hid (C6.out.below d20)
  clear C6
  have LB := Lib.hid (show LsAt W20 aLB 7 kbs from ⟨_, k20, fun k hk => by
    match k, hk with
    | 0, _ => exact ⟨_, _, rfl, rfl, rfl, rfl, C0_20.out⟩
    | 1, _ => exact ⟨_, _, rfl, rfl, rfl, rfl, C1_20.out⟩
    | 2, _ => exact ⟨_, _, rfl, rfl, rfl, rfl, C2_20.out⟩
    | 3, _ => exact ⟨_, _, rfl, rfl, rfl, rfl, C3_20.out⟩
    | 4, _ => exact ⟨_, _, rfl, rfl, rfl, rfl, GdL.none _⟩
    | 5, _ => exact ⟨_, _, rfl, rfl, rfl, rfl, GdL.none _⟩
    | 6, _ => exact ⟨_, _, rfl, rfl, rfl, rfl, C6_20.out⟩⟩)
  clear b20 d20 k20 B19
  go_wp2_with fail
  try rw [hW19]
  try rw [hW20]
  try rw [haC6]
  try rw [haLB]
  clear hW19 haC6
  clear hW20 haLB
  have HG := Lib.hid LG_20.out
  have HBD := Lib.hid LB.out
  have HB := Lib.hid B20.out
  clear LG_20 LB B20
  go_loopw [3] (fun i wr => KnRel 4 W20 i wr) (fun i _ => 4 - (intOf i).toNat)
  case atStart => exact ⟨0, by omega, rfl, Below.refl _ _⟩
  case round =>
    obtain ⟨k, hk, rfl, hbw⟩ := hrel
    have HBW := Lib.hid hbw
    clear hbw
    by_cases hlt : k < 4
    · have hki : (k : Int) < 4 := by omega
      obtain ⟨hgl, A, c, a0, a1, a2, a3, hgd⟩ := (HG.out.below HBW.out).cells k hlt
      obtain ⟨hf1, hf2⟩ := kgs_facts ⟨k, hlt⟩
      dsimp only at hf1 hf2
      generalize lnN kgs k = M at *
      have HC0 := Lib.hid a0
      have HC1 := Lib.hid a1
      have HC2 := Lib.hid a2
      have HC3 := Lib.hid a3
      have HGL := Lib.hid hgd
      have HCK := Lib.hid hf1
      have HML : Hid (M.gs.length ≤ 9223372036854775807) := by unfold Hid; omega
      clear a0 a1 a2 a3 hgd hf1 hf2
      go_upto_region 6 with fail
      refine wp_region_inv (by kernel_rfl) [49, 50, 51, 52, 53, 54, 55, 56, 57, 58, 59, 60, 61, 62, 63, 64, 65, 66] (by kernel_rfl) (fun L vs W => Below wr.heap.size wr W ∧ ∀ i, L i = true → i < 18 → WK6G M A c aLG k i (vs i) W) ⟨(Below.refl _ _).drew, fun i hi => (by cases hi)⟩ ?_ ?_ ?_
      · intro i o L vs ρ W ho hli haft hρ hgd hI
        obtain ⟨hb, hG'⟩ := hI
        have hG : ∀ j, L j = true → WK6G M A c aLG k j (vs j) W := fun j hj => by
          by_cases h51 : j < 18
          · exact hG' j hj h51
          · match j, h51 with
            | j + 18, _ => exact trivial
        have hi51 : i < 18 := (Array.getElem?_eq_some_iff.1 ho).1
        have hc := hρ.const
        have hfn := hρ.fn
        have nextG : ∀ v W', Below W.heap.size W W' → WK6G M A c aLG k i v W' → ∀ j, updB L i j = true → j < 18 → WK6G M A c aLG k j (updV vs i v j) W' := fun v W' h1 h2 j hj h51 => by
          by_cases hji : j = i
          · subst hji
            simpa [updV] using h2
          · simp only [updB, if_neg hji] at hj
            simpa [updV, hji] using WK6G_mono M A c aLG k j _ W W' h51 (hG' j hj h51) h1
        have next : ∀ v W', Below W.heap.size W W' → WK6G M A c aLG k i v W' → Below wr.heap.size wr W' ∧ ∀ j, updB L i j = true → j < 18 → WK6G M A c aLG k j (updV vs i v j) W' := fun v W' h1 h2 => ⟨below_step hb h1, nextG v W' h1 h2⟩
        have x0 := (hb.cell (p := ⟨aLG, k * 4, none⟩) hgl).trans HC0.out
        have x1 := (hb.cell (p := ⟨aLG, k * 4 + 1, none⟩) hgl).trans HC1.out
        have x2 := (hb.cell (p := ⟨aLG, k * 4 + 2, none⟩) hgl).trans HC2.out
        have x3 := (hb.cell (p := ⟨aLG, k * 4 + 3, none⟩) hgl).trans HC3.out
        have xl : aLG < W.heap.size := Nat.lt_of_lt_of_le hgl hb.size
        rcases i with _ | _ | _ | _ | _ | _ | _ | _ | _ | _ | _ | _ | _ | _ | _ | _ | _ | _ | i
        all_goals (first | omega | skip)
        all_goals simp only [List.getElem?_toArray, List.getElem?_cons_zero, List.getElem?_cons_succ, Option.some.injEq] at ho
        all_goals subst ho
        · have o1 : ρ (.tmp 1) = .slice (some ⟨aLG, 0, none⟩) 4 4 := hρ.out 1 rfl
          exact stepTo_value (w' := W) (by unfold execOp; simp only [o1, hc]; go_simp) (next _ _ (Below.refl _ _) rfl)
        · have o3 : ρ (.tmp 3) = .int .i64 ((k : Nat) : Int) := hρ.out 3 rfl
          exact stepTo_value (w' := W) (by unfold execOp; simp only [o3, hc]; go_simp) (next _ _ (Below.refl _ _) rfl)
        · have g49 : WK6G M A c aLG k 0 (vs 0) W := hG 0 (haft 0 (by kernel_rfl))
          have s49 : ρ (.tmp 49) = .slice (some ⟨aLG, 0, none⟩) 4 4 := (hρ.at_ 49 0 rfl).trans g49
          have g50 : WK6G M A c aLG k 1 (vs 1) W := hG 1 (haft 1 (by kernel_rfl))
          have s50 : ρ (.tmp 50) = .int .i64 ((k : Nat) : Int) := (hρ.at_ 50 1 rfl).trans g50
          exact stepTo_value (w' := W) (by unfold execOp; simp only [s49, s50, hc]; go_simp) (next _ _ (Below.refl _ _) rfl)
        · have g51 : WK6G M A c aLG k 2 (vs 2) W := hG 2 (haft 2 (by kernel_rfl))
          have s51 : ρ (.tmp 51) = .pointer (some ⟨aLG, k * 4, none⟩) := (hρ.at_ 51 2 rfl).trans g51
          exact stepTo_value (w' := W) (by unfold execOp; simp only [s51, hc]; go_simp) (next _ _ (Below.refl _ _) rfl)
        · have g52 : WK6G M A c aLG k 3 (vs 3) W := hG 3 (haft 3 (by kernel_rfl))
          have s52 : ρ (.tmp 52) = .agg #[.int .u64 (M.ep : Int), .int .i64 M.bf, .bool M.ls, .slice A M.gs.length c] := (hρ.at_ 52 3 rfl).trans g52
          refine stepTo_enter (f := 10) (args := #[.agg #[.int .u64 (M.ep : Int), .int .i64 M.bf, .bool M.ls, .slice A M.gs.length c]]) (w' := W) (by unfold execOp; simp only [hfn, s52]; go_simp) (((check_is (v := .agg #[.int .u64 (M.ep : Int), .int .i64 M.bf, .bool M.ls, .slice A M.gs.length c]) (L := M) (k := 0) HCK.out (lnL_agg (HGL.out.below hb)) HML.out)).mono ?_)
          rintro x W' ⟨rfl, hb'⟩
          exact ⟨_, rfl, next _ _ hb' rfl⟩
        · have g53 : WK6G M A c aLG k 4 (vs 4) W := hG 4 (haft 4 (by kernel_rfl))
          have s53 : ρ (.tmp 53) = .int .i64 0 := (hρ.at_ 53 4 rfl).trans g53
          exact stepTo_value (w' := W) (by unfold execOp; simp only [s53, hc]; go_simp) (next _ _ (Below.refl _ _) rfl)
        · have g54 : WK6G M A c aLG k 5 (vs 5) W := hG 5 (haft 5 (by kernel_rfl))
          have s54 : ρ (.tmp 54) = .bool false := (hρ.at_ 54 5 rfl).trans g54
          exact stepTo_value (w' := W) (by unfold execOp; simp only [s54, hc]; go_simp) (next _ _ (Below.refl _ _) rfl)
        · have o1 : ρ (.tmp 1) = .slice (some ⟨aLG, 0, none⟩) 4 4 := hρ.out 1 rfl
          exact stepTo_value (w' := W) (by unfold execOp; simp only [o1, hc]; go_simp) (next _ _ (Below.refl _ _) rfl)
        · have o3 : ρ (.tmp 3) = .int .i64 ((k : Nat) : Int) := hρ.out 3 rfl
          exact stepTo_value (w' := W) (by unfold execOp; simp only [o3, hc]; go_simp) (next _ _ (Below.refl _ _) rfl)
        · have g56 : WK6G M A c aLG k 7 (vs 7) W := hG 7 (haft 7 (by kernel_rfl))
          have s56 : ρ (.tmp 56) = .slice (some ⟨aLG, 0, none⟩) 4 4 := (hρ.at_ 56 7 rfl).trans g56
          have g57 : WK6G M A c aLG k 8 (vs 8) W := hG 8 (haft 8 (by kernel_rfl))
          have s57 : ρ (.tmp 57) = .int .i64 ((k : Nat) : Int) := (hρ.at_ 57 8 rfl).trans g57
          exact stepTo_value (w' := W) (by unfold execOp; simp only [s56, s57, hc]; go_simp) (next _ _ (Below.refl _ _) rfl)
        · have g58 : WK6G M A c aLG k 9 (vs 9) W := hG 9 (haft 9 (by kernel_rfl))
          have s58 : ρ (.tmp 58) = .pointer (some ⟨aLG, k * 4, none⟩) := (hρ.at_ 58 9 rfl).trans g58
          exact stepTo_value (w' := W) (by unfold execOp; simp only [s58, hc]; go_simp) (next _ _ (Below.refl _ _) rfl)
        · have o1 : ρ (.tmp 1) = .slice (some ⟨aLG, 0, none⟩) 4 4 := hρ.out 1 rfl
          exact stepTo_value (w' := W) (by unfold execOp; simp only [o1, hc]; go_simp) (next _ _ (Below.refl _ _) rfl)
        · have o3 : ρ (.tmp 3) = .int .i64 ((k : Nat) : Int) := hρ.out 3 rfl
          exact stepTo_value (w' := W) (by unfold execOp; simp only [o3, hc]; go_simp) (next _ _ (Below.refl _ _) rfl)
        · have g60 : WK6G M A c aLG k 11 (vs 11) W := hG 11 (haft 11 (by kernel_rfl))
          have s60 : ρ (.tmp 60) = .slice (some ⟨aLG, 0, none⟩) 4 4 := (hρ.at_ 60 11 rfl).trans g60
          have g61 : WK6G M A c aLG k 12 (vs 12) W := hG 12 (haft 12 (by kernel_rfl))
          have s61 : ρ (.tmp 61) = .int .i64 ((k : Nat) : Int) := (hρ.at_ 61 12 rfl).trans g61
          exact stepTo_value (w' := W) (by unfold execOp; simp only [s60, s61, hc]; go_simp) (next _ _ (Below.refl _ _) rfl)
        · have g62 : WK6G M A c aLG k 13 (vs 13) W := hG 13 (haft 13 (by kernel_rfl))
          have s62 : ρ (.tmp 62) = .pointer (some ⟨aLG, k * 4, none⟩) := (hρ.at_ 62 13 rfl).trans g62
          exact stepTo_value (w' := W) (by unfold execOp; simp only [s62, hc]; go_simp) (next _ _ (Below.refl _ _) rfl)
        · have g59 : WK6G M A c aLG k 10 (vs 10) W := hG 10 (haft 10 (by kernel_rfl))
          have s59 : ρ (.tmp 59) = .agg #[.int .u64 (M.ep : Int), .int .i64 M.bf, .bool M.ls, .slice A M.gs.length c] := (hρ.at_ 59 10 rfl).trans g59
          have g63 : WK6G M A c aLG k 14 (vs 14) W := hG 14 (haft 14 (by kernel_rfl))
          have s63 : ρ (.tmp 63) = .agg #[.int .u64 (M.ep : Int), .int .i64 M.bf, .bool M.ls, .slice A M.gs.length c] := (hρ.at_ 63 14 rfl).trans g63
          refine stepTo_enter (f := 12) (args := #[.agg #[.int .u64 (M.ep : Int), .int .i64 M.bf, .bool M.ls, .slice A M.gs.length c], .agg #[.int .u64 (M.ep : Int), .int .i64 M.bf, .bool M.ls, .slice A M.gs.length c]]) (w' := W) (by unfold execOp; simp only [hfn, s59, s63]; go_simp) (((same_is (v := .agg #[.int .u64 (M.ep : Int), .int .i64 M.bf, .bool M.ls, .slice A M.gs.length c]) (u := .agg #[.int .u64 (M.ep : Int), .int .i64 M.bf, .bool M.ls, .slice A M.gs.length c]) (L := M) (M := M) (r := true) (decide_eq_true rfl) (lnL_agg (HGL.out.below hb)) (lnL_agg (HGL.out.below hb)) HML.out HML.out)).mono ?_)
          rintro x W' ⟨rfl, hb'⟩
          exact ⟨_, rfl, next _ _ hb' rfl⟩
        · have g64 : WK6G M A c aLG k 15 (vs 15) W := hG 15 (haft 15 (by kernel_rfl))
          have s64 : ρ (.tmp 64) = .bool true := (hρ.at_ 64 15 rfl).trans g64
          exact stepTo_value (w' := W) (by unfold execOp; simp only [s64, hc]; go_simp) (next _ _ (Below.refl _ _) rfl)
        · have g55 : WK6G M A c aLG k 6 (vs 6) W := hG 6 (haft 6 (by kernel_rfl))
          have s55 : ρ (.tmp 55) = .bool false := (hρ.at_ 55 6 rfl).trans g55
          have g65 : WK6G M A c aLG k 16 (vs 16) W := hG 16 (haft 16 (by kernel_rfl))
          have s65 : ρ (.tmp 65) = .bool false := (hρ.at_ 65 16 rfl).trans g65
          exact stepTo_value (w' := W) (by unfold execOp; simp only [s55, s65, hc]; go_simp) (next _ _ (Below.refl _ _) rfl)
      · intro i o L vs W j want ho hli haft hg hv hI
        obtain ⟨hb, hG'⟩ := hI
        have hG : ∀ j, L j = true → WK6G M A c aLG k j (vs j) W := fun j hj => by
          by_cases h51 : j < 18
          · exact hG' j hj h51
          · match j, h51 with
            | j + 18, _ => exact trivial
        have hi51 : i < 18 := (Array.getElem?_eq_some_iff.1 ho).1
        rcases i with _ | _ | _ | _ | _ | _ | _ | _ | _ | _ | _ | _ | _ | _ | _ | _ | _ | _ | i
        all_goals (first | omega | skip)
        all_goals simp only [List.getElem?_toArray, List.getElem?_cons_zero, List.getElem?_cons_succ, Option.some.injEq] at ho
        all_goals subst ho
        all_goals simp only [reduceCtorEq, Option.some.injEq, Prod.mk.injEq] at hg
        · obtain ⟨rfl, rfl⟩ := hg
          exact (hv (hG 6 (haft 6 (by kernel_rfl)))).elim
        · obtain ⟨rfl, rfl⟩ := hg
          exact (hv (hG 6 (haft 6 (by kernel_rfl)))).elim
        · obtain ⟨rfl, rfl⟩ := hg
          exact (hv (hG 6 (haft 6 (by kernel_rfl)))).elim
        · obtain ⟨rfl, rfl⟩ := hg
          exact (hv (hG 6 (haft 6 (by kernel_rfl)))).elim
        · obtain ⟨rfl, rfl⟩ := hg
          exact (hv (hG 6 (haft 6 (by kernel_rfl)))).elim
        · obtain ⟨rfl, rfl⟩ := hg
          exact (hv (hG 6 (haft 6 (by kernel_rfl)))).elim
        · obtain ⟨rfl, rfl⟩ := hg
          exact (hv (hG 6 (haft 6 (by kernel_rfl)))).elim
        · obtain ⟨rfl, rfl⟩ := hg
          exact (hv (hG 6 (haft 6 (by kernel_rfl)))).elim
        · obtain ⟨rfl, rfl⟩ := hg
          exact (hv (hG 6 (haft 6 (by kernel_rfl)))).elim
        · obtain ⟨rfl, rfl⟩ := hg
          exact (hv (hG 6 (haft 6 (by kernel_rfl)))).elim
      intro vs V1 hI
      obtain ⟨hb, hG⟩ := hI
      have h17 : vs 17 = .bool false := hG 17 (by kernel_rfl) (by decide)
      have HB2 := Lib.hid (below_step HBW.out hb)
      clear hb hG
      simp only [putList, putSel, if_true]
      rw [h17]
      generalize vs 0 = y60
      generalize vs 1 = y61
      generalize vs 2 = y62
      generalize vs 3 = y63
      generalize vs 4 = y64
      generalize vs 5 = y65
      generalize vs 6 = y66
      generalize vs 7 = y67
      generalize vs 8 = y68
      generalize vs 9 = y69
      generalize vs 10 = y610
      generalize vs 11 = y611
      generalize vs 12 = y612
      generalize vs 13 = y613
      generalize vs 14 = y614
      generalize vs 15 = y615
      generalize vs 16 = y616
      clear h17
      simp only [Act.put, List.setIfInBounds_toArray, List.set_cons_succ, List.set_cons_zero]
      go_wp2_with fail
      go_roundw
      case rel => exact ⟨k + 1, by omega, by go_num, HB2.out⟩
      case measure => simp [intOf]; omega
    · obtain rfl : k = 4 := by omega
      have hki : ¬ ((4 : Nat) : Int) < 4 := by omega
      have HBD2 := Lib.hid (HBD.out.below HBW.out)
      have HB2 := Lib.hid (below_step HB.out HBW.out)
      clear HG HBD HB HBW hlt hk
      go_wp2_with fail
      obtain ⟨w2, hw2⟩ : ∃ z, z = wr := ⟨_, rfl⟩
      rw [← hw2]
      rw [← hw2] at HBD2 HB2
      clear hw2
      go_loopw [4] (fun i wq => KnRel 7 w2 i wq) (fun i _ => 7 - (intOf i).toNat)
      case atStart => exact ⟨0, by omega, rfl, Below.refl _ _⟩
      case round =>
        obtain ⟨k, hk, rfl, hbw⟩ := hrel
        have HBW := Lib.hid hbw
        clear hbw
        by_cases hlt : k < 7
        · have hki2 : (k : Int) < 7 := by omega
          obtain ⟨hgl, A, c, a0, a1, a2, a3, hgd⟩ := (HBD2.out.below HBW.out).cells k hlt
          obtain ⟨hf1, hf2⟩ := kbs_facts ⟨k, hlt⟩
          dsimp only at hf1 hf2
          generalize lnN kbs k = M at *
          have HCA := Lib.hid (check_is hf1 (lnL_agg hgd) (by omega))
          clear hgd hf1 hf2
          go_wp2_with fail
          refine HCA.out.mono ?_
          rintro en V1 ⟨rfl, hb⟩
          have HB3 := Lib.hid (below_step HBW.out hb)
          clear hb HCA
          go_wp2_with fail
          go_roundw
          case rel => exact ⟨k + 1, by omega, by go_num, HB3.out⟩
          case measure => simp [intOf]; omega
        · obtain rfl : k = 7 := by omega
          have hki2 : ¬ ((7 : Nat) : Int) < 7 := by omega
          have HB3 := Lib.hid (below_step HB2.out HBW.out)
          clear HBD2 HB2 HBW hlt hk
          go_upto_region 14 with fail
          obtain ⟨V0, hV0⟩ : ∃ z, z = wr := ⟨_, rfl⟩
          rw [← hV0]
          rw [← hV0] at HB3
          clear hV0
          have hk := Blk.new V0 25 #[.int .u64 1, .int .i64 (-1), .bool false, .slice none 0 0]
          have hd : Below V0.heap.size V0 (V0.alloc (.cells #[.int .u64 1, .int .i64 (-1), .bool false, .slice none 0 0] 25)) := (Below.refl _ _).alloc (Nat.le_refl _) _
          generalize V0.alloc (.cells #[.int .u64 1, .int .i64 (-1), .bool false, .slice none 0 0] 25) = V1 at *
          obtain ⟨g5, hg5⟩ : ∃ g, V0.heap.size = g := ⟨_, rfl⟩
          have HG5 := Lib.hid hg5
          rw [hg5] at hk
          try rw [hg5]
          clear hg5
          have HK := Lib.hid hk
          have HD := Lib.hid hd
          clear hk hd
          go_wp2_with fail
          go_loopw [6] (fun i wq => KlRel g5 V0 i wq) (fun i _ => 22 - (intOf i).toNat)
          case atStart => exact ⟨0, by omega, rfl, ⟨_, HK.out, OGd.nil _ _⟩, HD.out⟩
          case round =>
            obtain ⟨jn, hj, rfl, ⟨v, hk, ho⟩, hd⟩ := hrel
            clear HK HD
            obtain ⟨X, cx, hX⟩ := ogd_slice ho
            rw [kg_len] at hX
            subst hX
            have HK := Lib.hid hk
            have HO := Lib.hid ho
            have HD := Lib.hid hd
            clear hk ho hd
            obtain ⟨k, hkj⟩ : ∃ k, jn + 1 = k := ⟨_, rfl⟩
            have HKJ := Lib.hid hkj
            rw [hkj]
            by_cases hlt : jn < 21
            · have hki3 : (k : Int) < 22 := by omega
              have hk0 : (0 : Int) ≤ (k : Int) := by omega
              have hk64 : (k : Int) < 18446744073709551616 := by omega
              have hwr : IntKind.u64.wrap (k : Int) = (k : Int) := IntWalk.u64_in _ (by omega)
              go_upto_region 17 with fail
              refine wp_region_pre (by kernel_rfl) 6 [84, 85, 86, 87, 88, 89] (by kernel_rfl) (fun L vs W => Below wr.heap.size wr W ∧ ∀ i, L i = true → i < 6 → WKLG X cx jn k g5 i (vs i) W) ⟨(Below.refl _ _).drew, fun i hi => (by cases hi)⟩ ?_ ?_
              · intro i o L vs ρ W hi51 ho hli haft hρ hI
                obtain ⟨hb, hG'⟩ := hI
                have hG : ∀ j, L j = true → WKLG X cx jn k g5 j (vs j) W := fun j hj => by
                  by_cases h51 : j < 6
                  · exact hG' j hj h51
                  · match j, h51 with
                    | j + 6, _ => exact trivial
                have hc := hρ.const
                have hfn := hρ.fn
                have nextG : ∀ v W', Below W.heap.size W W' → WKLG X cx jn k g5 i v W' → ∀ j, updB L i j = true → j < 6 → WKLG X cx jn k g5 j (updV vs i v j) W' := fun v W' h1 h2 j hj h51 => by
                  by_cases hji : j = i
                  · subst hji
                    simpa [updV] using h2
                  · simp only [updB, if_neg hji] at hj
                    simpa [updV, hji] using WKLG_mono X cx jn k g5 j _ W W' h51 (hG' j hj h51) h1
                have next : ∀ v W', Below W.heap.size W W' → WKLG X cx jn k g5 i v W' → Below wr.heap.size wr W' ∧ ∀ j, updB L i j = true → j < 6 → WKLG X cx jn k g5 j (updV vs i v j) W' := fun v W' h1 h2 => ⟨below_step hb h1, nextG v W' h1 h2⟩
                have x3 := (blk_ln (HK.out.below hb)).2.2.2
                have xl := (HK.out.below hb).lt
                rcases i with _ | _ | _ | _ | _ | _ | i
                all_goals (first | omega | skip)
                all_goals simp only [List.getElem?_toArray, List.getElem?_cons_zero, List.getElem?_cons_succ, Option.some.injEq] at ho
                all_goals subst ho
                · have o5 : ρ (.tmp 5) = .pointer (some ⟨g5, 0, none⟩) := hρ.out 5 rfl
                  exact stepTo_value (w' := W) (by unfold execOp; simp only [o5, hc]; go_simp) (next _ _ (Below.refl _ _) rfl)
                · have g84 : WKLG X cx jn k g5 0 (vs 0) W := hG 0 (haft 0 (by kernel_rfl))
                  have s84 : ρ (.tmp 84) = .pointer (some ⟨g5, 3, none⟩) := (hρ.at_ 84 0 rfl).trans g84
                  exact stepTo_value (w' := W) (by unfold execOp; simp only [s84, hc]; go_simp) (next _ _ (Below.refl _ _) rfl)
                · have o6 : ρ (.tmp 6) = .int .i64 ((k : Nat) : Int) := hρ.out 6 rfl
                  exact stepTo_value (w' := W) (by unfold execOp; simp only [o6, hc]; go_simp) (next _ _ (Below.refl _ _) rfl)
                · have g86 : WKLG X cx jn k g5 2 (vs 2) W := hG 2 (haft 2 (by kernel_rfl))
                  have s86 : ρ (.tmp 86) = .int .i64 ((k : Nat) : Int) := (hρ.at_ 86 2 rfl).trans g86
                  exact stepTo_value (w' := W) (by unfold execOp; simp only [s86, hc]; go_simp) (next _ _ (Below.refl _ _) rfl)
                · have g87 : WKLG X cx jn k g5 3 (vs 3) W := hG 3 (haft 3 (by kernel_rfl))
                  have s87 : ρ (.tmp 87) = .int .u64 ((k : Nat) : Int) := (hρ.at_ 87 3 rfl).trans g87
                  refine stepTo_enter (f := 21) (args := #[.int .u64 1, .int .u64 ((k : Nat) : Int)]) (w' := W) (by unfold execOp; simp only [hfn, s87]; go_simp) (((guid_any 1 k W)).mono ?_)
                  rintro x W' ⟨rfl, hb'⟩
                  exact ⟨_, rfl, next _ _ hb' rfl⟩
                · have g88 : WKLG X cx jn k g5 4 (vs 4) W := hG 4 (haft 4 (by kernel_rfl))
                  have s88 : ρ (.tmp 88) = .agg #[.int .u64 1, .int .u64 ((k : Nat) : Int)] := (hρ.at_ 88 4 rfl).trans g88
                  exact stepTo_value (v := .slice (some ⟨W.heap.size, 0, none⟩) 1 1) (w' := W.alloc (.cells #[.int .u64 1, .int .u64 ((k : Nat) : Int)] 34)) (by unfold execOp; simp only [s88, hc]; go_simp) (next _ _ ((Below.refl _ W).alloc (Nat.le_refl _) _) ⟨W.heap.size, rfl, gd_lit (l := [(1, k)]) (Blk.new _ _ _) (by simp)⟩)
              · intro L vs W3 hL hI
                obtain ⟨hb, hG⟩ := hI
                have h1 : vs 1 = .slice X jn cx := hG 1 (hL 1 (by decide)) (by decide)
                obtain ⟨ga, h5, hl⟩ : WKLG X cx jn k g5 5 (vs 5) W3 := hG 5 (hL 5 (by decide)) (by decide)
                have ho3 := HO.out.below hb
                have hk3 := HK.out.below hb
                have hd3 := below_step HD.out hb
                clear hL hG hb HO HK HD
                simp only [putList, putSel, if_true]
                rw [h1, h5]
                generalize vs 0 = yl0
                generalize vs 2 = yl2
                generalize vs 3 = yl3
                generalize vs 4 = yl4
                clear h1 h5
                simp only [Act.put, List.setIfInBounds_toArray, List.set_cons_succ, List.set_cons_zero]
                refine wpAny_one (i := 6) (by kernel_rfl) rfl rfl ?_
                refine wp_append_gd (.tmp 85) (.tmp 89) rfl V0.heap.size (.slice X jn cx) (kg jn) rfl ho3 ⟨ga, 0, none⟩ [(1, k)] 1 rfl hl (by rw [kg_len]; simp; omega) hd3.size ?_
                intro v6 V6 ho6 hg6
                have hk6 : Blk V6 g5 25 #[.int .u64 1, .int .i64 (-1), .bool false, .slice X jn cx] := hk3.of_block (hg6.block g5 hk3.lt (fun h => own_type ho3 hk3 (by decide) g5 h.symm rfl))
                have hd6 := hd3.grown hg6 hd3.size (fun q hq => (ho3.lt q hq).1)
                rw [← HKJ.out, ← kg_succ] at ho6
                obtain ⟨Y, cy, hY⟩ := ogd_slice ho6
                rw [kg_len, HKJ.out] at hY
                subst hY
                have hk7 : Blk (V6.setCell ⟨g5, 3, none⟩ (.slice Y k cy)) g5 25 #[.int .u64 1, .int .i64 (-1), .bool false, .slice Y k cy] := hk6.set_ 3 _
                have hd7 : Below V0.heap.size V0 (V6.setCell ⟨g5, 3, none⟩ (.slice Y k cy)) := hd6.setCell (Nat.le_of_eq HG5.out) _
                have ho7 : OGd (V6.setCell ⟨g5, 3, none⟩ (.slice Y k cy)) V0.heap.size (.slice Y k cy) (kg (jn + 1)) := row_of_block ho6 (fun q hq => set_oth _ _ _ _ _ (own_type ho6 hk6 (by decide) q hq))
                have y3 := (blk_ln hk6).2.2.2
                have fy := hk6.frozen 3
                have hgl := hk6.lt
                have HK7 := Lib.hid hk7
                have HD7 := Lib.hid hd7
                have HO7 := Lib.hid ho7
                clear ho3 hk3 hd3 hl ho6 hg6 hk6 hd6 hk7 hd7 ho7
                refine wpAny_one (i := 7) (by kernel_rfl) rfl rfl ?_
                go_simp
                refine wpAny_one (i := 8) (by kernel_rfl) rfl rfl ?_
                go_simp
                refine ⟨by kernel_rfl, ?_⟩
                clear y3 fy hgl
                generalize V6.setCell ⟨g5, 3, none⟩ (.slice Y k cy) = V7 at *
                go_wp2_with fail
                go_roundw
                case rel => exact ⟨jn + 1, by omega, by rw [← HKJ.out]; go_num, ⟨_, HK7.out, HO7.out⟩, HD7.out⟩
                case measure => simp [intOf]; omega
            · obtain rfl : jn = 21 := by omega
              obtain rfl : k = 22 := by omega
              have hki3 : ¬ ((22 : Nat) : Int) < 22 := by omega
              clear HKJ hlt hj
              have hcx : 21 ≤ cx := by have h := (ogd_gdl HO.out).cap; rwa [kg_len] at h
              have hci : (20 : Int) ≤ (cx : Int) := by omega
              have hc2 : 20 ≤ cx := by omega
              obtain ⟨x0, x1, x2, x3⟩ := blk_ln HK.out
              have xl := HK.out.lt
              have HC1 := Lib.hid (check_is (v := .agg #[.int .u64 1, .int .i64 (-1), .bool false, .slice X 21 cx]) (L := ⟨1, -1, false, kg 21⟩) kg_check.1 ⟨X, cx, rfl, ogd_gdl HO.out⟩ (by rw [kg_len]; decide))
              go_wp2_with fail
              refine HC1.out.mono ?_
              rintro en V2 ⟨rfl, hb⟩
              have hk2 := HK.out.below hb
              have ho2 := HO.out.below hb
              have hB2 := below_step (below_step HB3.out HD.out) hb
              have hg5 : w.heap.size ≤ g5 := by rw [← HG5.out]; exact HB3.out.size
              clear x0 x1 x2 x3 xl HC1 HO HK HD HB3 hb HG5
              obtain ⟨x0, x1, x2, x3⟩ := blk_ln hk2
              have f1 := hk2.frozen 1
              have f3 := hk2.frozen 3
              have xl := hk2.lt
              have hk3 : Blk ((V2.setCell ⟨g5, 3, none⟩ (.slice X 20 cx)).setCell ⟨g5, 1, none⟩ (.int .i64 20)) g5 25 #[.int .u64 1, .int .i64 20, .bool false, .slice X 20 cx] := (hk2.set_ 3 _).set_ 1 _
              have hB3 : Below w.heap.size w ((V2.setCell ⟨g5, 3, none⟩ (.slice X 20 cx)).setCell ⟨g5, 1, none⟩ (.int .i64 20)) := (hB2.setCell (show w.heap.size ≤ g5 from hg5) _).setCell (show w.heap.size ≤ g5 from hg5) _
              have ho3 : OGd ((V2.setCell ⟨g5, 3, none⟩ (.slice X 20 cx)).setCell ⟨g5, 1, none⟩ (.int .i64 20)) V0.heap.size (.slice X 21 cx) (kg 21) := row_of_block ho2 (fun q hq => (set_oth _ _ _ _ _ (own_type ho2 hk2 (by decide) q hq)).trans (set_oth _ _ _ _ _ (own_type ho2 hk2 (by decide) q hq)))
              have hgx : GdL ((V2.setCell ⟨g5, 3, none⟩ (.slice X 20 cx)).setCell ⟨g5, 1, none⟩ (.int .i64 20)) X (kg 20) cx := by have h := (ogd_gdl ho3).take 20; rwa [kg_take] at h
              have HK3 := Lib.hid hk3
              have HB3 := Lib.hid hB3
              have HGX := Lib.hid hgx
              clear hk3 hB3 ho3 hgx hk2 ho2 hB2 hg5
              go_upto_region 21 with fail
              clear x0 x1 x2 x3 f1 f3 xl hcx hci hc2
              generalize (V2.setCell ⟨g5, 3, none⟩ (.slice X 20 cx)).setCell ⟨g5, 1, none⟩ (.int .i64 20) = V3 at *
              obtain ⟨x0, x1, x2, x3⟩ := blk_ln HK3.out
              have xl := HK3.out.lt
              have HC2 := Lib.hid (check_is (v := .agg #[.int .u64 1, .int .i64 20, .bool false, .slice X 20 cx]) (L := ⟨1, 20, false, kg 20⟩) kg_check.2 ⟨X, cx, rfl, HGX.out⟩ (by rw [kg_len]; decide))
              go_wp2_with fail
              refine HC2.out.mono ?_
              rintro en V4 ⟨rfl, hb⟩
              have HD4 := Lib.hid hb
              clear x0 x1 x2 x3 xl HC2 hb
              go_wp2_with fail
              refine (guid_any 1 1 V4).mono ?_
              rintro en V5 ⟨rfl, hb⟩
              have hd5 := below_step HD4.out hb
              obtain ⟨hs1, hs2, hb6⟩ := two_new V5 #[.int .u64 1, .int .u64 1] #[.int .u64 1, .int .i64 0, .bool false, .slice (some ⟨V5.heap.size, 0, none⟩) 1 1] 34 25
              have hd6 := below_step hd5 hb6
              have hlow : V3.heap.size ≤ V5.heap.size := hd5.size
              go_upto_region 23 with fail
              generalize (V5.alloc (.cells #[.int .u64 1, .int .u64 1] 34)).alloc (.cells #[.int .u64 1, .int .i64 0, .bool false, .slice (some ⟨V5.heap.size, 0, none⟩) 1 1] 25) = V6 at *
              obtain ⟨gs, hgs⟩ : ∃ g, V5.heap.size = g := ⟨_, rfl⟩
              rw [hgs] at hs1 hs2 hlow
              try rw [hgs]
              clear hgs hb hb6 hd5 HD4
              have HS1 := Lib.hid hs1
              have HS2 := Lib.hid hs2
              have HD6 := Lib.hid hd6
              have HLOW := Lib.hid hlow
              clear hs1 hs2 hd6 hlow
              obtain ⟨x0, x1, x2, x3⟩ := blk_ln HS2.out
              have xl := HS2.out.lt
              have HMG := Lib.hid (merge_is (v := .agg #[.int .u64 1, .int .i64 0, .bool false, .slice (some ⟨gs, 0, none⟩) 1 1]) (u := .agg #[.int .u64 0, .int .i64 0, .bool false, .slice none 0 0]) (L := ⟨1, 0, false, [(1, 1)]⟩) (M := ⟨0, 0, false, []⟩) (R := ⟨1, 0, false, [(1, 1)]⟩) (by decide) ⟨(some ⟨gs, 0, none⟩), 1, rfl, gd_lit (l := [(1, 1)]) HS1.out (by decide)⟩ ⟨none, 0, rfl, GdL.none _⟩ (by unfold szL; decide) (by unfold szL; decide))
              go_wp2_with fail
              refine HMG.out.mono ?_
              rintro en V7 ⟨v', rfl, ⟨u', rfl, ho⟩, hb⟩
              obtain ⟨Ac, cc, hu⟩ := ogd_slice ho
              have hu : u' = .slice Ac 1 cc := hu
              subst hu
              have hs1 := HS1.out.below hb
              have hs2 := HS2.out.below hb
              have hd7 := below_step HD6.out hb
              have hlo7 : gs < V6.heap.size := HS1.out.lt
              have hk8 := Blk.new V7 25 #[.int .u64 1, .int .i64 0, .bool false, .slice Ac 1 cc]
              have hb8 : Below V7.heap.size V7 (V7.alloc (.cells #[.int .u64 1, .int .i64 0, .bool false, .slice Ac 1 cc] 25)) := (Below.refl _ _).alloc (Nat.le_refl _) _
              have hlo8 : V6.heap.size ≤ V7.heap.size := hb.size
              go_upto_region 24 with fail
              clear x0 x1 x2 x3 xl HMG
              generalize V7.alloc (.cells #[.int .u64 1, .int .i64 0, .bool false, .slice Ac 1 cc] 25) = V8 at *
              have hs1 := hs1.below hb8
              have hs2 := hs2.below hb8
              have ho8 := ho.below hb8
              have hd8 := below_step hd7 hb8
              obtain ⟨gc, hgc⟩ : ∃ g, V7.heap.size = g := ⟨_, rfl⟩
              rw [hgc] at hk8 hlo8
              try rw [hgc]
              clear hgc hb8 hb HS1 HS2 HD6 ho hd7
              have HS1 := Lib.hid hs1
              have HS2 := Lib.hid hs2
              have HO8 := Lib.hid ho8
              have HD8 := Lib.hid hd8
              have HK8 := Lib.hid hk8
              clear hs1 hs2 ho8 hd8 hk8
              refine wp_region_pre (by kernel_rfl) 3 [107, 108, 109] (by kernel_rfl) (fun L vs W => Below V8.heap.size V8 W ∧ ∀ i, L i = true → i < 3 → WKSG gs i (vs i) W) ⟨(Below.refl _ _).drew, fun i hi => (by cases hi)⟩ ?_ ?_
              · intro i o L vs ρ W hi51 ho hli haft hρ hI
                obtain ⟨hb, hG'⟩ := hI
                have hG : ∀ j, L j = true → WKSG gs j (vs j) W := fun j hj => by
                  by_cases h51 : j < 3
                  · exact hG' j hj h51
                  · match j, h51 with
                    | j + 3, _ => exact trivial
                have hc := hρ.const
                have hfn := hρ.fn
                have nextG : ∀ v W', Below W.heap.size W W' → WKSG gs i v W' → ∀ j, updB L i j = true → j < 3 → WKSG gs j (updV vs i v j) W' := fun v W' h1 h2 j hj h51 => by
                  by_cases hji : j = i
                  · subst hji
                    simpa [updV] using h2
                  · simp only [updB, if_neg hji] at hj
                    simpa [updV, hji] using WKSG_mono gs j _ W W' h51 (hG' j hj h51) h1
                have next : ∀ v W', Below W.heap.size W W' → WKSG gs i v W' → Below V8.heap.size V8 W' ∧ ∀ j, updB L i j = true → j < 3 → WKSG gs j (updV vs i v j) W' := fun v W' h1 h2 => ⟨below_step hb h1, nextG v W' h1 h2⟩
                have x3 := (blk_ln (HS2.out.below hb)).2.2.2
                have xl := (HS2.out.below hb).lt
                rcases i with _ | _ | _ | i
                all_goals (first | omega | skip)
                all_goals simp only [List.getElem?_toArray, List.getElem?_cons_zero, List.getElem?_cons_succ, Option.some.injEq] at ho
                all_goals subst ho
                · have o9 : ρ (.tmp 9) = .pointer (some ⟨gs + 1, 0, none⟩) := hρ.out 9 rfl
                  exact stepTo_value (w' := W) (by unfold execOp; simp only [o9, hc]; go_simp) (next _ _ (Below.refl _ _) rfl)
                · have g107 : WKSG gs 0 (vs 0) W := hG 0 (haft 0 (by kernel_rfl))
                  have s107 : ρ (.tmp 107) = .pointer (some ⟨gs + 1, 3, none⟩) := (hρ.at_ 107 0 rfl).trans g107
                  exact stepTo_value (w' := W) (by unfold execOp; simp only [s107, hc]; go_simp) (next _ _ (Below.refl _ _) rfl)
                · refine stepTo_enter (f := 21) (args := #[.int .u64 9, .int .u64 9]) (w' := W) (by unfold execOp; simp only [hfn, ]; go_simp) (((guid_any 9 9 W)).mono ?_)
                  rintro x W' ⟨rfl, hb'⟩
                  exact ⟨_, rfl, next _ _ hb' rfl⟩
              · intro L vs V9 hL hI
                obtain ⟨hb, hG⟩ := hI
                have h1 : vs 1 = .slice (some ⟨gs, 0, none⟩) 1 1 := hG 1 (hL 1 (by decide)) (by decide)
                have h2 : vs 2 = .agg #[.int .u64 9, .int .u64 9] := hG 2 (hL 2 (by decide)) (by decide)
                have hs1 := HS1.out.below hb
                have hk9 := HK8.out.below hb
                have ho9 := HO8.out.below hb
                have hd9 := below_step HD8.out hb
                clear HS1 HS2 HO8 HD8 HK8 hb hL hG
                have z0 := hs1.cell 0
                have z1 := hs1.cell 1
                have zl := hs1.lt
                have zf0 := hs1.frozen 0
                have zf1 := hs1.frozen 1
                simp only [List.getElem?_toArray, List.getElem?_cons_zero, List.getElem?_cons_succ] at z0 z1
                have hoth : ∀ q, q ≠ gs → ((V9.setCell ⟨gs, 0, none⟩ (.int .u64 9)).setCell ⟨gs, 1, none⟩ (.int .u64 9)).heap[q]? = V9.heap[q]? := fun q hq => (set_oth _ _ _ _ _ hq).trans (set_oth _ _ _ _ _ hq)
                have hd10 : Below V3.heap.size V3 ((V9.setCell ⟨gs, 0, none⟩ (.int .u64 9)).setCell ⟨gs, 1, none⟩ (.int .u64 9)) := (hd9.setCell (show V3.heap.size ≤ gs from HLOW.out) _).setCell (show V3.heap.size ≤ gs from HLOW.out) _
                have hk10 : Blk ((V9.setCell ⟨gs, 0, none⟩ (.int .u64 9)).setCell ⟨gs, 1, none⟩ (.int .u64 9)) gc 25 #[.int .u64 1, .int .i64 0, .bool false, .slice Ac 1 cc] := hk9.of_block (hoth gc (by omega))
                have ho10 : OGd ((V9.setCell ⟨gs, 0, none⟩ (.int .u64 9)).setCell ⟨gs, 1, none⟩ (.int .u64 9)) V6.heap.size (.slice Ac 1 cc) [(1, 1)] := ogd_keep ho9 (fun q hq => hoth q (by omega))
                have HD10 := Lib.hid hd10
                have HK10 := Lib.hid hk10
                have HO10 := Lib.hid ho10
                clear hd10 hk10 ho10 hoth hk9 ho9 hd9 hs1
                simp only [putList, putSel, if_true]
                rw [h1, h2]
                generalize vs 0 = ys0
                clear h1 h2
                simp only [Act.put, List.setIfInBounds_toArray, List.set_cons_succ, List.set_cons_zero]
                refine wpAny_one (i := 3) (by kernel_rfl) rfl rfl ?_
                go_simp
                refine wpAny_one (i := 4) (by kernel_rfl) rfl rfl ?_
                go_simp
                refine ⟨by kernel_rfl, ?_⟩
                show Exit.then _ _ Exit.normal _ ((V9.setCell ⟨gs, 0, none⟩ (.int .u64 9)).setCell ⟨gs, 1, none⟩ (.int .u64 9))
                clear z0 z1 zl zf0 zf1 hlo7 hlo8
                generalize (V9.setCell ⟨gs, 0, none⟩ (.int .u64 9)).setCell ⟨gs, 1, none⟩ (.int .u64 9) = V10 at *
                have hk5 := HK3.out.below HD10.out
                have hgx := HGX.out.below HD10.out
                have hB10 := below_step HB3.out HD10.out
                obtain ⟨bc, oc, hAc, hbc, hc0, hc1⟩ := (ogd_gdl HO10.out).gds 0 (by decide)
                subst hAc
                have HK5 := Lib.hid hk5
                have HX10 := Lib.hid hgx
                have HB10 := Lib.hid hB10
                have HBC := Lib.hid hbc
                have HC0 := Lib.hid hc0
                have HC1 := Lib.hid hc1
                clear hk5 hgx hB10 hbc hc0 hc1 HK3 HGX HB3 HD10 HO10 HLOW
                go_upto_region 25 with fail
                refine wp_region_inv (by kernel_rfl) [111, 112, 113, 114, 115, 116, 117, 118, 119, 120, 121, 122, 123, 124, 125, 126, 127, 128, 129, 130, 131, 132, 133, 134, 135, 136, 137, 138, 139, 140, 141, 142, 143, 144, 145, 146, 147, 148, 149, 150, 151, 152, 153, 154, 155, 156, 157, 158, 159, 160, 161, 162, 163, 164, 165, 166, 167, 168, 169, 170, 171, 172, 173, 174, 175, 176, 177, 178, 179, 180, 181, 182, 183, 184, 185, 186, 187, 0] (by kernel_rfl) (fun L vs W => Below V10.heap.size V10 W ∧ ∀ i, L i = true → i < 78 → WKFG X cx cc g5 gc bc oc i (vs i) W) ⟨(Below.refl _ _).drew, fun i hi => (by cases hi)⟩ ?_ ?_ ?_
                · intro i o L vs ρ W ho hli haft hρ hgd hI
                  obtain ⟨hb, hG'⟩ := hI
                  have hG : ∀ j, L j = true → WKFG X cx cc g5 gc bc oc j (vs j) W := fun j hj => by
                    by_cases h51 : j < 78
                    · exact hG' j hj h51
                    · match j, h51 with
                      | j + 78, _ => exact trivial
                  have hi51 : i < 78 := (Array.getElem?_eq_some_iff.1 ho).1
                  have hc := hρ.const
                  have hfn := hρ.fn
                  have nextG : ∀ v W', Below W.heap.size W W' → WKFG X cx cc g5 gc bc oc i v W' → ∀ j, updB L i j = true → j < 78 → WKFG X cx cc g5 gc bc oc j (updV vs i v j) W' := fun v W' h1 h2 j hj h51 => by
                    by_cases hji : j = i
                    · subst hji
                      simpa [updV] using h2
                    · simp only [updB, if_neg hji] at hj
                      simpa [updV, hji] using WKFG_mono X cx cc g5 gc bc oc j _ W W' h51 (hG' j hj h51) h1
                  have next : ∀ v W', Below W.heap.size W W' → WKFG X cx cc g5 gc bc oc i v W' → Below V10.heap.size V10 W' ∧ ∀ j, updB L i j = true → j < 78 → WKFG X cx cc g5 gc bc oc j (updV vs i v j) W' := fun v W' h1 h2 => ⟨below_step hb h1, nextG v W' h1 h2⟩
                  obtain ⟨x0, x1, x2, x3⟩ := blk_ln (HK5.out.below hb)
                  have xl := (HK5.out.below hb).lt
                  have y3 := (blk_ln (HK10.out.below hb)).2.2.2
                  have yl := (HK10.out.below hb).lt
                  have c0 := (hb.cell (p := ⟨bc, oc + 0 * 2, none⟩) HBC.out).trans HC0.out
                  have c1 := (hb.cell (p := ⟨bc, oc + 0 * 2 + 1, none⟩) HBC.out).trans HC1.out
                  have cl : bc < W.heap.size := Nat.lt_of_lt_of_le HBC.out hb.size
                  simp only [Nat.zero_mul, Nat.add_zero, List.getElem_cons_zero] at c0 c1
                  simp only [List.append_eq, List.cons_append, List.nil_append] at ho
                  rcases i with _ | _ | _ | _ | _ | _ | _ | _ | _ | _ | _ | _ | _ | _ | _ | _ | _ | _ | _ | _ | _ | _ | _ | _ | _ | _ | _ | _ | _ | _ | _ | _ | _ | _ | _ | _ | _ | _ | _ | _ | _ | _ | _ | _ | _ | _ | _ | _ | _ | _ | _ | _ | _ | _ | _ | _ | _ | _ | _ | _ | _ | _ | _ | _ | _ | _ | _ | _ | _ | _ | _ | _ | _ | _ | _ | _ | _ | _ | i
                  all_goals (first | omega | skip)
                  all_goals simp only [List.getElem?_toArray, List.getElem?_cons_zero, List.getElem?_cons_succ, Option.some.injEq] at ho
                  all_goals subst ho
                  · exact stepTo_value (w' := W) (by unfold execOp; simp only [hc]; go_simp) (next _ _ (Below.refl _ _) rfl)
                  · refine stepTo_enter (f := 14) (args := #[]) (w' := W) (by unfold execOp; simp only [hfn, ]; go_simp) (((works_any W)).mono ?_)
                    rintro x W' ⟨rfl, hb'⟩
                    exact ⟨_, rfl, next _ _ hb' rfl⟩
                  · have g111 : WKFG X cx cc g5 gc bc oc 0 (vs 0) W := hG 0 (haft 0 (by kernel_rfl))
                    have s111 : ρ (.tmp 111) = .bool true := (hρ.at_ 111 0 rfl).trans g111
                    have g112 : WKFG X cx cc g5 gc bc oc 1 (vs 1) W := hG 1 (haft 1 (by kernel_rfl))
                    have s112 : ρ (.tmp 112) = .bool true := (hρ.at_ 112 1 rfl).trans g112
                    exact stepTo_value (w' := W) (by unfold execOp; simp only [s111, s112, hc]; go_simp) (next _ _ (Below.refl _ _) rfl)
                  · have g113 : WKFG X cx cc g5 gc bc oc 2 (vs 2) W := hG 2 (haft 2 (by kernel_rfl))
                    have s113 : ρ (.tmp 113) = .bool true := (hρ.at_ 113 2 rfl).trans g113
                    exact stepTo_value (w' := W) (by unfold execOp; simp only [s113, hc]; go_simp) (next _ _ (Below.refl _ _) rfl)
                  · have o7 : ρ (.tmp 7) = .int .i64 3 := hρ.out 7 rfl
                    exact stepTo_value (w' := W) (by unfold execOp; simp only [o7, hc]; go_simp) (next _ _ (Below.refl _ _) rfl)
                  · have g115 : WKFG X cx cc g5 gc bc oc 4 (vs 4) W := hG 4 (haft 4 (by kernel_rfl))
                    have s115 : ρ (.tmp 115) = .int .i64 3 := (hρ.at_ 115 4 rfl).trans g115
                    exact stepTo_value (w' := W) (by unfold execOp; simp only [s115, hc]; go_simp) (next _ _ (Below.refl _ _) rfl)
                  · have g114 : WKFG X cx cc g5 gc bc oc 3 (vs 3) W := hG 3 (haft 3 (by kernel_rfl))
                    have s114 : ρ (.tmp 114) = .bool true := (hρ.at_ 114 3 rfl).trans g114
                    have g116 : WKFG X cx cc g5 gc bc oc 5 (vs 5) W := hG 5 (haft 5 (by kernel_rfl))
                    have s116 : ρ (.tmp 116) = .bool true := (hρ.at_ 116 5 rfl).trans g116
                    exact stepTo_value (w' := W) (by unfold execOp; simp only [s114, s116, hc]; go_simp) (next _ _ (Below.refl _ _) rfl)
                  · have g117 : WKFG X cx cc g5 gc bc oc 6 (vs 6) W := hG 6 (haft 6 (by kernel_rfl))
                    have s117 : ρ (.tmp 117) = .bool true := (hρ.at_ 117 6 rfl).trans g117
                    exact stepTo_value (w' := W) (by unfold execOp; simp only [s117, hc]; go_simp) (next _ _ (Below.refl _ _) rfl)
                  · have o8 : ρ (.tmp 8) = .int .i64 0 := hρ.out 8 rfl
                    exact stepTo_value (w' := W) (by unfold execOp; simp only [o8, hc]; go_simp) (next _ _ (Below.refl _ _) rfl)
                  · have g119 : WKFG X cx cc g5 gc bc oc 8 (vs 8) W := hG 8 (haft 8 (by kernel_rfl))
                    have s119 : ρ (.tmp 119) = .int .i64 0 := (hρ.at_ 119 8 rfl).trans g119
                    exact stepTo_value (w' := W) (by unfold execOp; simp only [s119, hc]; go_simp) (next _ _ (Below.refl _ _) rfl)
                  · have g118 : WKFG X cx cc g5 gc bc oc 7 (vs 7) W := hG 7 (haft 7 (by kernel_rfl))
                    have s118 : ρ (.tmp 118) = .bool true := (hρ.at_ 118 7 rfl).trans g118
                    have g120 : WKFG X cx cc g5 gc bc oc 9 (vs 9) W := hG 9 (haft 9 (by kernel_rfl))
                    have s120 : ρ (.tmp 120) = .bool true := (hρ.at_ 120 9 rfl).trans g120
                    exact stepTo_value (w' := W) (by unfold execOp; simp only [s118, s120, hc]; go_simp) (next _ _ (Below.refl _ _) rfl)
                  · have g121 : WKFG X cx cc g5 gc bc oc 10 (vs 10) W := hG 10 (haft 10 (by kernel_rfl))
                    have s121 : ρ (.tmp 121) = .bool true := (hρ.at_ 121 10 rfl).trans g121
                    exact stepTo_value (w' := W) (by unfold execOp; simp only [s121, hc]; go_simp) (next _ _ (Below.refl _ _) rfl)
                  · have o10 : ρ (.tmp 10) = .pointer (some ⟨gc, 0, none⟩) := hρ.out 10 rfl
                    exact stepTo_value (w' := W) (by unfold execOp; simp only [o10, hc]; go_simp) (next _ _ (Below.refl _ _) rfl)
                  · have g123 : WKFG X cx cc g5 gc bc oc 12 (vs 12) W := hG 12 (haft 12 (by kernel_rfl))
                    have s123 : ρ (.tmp 123) = .pointer (some ⟨gc, 3, none⟩) := (hρ.at_ 123 12 rfl).trans g123
                    exact stepTo_value (w' := W) (by unfold execOp; simp only [s123, hc]; go_simp) (next _ _ (Below.refl _ _) rfl)
                  · have g124 : WKFG X cx cc g5 gc bc oc 13 (vs 13) W := hG 13 (haft 13 (by kernel_rfl))
                    have s124 : ρ (.tmp 124) = .slice (some ⟨bc, oc, none⟩) 1 cc := (hρ.at_ 124 13 rfl).trans g124
                    exact stepTo_value (w' := W) (by unfold execOp; simp only [s124, hc]; go_simp) (next _ _ (Below.refl _ _) rfl)
                  · have g125 : WKFG X cx cc g5 gc bc oc 14 (vs 14) W := hG 14 (haft 14 (by kernel_rfl))
                    have s125 : ρ (.tmp 125) = .int .i64 1 := (hρ.at_ 125 14 rfl).trans g125
                    exact stepTo_value (w' := W) (by unfold execOp; simp only [s125, hc]; go_simp) (next _ _ (Below.refl _ _) rfl)
                  · have g122 : WKFG X cx cc g5 gc bc oc 11 (vs 11) W := hG 11 (haft 11 (by kernel_rfl))
                    have s122 : ρ (.tmp 122) = .bool true := (hρ.at_ 122 11 rfl).trans g122
                    have g126 : WKFG X cx cc g5 gc bc oc 15 (vs 15) W := hG 15 (haft 15 (by kernel_rfl))
                    have s126 : ρ (.tmp 126) = .bool true := (hρ.at_ 126 15 rfl).trans g126
                    exact stepTo_value (w' := W) (by unfold execOp; simp only [s122, s126, hc]; go_simp) (next _ _ (Below.refl _ _) rfl)
                  · have g127 : WKFG X cx cc g5 gc bc oc 16 (vs 16) W := hG 16 (haft 16 (by kernel_rfl))
                    have s127 : ρ (.tmp 127) = .bool true := (hρ.at_ 127 16 rfl).trans g127
                    exact stepTo_value (w' := W) (by unfold execOp; simp only [s127, hc]; go_simp) (next _ _ (Below.refl _ _) rfl)
                  · have o10 : ρ (.tmp 10) = .pointer (some ⟨gc, 0, none⟩) := hρ.out 10 rfl
                    exact stepTo_value (w' := W) (by unfold execOp; simp only [o10, hc]; go_simp) (next _ _ (Below.refl _ _) rfl)
                  · have g129 : WKFG X cx cc g5 gc bc oc 18 (vs 18) W := hG 18 (haft 18 (by kernel_rfl))
                    have s129 : ρ (.tmp 129) = .pointer (some ⟨gc, 3, none⟩) := (hρ.at_ 129 18 rfl).trans g129
                    exact stepTo_value (w' := W) (by unfold execOp; simp only [s129, hc]; go_simp) (next _ _ (Below.refl _ _) rfl)
                  · have g130 : WKFG X cx cc g5 gc bc oc 19 (vs 19) W := hG 19 (haft 19 (by kernel_rfl))
                    have s130 : ρ (.tmp 130) = .slice (some ⟨bc, oc, none⟩) 1 cc := (hρ.at_ 130 19 rfl).trans g130
                    exact stepTo_value (w' := W) (by unfold execOp; simp only [s130, hc]; go_simp) (next _ _ (Below.refl _ _) rfl)
                  · have g131 : WKFG X cx cc g5 gc bc oc 20 (vs 20) W := hG 20 (haft 20 (by kernel_rfl))
                    have s131 : ρ (.tmp 131) = .pointer (some ⟨bc, oc, none⟩) := (hρ.at_ 131 20 rfl).trans g131
                    exact stepTo_value (w' := W) (by unfold execOp; simp only [s131, hc]; go_simp) (next _ _ (Below.refl _ _) rfl)
                  · refine stepTo_enter (f := 21) (args := #[.int .u64 1, .int .u64 1]) (w' := W) (by unfold execOp; simp only [hfn, ]; go_simp) (((guid_any 1 1 W)).mono ?_)
                    rintro x W' ⟨rfl, hb'⟩
                    exact ⟨_, rfl, next _ _ hb' rfl⟩
                  · have g132 : WKFG X cx cc g5 gc bc oc 21 (vs 21) W := hG 21 (haft 21 (by kernel_rfl))
                    have s132 : ρ (.tmp 132) = .agg #[.int .u64 1, .int .u64 1] := (hρ.at_ 132 21 rfl).trans g132
                    have g133 : WKFG X cx cc g5 gc bc oc 22 (vs 22) W := hG 22 (haft 22 (by kernel_rfl))
                    have s133 : ρ (.tmp 133) = .agg #[.int .u64 1, .int .u64 1] := (hρ.at_ 133 22 rfl).trans g133
                    exact stepTo_value (w' := W) (by unfold execOp; simp only [s132, s133, hc]; go_simp) (next _ _ (Below.refl _ _) rfl)
                  · have g128 : WKFG X cx cc g5 gc bc oc 17 (vs 17) W := hG 17 (haft 17 (by kernel_rfl))
                    have s128 : ρ (.tmp 128) = .bool true := (hρ.at_ 128 17 rfl).trans g128
                    have g134 : WKFG X cx cc g5 gc bc oc 23 (vs 23) W := hG 23 (haft 23 (by kernel_rfl))
                    have s134 : ρ (.tmp 134) = .bool true := (hρ.at_ 134 23 rfl).trans g134
                    exact stepTo_value (w' := W) (by unfold execOp; simp only [s128, s134, hc]; go_simp) (next _ _ (Below.refl _ _) rfl)
                  · have g135 : WKFG X cx cc g5 gc bc oc 24 (vs 24) W := hG 24 (haft 24 (by kernel_rfl))
                    have s135 : ρ (.tmp 135) = .bool true := (hρ.at_ 135 24 rfl).trans g135
                    exact stepTo_value (w' := W) (by unfold execOp; simp only [s135, hc]; go_simp) (next _ _ (Below.refl _ _) rfl)
                  · have o5 : ρ (.tmp 5) = .pointer (some ⟨g5, 0, none⟩) := hρ.out 5 rfl
                    exact stepTo_value (w' := W) (by unfold execOp; simp only [o5, hc]; go_simp) (next _ _ (Below.refl _ _) rfl)
                  · have g137 : WKFG X cx cc g5 gc bc oc 26 (vs 26) W := hG 26 (haft 26 (by kernel_rfl))
                    have s137 : ρ (.tmp 137) = .agg #[.int .u64 1, .int .i64 20, .bool false, .slice X 20 cx] := (hρ.at_ 137 26 rfl).trans g137
                    refine stepTo_enter (f := 17) (args := #[.slice none 0 0, .agg #[.int .u64 1, .int .i64 20, .bool false, .slice X 20 cx]]) (w' := W) (by unfold execOp; simp only [hfn, s137]; go_simp) (((common_is (l := []) (v := .agg #[.int .u64 1, .int .i64 20, .bool false, .slice X 20 cx]) (L := ⟨1, 20, false, kg 20⟩) (n := 0) (by simp [common]) (GdL.none _) ⟨X, cx, rfl, HX10.out.below hb⟩ (by decide) (by rw [kg_len]; decide))).mono ?_)
                    rintro x W' ⟨rfl, hb'⟩
                    exact ⟨_, rfl, next _ _ hb' rfl⟩
                  · have g138 : WKFG X cx cc g5 gc bc oc 27 (vs 27) W := hG 27 (haft 27 (by kernel_rfl))
                    have s138 : ρ (.tmp 138) = .int .i64 0 := (hρ.at_ 138 27 rfl).trans g138
                    exact stepTo_value (w' := W) (by unfold execOp; simp only [s138, hc]; go_simp) (next _ _ (Below.refl _ _) rfl)
                  · have g136 : WKFG X cx cc g5 gc bc oc 25 (vs 25) W := hG 25 (haft 25 (by kernel_rfl))
                    have s136 : ρ (.tmp 136) = .bool true := (hρ.at_ 136 25 rfl).trans g136
                    have g139 : WKFG X cx cc g5 gc bc oc 28 (vs 28) W := hG 28 (haft 28 (by kernel_rfl))
                    have s139 : ρ (.tmp 139) = .bool true := (hρ.at_ 139 28 rfl).trans g139
                    exact stepTo_value (w' := W) (by unfold execOp; simp only [s136, s139, hc]; go_simp) (next _ _ (Below.refl _ _) rfl)
                  · have g140 : WKFG X cx cc g5 gc bc oc 29 (vs 29) W := hG 29 (haft 29 (by kernel_rfl))
                    have s140 : ρ (.tmp 140) = .bool true := (hρ.at_ 140 29 rfl).trans g140
                    exact stepTo_value (w' := W) (by unfold execOp; simp only [s140, hc]; go_simp) (next _ _ (Below.refl _ _) rfl)
                  · have o5 : ρ (.tmp 5) = .pointer (some ⟨g5, 0, none⟩) := hρ.out 5 rfl
                    exact stepTo_value (w' := W) (by unfold execOp; simp only [o5, hc]; go_simp) (next _ _ (Below.refl _ _) rfl)
                  · have g142 : WKFG X cx cc g5 gc bc oc 31 (vs 31) W := hG 31 (haft 31 (by kernel_rfl))
                    have s142 : ρ (.tmp 142) = .agg #[.int .u64 1, .int .i64 20, .bool false, .slice X 20 cx] := (hρ.at_ 142 31 rfl).trans g142
                    refine stepTo_enter (f := 19) (args := #[.slice none 0 0, .agg #[.int .u64 1, .int .i64 20, .bool false, .slice X 20 cx]]) (w' := W) (by unfold execOp; simp only [hfn, s142]; go_simp) (((stays_is (l := []) (v := .agg #[.int .u64 1, .int .i64 20, .bool false, .slice X 20 cx]) (L := ⟨1, 20, false, kg 20⟩) (n := 0) (by decide +kernel) (GdL.none _) ⟨X, cx, rfl, HX10.out.below hb⟩ (by decide) (by rw [kg_len]; decide))).mono ?_)
                    rintro x W' ⟨rfl, hb'⟩
                    exact ⟨_, rfl, next _ _ hb' rfl⟩
                  · have g143 : WKFG X cx cc g5 gc bc oc 32 (vs 32) W := hG 32 (haft 32 (by kernel_rfl))
                    have s143 : ρ (.tmp 143) = .int .i64 0 := (hρ.at_ 143 32 rfl).trans g143
                    exact stepTo_value (w' := W) (by unfold execOp; simp only [s143, hc]; go_simp) (next _ _ (Below.refl _ _) rfl)
                  · have g141 : WKFG X cx cc g5 gc bc oc 30 (vs 30) W := hG 30 (haft 30 (by kernel_rfl))
                    have s141 : ρ (.tmp 141) = .bool true := (hρ.at_ 141 30 rfl).trans g141
                    have g144 : WKFG X cx cc g5 gc bc oc 33 (vs 33) W := hG 33 (haft 33 (by kernel_rfl))
                    have s144 : ρ (.tmp 144) = .bool true := (hρ.at_ 144 33 rfl).trans g144
                    exact stepTo_value (w' := W) (by unfold execOp; simp only [s141, s144, hc]; go_simp) (next _ _ (Below.refl _ _) rfl)
                  · have g145 : WKFG X cx cc g5 gc bc oc 34 (vs 34) W := hG 34 (haft 34 (by kernel_rfl))
                    have s145 : ρ (.tmp 145) = .bool true := (hρ.at_ 145 34 rfl).trans g145
                    exact stepTo_value (w' := W) (by unfold execOp; simp only [s145, hc]; go_simp) (next _ _ (Below.refl _ _) rfl)
                  · refine stepTo_enter (f := 21) (args := #[.int .u64 1, .int .u64 1]) (w' := W) (by unfold execOp; simp only [hfn, ]; go_simp) (((guid_any 1 1 W)).mono ?_)
                    rintro x W' ⟨rfl, hb'⟩
                    exact ⟨_, rfl, next _ _ hb' rfl⟩
                  · have g147 : WKFG X cx cc g5 gc bc oc 36 (vs 36) W := hG 36 (haft 36 (by kernel_rfl))
                    have s147 : ρ (.tmp 147) = .agg #[.int .u64 1, .int .u64 1] := (hρ.at_ 147 36 rfl).trans g147
                    exact stepTo_value (v := .slice (some ⟨W.heap.size, 0, none⟩) 1 1) (w' := W.alloc (.cells #[.int .u64 1, .int .u64 1] 34)) (by unfold execOp; simp only [s147, hc]; go_simp) (next _ _ ((Below.refl _ W).alloc (Nat.le_refl _) _) ⟨W.heap.size, rfl, gd_lit (l := [(1, 1)]) (Blk.new _ _ _) (by simp)⟩)
                  · exact stepTo_value (w' := W) (by unfold execOp; simp only [hc]; go_simp) (next _ _ (Below.refl _ _) rfl)
                  · obtain ⟨a148, g148, hh1481⟩ : WKFG X cx cc g5 gc bc oc 37 (vs 37) W := hG 37 (haft 37 (by kernel_rfl))
                    have s148 : ρ (.tmp 148) = .slice (some ⟨a148, 0, none⟩) 1 1 := (hρ.at_ 148 37 rfl).trans g148
                    have g149 : WKFG X cx cc g5 gc bc oc 38 (vs 38) W := hG 38 (haft 38 (by kernel_rfl))
                    have s149 : ρ (.tmp 149) = .agg #[.int .u64 0, .int .i64 0, .bool false, .slice none 0 0] := (hρ.at_ 149 38 rfl).trans g149
                    refine stepTo_enter (f := 19) (args := #[.slice (some ⟨a148, 0, none⟩) 1 1, .agg #[.int .u64 0, .int .i64 0, .bool false, .slice none 0 0]]) (w' := W) (by unfold execOp; simp only [hfn, s148, s149]; go_simp) (((stays_is (l := [(1, 1)]) (v := .agg #[.int .u64 0, .int .i64 0, .bool false, .slice none 0 0]) (L := ⟨0, 0, false, []⟩) (n := 1) (by decide) hh1481 ⟨none, 0, rfl, GdL.none _⟩ (by decide) (by decide))).mono ?_)
                    rintro x W' ⟨rfl, hb'⟩
                    exact ⟨_, rfl, next _ _ hb' rfl⟩
                  · have g150 : WKFG X cx cc g5 gc bc oc 39 (vs 39) W := hG 39 (haft 39 (by kernel_rfl))
                    have s150 : ρ (.tmp 150) = .int .i64 1 := (hρ.at_ 150 39 rfl).trans g150
                    exact stepTo_value (w' := W) (by unfold execOp; simp only [s150, hc]; go_simp) (next _ _ (Below.refl _ _) rfl)
                  · have g146 : WKFG X cx cc g5 gc bc oc 35 (vs 35) W := hG 35 (haft 35 (by kernel_rfl))
                    have s146 : ρ (.tmp 146) = .bool true := (hρ.at_ 146 35 rfl).trans g146
                    have g151 : WKFG X cx cc g5 gc bc oc 40 (vs 40) W := hG 40 (haft 40 (by kernel_rfl))
                    have s151 : ρ (.tmp 151) = .bool true := (hρ.at_ 151 40 rfl).trans g151
                    exact stepTo_value (w' := W) (by unfold execOp; simp only [s146, s151, hc]; go_simp) (next _ _ (Below.refl _ _) rfl)
                  · have g152 : WKFG X cx cc g5 gc bc oc 41 (vs 41) W := hG 41 (haft 41 (by kernel_rfl))
                    have s152 : ρ (.tmp 152) = .bool true := (hρ.at_ 152 41 rfl).trans g152
                    exact stepTo_value (w' := W) (by unfold execOp; simp only [s152, hc]; go_simp) (next _ _ (Below.refl _ _) rfl)
                  · refine stepTo_enter (f := 21) (args := #[.int .u64 0, .int .u64 1]) (w' := W) (by unfold execOp; simp only [hfn, ]; go_simp) (((guid_any 0 1 W)).mono ?_)
                    rintro x W' ⟨rfl, hb'⟩
                    exact ⟨_, rfl, next _ _ hb' rfl⟩
                  · have g154 : WKFG X cx cc g5 gc bc oc 43 (vs 43) W := hG 43 (haft 43 (by kernel_rfl))
                    have s154 : ρ (.tmp 154) = .agg #[.int .u64 0, .int .u64 1] := (hρ.at_ 154 43 rfl).trans g154
                    exact stepTo_value (v := .slice (some ⟨W.heap.size, 0, none⟩) 1 1) (w' := W.alloc (.cells #[.int .u64 0, .int .u64 1] 34)) (by unfold execOp; simp only [s154, hc]; go_simp) (next _ _ ((Below.refl _ W).alloc (Nat.le_refl _) _) ⟨W.heap.size, rfl, gd_lit (l := [(0, 1)]) (Blk.new _ _ _) (by simp)⟩)
                  · exact stepTo_value (w' := W) (by unfold execOp; simp only [hc]; go_simp) (next _ _ (Below.refl _ _) rfl)
                  · obtain ⟨a155, g155, hh1551⟩ : WKFG X cx cc g5 gc bc oc 44 (vs 44) W := hG 44 (haft 44 (by kernel_rfl))
                    have s155 : ρ (.tmp 155) = .slice (some ⟨a155, 0, none⟩) 1 1 := (hρ.at_ 155 44 rfl).trans g155
                    have g156 : WKFG X cx cc g5 gc bc oc 45 (vs 45) W := hG 45 (haft 45 (by kernel_rfl))
                    have s156 : ρ (.tmp 156) = .agg #[.int .u64 1, .int .i64 0, .bool false, .slice none 0 0] := (hρ.at_ 156 45 rfl).trans g156
                    refine stepTo_enter (f := 19) (args := #[.slice (some ⟨a155, 0, none⟩) 1 1, .agg #[.int .u64 1, .int .i64 0, .bool false, .slice none 0 0]]) (w' := W) (by unfold execOp; simp only [hfn, s155, s156]; go_simp) (((stays_is (l := [(0, 1)]) (v := .agg #[.int .u64 1, .int .i64 0, .bool false, .slice none 0 0]) (L := ⟨1, 0, false, []⟩) (n := 0) (by decide) hh1551 ⟨none, 0, rfl, GdL.none _⟩ (by decide) (by decide))).mono ?_)
                    rintro x W' ⟨rfl, hb'⟩
                    exact ⟨_, rfl, next _ _ hb' rfl⟩
                  · have g157 : WKFG X cx cc g5 gc bc oc 46 (vs 46) W := hG 46 (haft 46 (by kernel_rfl))
                    have s157 : ρ (.tmp 157) = .int .i64 0 := (hρ.at_ 157 46 rfl).trans g157
                    exact stepTo_value (w' := W) (by unfold execOp; simp only [s157, hc]; go_simp) (next _ _ (Below.refl _ _) rfl)
                  · have g153 : WKFG X cx cc g5 gc bc oc 42 (vs 42) W := hG 42 (haft 42 (by kernel_rfl))
                    have s153 : ρ (.tmp 153) = .bool true := (hρ.at_ 153 42 rfl).trans g153
                    have g158 : WKFG X cx cc g5 gc bc oc 47 (vs 47) W := hG 47 (haft 47 (by kernel_rfl))
                    have s158 : ρ (.tmp 158) = .bool true := (hρ.at_ 158 47 rfl).trans g158
                    exact stepTo_value (w' := W) (by unfold execOp; simp only [s153, s158, hc]; go_simp) (next _ _ (Below.refl _ _) rfl)
                  · have g159 : WKFG X cx cc g5 gc bc oc 48 (vs 48) W := hG 48 (haft 48 (by kernel_rfl))
                    have s159 : ρ (.tmp 159) = .bool true := (hρ.at_ 159 48 rfl).trans g159
                    exact stepTo_value (w' := W) (by unfold execOp; simp only [s159, hc]; go_simp) (next _ _ (Below.refl _ _) rfl)
                  · exact stepTo_value (w' := W) (by unfold execOp; simp only [hc]; go_simp) (next _ _ (Below.refl _ _) rfl)
                  · exact stepTo_value (w' := W) (by unfold execOp; simp only [hc]; go_simp) (next _ _ (Below.refl _ _) rfl)
                  · have g161 : WKFG X cx cc g5 gc bc oc 50 (vs 50) W := hG 50 (haft 50 (by kernel_rfl))
                    have s161 : ρ (.tmp 161) = .agg #[.int .u64 0, .int .i64 1, .bool false, .slice none 0 0] := (hρ.at_ 161 50 rfl).trans g161
                    have g162 : WKFG X cx cc g5 gc bc oc 51 (vs 51) W := hG 51 (haft 51 (by kernel_rfl))
                    have s162 : ρ (.tmp 162) = .agg #[.int .u64 0, .int .i64 0, .bool false, .slice none 0 0] := (hρ.at_ 162 51 rfl).trans g162
                    refine stepTo_enter (f := 12) (args := #[.agg #[.int .u64 0, .int .i64 1, .bool false, .slice none 0 0], .agg #[.int .u64 0, .int .i64 0, .bool false, .slice none 0 0]]) (w' := W) (by unfold execOp; simp only [hfn, s161, s162]; go_simp) (((same_is (v := .agg #[.int .u64 0, .int .i64 1, .bool false, .slice none 0 0]) (u := .agg #[.int .u64 0, .int .i64 0, .bool false, .slice none 0 0]) (L := ⟨0, 1, false, []⟩) (M := ⟨0, 0, false, []⟩) (r := false) (by decide) ⟨none, 0, rfl, GdL.none _⟩ ⟨none, 0, rfl, GdL.none _⟩ (by decide) (by decide))).mono ?_)
                    rintro x W' ⟨rfl, hb'⟩
                    exact ⟨_, rfl, next _ _ hb' rfl⟩
                  · have g163 : WKFG X cx cc g5 gc bc oc 52 (vs 52) W := hG 52 (haft 52 (by kernel_rfl))
                    have s163 : ρ (.tmp 163) = .bool false := (hρ.at_ 163 52 rfl).trans g163
                    exact stepTo_value (w' := W) (by unfold execOp; simp only [s163, hc]; go_simp) (next _ _ (Below.refl _ _) rfl)
                  · have g160 : WKFG X cx cc g5 gc bc oc 49 (vs 49) W := hG 49 (haft 49 (by kernel_rfl))
                    have s160 : ρ (.tmp 160) = .bool true := (hρ.at_ 160 49 rfl).trans g160
                    have g164 : WKFG X cx cc g5 gc bc oc 53 (vs 53) W := hG 53 (haft 53 (by kernel_rfl))
                    have s164 : ρ (.tmp 164) = .bool true := (hρ.at_ 164 53 rfl).trans g164
                    exact stepTo_value (w' := W) (by unfold execOp; simp only [s160, s164, hc]; go_simp) (next _ _ (Below.refl _ _) rfl)
                  · have g165 : WKFG X cx cc g5 gc bc oc 54 (vs 54) W := hG 54 (haft 54 (by kernel_rfl))
                    have s165 : ρ (.tmp 165) = .bool true := (hρ.at_ 165 54 rfl).trans g165
                    exact stepTo_value (w' := W) (by unfold execOp; simp only [s165, hc]; go_simp) (next _ _ (Below.refl _ _) rfl)
                  · exact stepTo_value (w' := W) (by unfold execOp; simp only [hc]; go_simp) (next _ _ (Below.refl _ _) rfl)
                  · exact stepTo_value (w' := W) (by unfold execOp; simp only [hc]; go_simp) (next _ _ (Below.refl _ _) rfl)
                  · have g167 : WKFG X cx cc g5 gc bc oc 56 (vs 56) W := hG 56 (haft 56 (by kernel_rfl))
                    have s167 : ρ (.tmp 167) = .agg #[.int .u64 0, .int .i64 0, .bool true, .slice none 0 0] := (hρ.at_ 167 56 rfl).trans g167
                    have g168 : WKFG X cx cc g5 gc bc oc 57 (vs 57) W := hG 57 (haft 57 (by kernel_rfl))
                    have s168 : ρ (.tmp 168) = .agg #[.int .u64 0, .int .i64 0, .bool false, .slice none 0 0] := (hρ.at_ 168 57 rfl).trans g168
                    refine stepTo_enter (f := 12) (args := #[.agg #[.int .u64 0, .int .i64 0, .bool true, .slice none 0 0], .agg #[.int .u64 0, .int .i64 0, .bool false, .slice none 0 0]]) (w' := W) (by unfold execOp; simp only [hfn, s167, s168]; go_simp) (((same_is (v := .agg #[.int .u64 0, .int .i64 0, .bool true, .slice none 0 0]) (u := .agg #[.int .u64 0, .int .i64 0, .bool false, .slice none 0 0]) (L := ⟨0, 0, true, []⟩) (M := ⟨0, 0, false, []⟩) (r := false) (by decide) ⟨none, 0, rfl, GdL.none _⟩ ⟨none, 0, rfl, GdL.none _⟩ (by decide) (by decide))).mono ?_)
                    rintro x W' ⟨rfl, hb'⟩
                    exact ⟨_, rfl, next _ _ hb' rfl⟩
                  · have g169 : WKFG X cx cc g5 gc bc oc 58 (vs 58) W := hG 58 (haft 58 (by kernel_rfl))
                    have s169 : ρ (.tmp 169) = .bool false := (hρ.at_ 169 58 rfl).trans g169
                    exact stepTo_value (w' := W) (by unfold execOp; simp only [s169, hc]; go_simp) (next _ _ (Below.refl _ _) rfl)
                  · have g166 : WKFG X cx cc g5 gc bc oc 55 (vs 55) W := hG 55 (haft 55 (by kernel_rfl))
                    have s166 : ρ (.tmp 166) = .bool true := (hρ.at_ 166 55 rfl).trans g166
                    have g170 : WKFG X cx cc g5 gc bc oc 59 (vs 59) W := hG 59 (haft 59 (by kernel_rfl))
                    have s170 : ρ (.tmp 170) = .bool true := (hρ.at_ 170 59 rfl).trans g170
                    exact stepTo_value (w' := W) (by unfold execOp; simp only [s166, s170, hc]; go_simp) (next _ _ (Below.refl _ _) rfl)
                  · have g171 : WKFG X cx cc g5 gc bc oc 60 (vs 60) W := hG 60 (haft 60 (by kernel_rfl))
                    have s171 : ρ (.tmp 171) = .bool true := (hρ.at_ 171 60 rfl).trans g171
                    exact stepTo_value (w' := W) (by unfold execOp; simp only [s171, hc]; go_simp) (next _ _ (Below.refl _ _) rfl)
                  · refine stepTo_enter (f := 21) (args := #[.int .u64 1, .int .u64 1]) (w' := W) (by unfold execOp; simp only [hfn, ]; go_simp) (((guid_any 1 1 W)).mono ?_)
                    rintro x W' ⟨rfl, hb'⟩
                    exact ⟨_, rfl, next _ _ hb' rfl⟩
                  · have g173 : WKFG X cx cc g5 gc bc oc 62 (vs 62) W := hG 62 (haft 62 (by kernel_rfl))
                    have s173 : ρ (.tmp 173) = .agg #[.int .u64 1, .int .u64 1] := (hρ.at_ 173 62 rfl).trans g173
                    exact stepTo_value (v := .slice (some ⟨W.heap.size, 0, none⟩) 1 1) (w' := W.alloc (.cells #[.int .u64 1, .int .u64 1] 34)) (by unfold execOp; simp only [s173, hc]; go_simp) (next _ _ ((Below.refl _ W).alloc (Nat.le_refl _) _) ⟨W.heap.size, rfl, gd_lit (l := [(1, 1)]) (Blk.new _ _ _) (by simp)⟩)
                  · obtain ⟨a174, g174, hh1741⟩ : WKFG X cx cc g5 gc bc oc 63 (vs 63) W := hG 63 (haft 63 (by kernel_rfl))
                    have s174 : ρ (.tmp 174) = .slice (some ⟨a174, 0, none⟩) 1 1 := (hρ.at_ 174 63 rfl).trans g174
                    refine stepTo_enter (f := 22) (args := #[.int .u64 1, .bool false, .slice (some ⟨a174, 0, none⟩) 1 1]) (w' := W) (by unfold execOp; simp only [hfn, s174]; go_simp) (((of_any 1 false (some ⟨a174, 0, none⟩) 1 1 W)).mono ?_)
                    rintro x W' ⟨rfl, hb'⟩
                    exact ⟨_, rfl, next _ _ hb' ⟨a174, rfl, hh1741.below hb'⟩⟩
                  · refine stepTo_enter (f := 21) (args := #[.int .u64 1, .int .u64 2]) (w' := W) (by unfold execOp; simp only [hfn, ]; go_simp) (((guid_any 1 2 W)).mono ?_)
                    rintro x W' ⟨rfl, hb'⟩
                    exact ⟨_, rfl, next _ _ hb' rfl⟩
                  · have g176 : WKFG X cx cc g5 gc bc oc 65 (vs 65) W := hG 65 (haft 65 (by kernel_rfl))
                    have s176 : ρ (.tmp 176) = .agg #[.int .u64 1, .int .u64 2] := (hρ.at_ 176 65 rfl).trans g176
                    exact stepTo_value (v := .slice (some ⟨W.heap.size, 0, none⟩) 1 1) (w' := W.alloc (.cells #[.int .u64 1, .int .u64 2] 34)) (by unfold execOp; simp only [s176, hc]; go_simp) (next _ _ ((Below.refl _ W).alloc (Nat.le_refl _) _) ⟨W.heap.size, rfl, gd_lit (l := [(1, 2)]) (Blk.new _ _ _) (by simp)⟩)
                  · obtain ⟨a177, g177, hh1771⟩ : WKFG X cx cc g5 gc bc oc 66 (vs 66) W := hG 66 (haft 66 (by kernel_rfl))
                    have s177 : ρ (.tmp 177) = .slice (some ⟨a177, 0, none⟩) 1 1 := (hρ.at_ 177 66 rfl).trans g177
                    refine stepTo_enter (f := 22) (args := #[.int .u64 1, .bool false, .slice (some ⟨a177, 0, none⟩) 1 1]) (w' := W) (by unfold execOp; simp only [hfn, s177]; go_simp) (((of_any 1 false (some ⟨a177, 0, none⟩) 1 1 W)).mono ?_)
                    rintro x W' ⟨rfl, hb'⟩
                    exact ⟨_, rfl, next _ _ hb' ⟨a177, rfl, hh1771.below hb'⟩⟩
                  · obtain ⟨a175, g175, hh1751⟩ : WKFG X cx cc g5 gc bc oc 64 (vs 64) W := hG 64 (haft 64 (by kernel_rfl))
                    have s175 : ρ (.tmp 175) = .agg #[.int .u64 1, .int .i64 0, .bool false, .slice (some ⟨a175, 0, none⟩) 1 1] := (hρ.at_ 175 64 rfl).trans g175
                    obtain ⟨a178, g178, hh1781⟩ : WKFG X cx cc g5 gc bc oc 67 (vs 67) W := hG 67 (haft 67 (by kernel_rfl))
                    have s178 : ρ (.tmp 178) = .agg #[.int .u64 1, .int .i64 0, .bool false, .slice (some ⟨a178, 0, none⟩) 1 1] := (hρ.at_ 178 67 rfl).trans g178
                    refine stepTo_enter (f := 12) (args := #[.agg #[.int .u64 1, .int .i64 0, .bool false, .slice (some ⟨a175, 0, none⟩) 1 1], .agg #[.int .u64 1, .int .i64 0, .bool false, .slice (some ⟨a178, 0, none⟩) 1 1]]) (w' := W) (by unfold execOp; simp only [hfn, s175, s178]; go_simp) (((same_is (v := .agg #[.int .u64 1, .int .i64 0, .bool false, .slice (some ⟨a175, 0, none⟩) 1 1]) (u := .agg #[.int .u64 1, .int .i64 0, .bool false, .slice (some ⟨a178, 0, none⟩) 1 1]) (L := ⟨1, 0, false, [(1, 1)]⟩) (M := ⟨1, 0, false, [(1, 2)]⟩) (r := false) (by decide) ⟨(some ⟨a175, 0, none⟩), 1, rfl, hh1751⟩ ⟨(some ⟨a178, 0, none⟩), 1, rfl, hh1781⟩ (by decide) (by decide))).mono ?_)
                    rintro x W' ⟨rfl, hb'⟩
                    exact ⟨_, rfl, next _ _ hb' rfl⟩
                  · have g179 : WKFG X cx cc g5 gc bc oc 68 (vs 68) W := hG 68 (haft 68 (by kernel_rfl))
                    have s179 : ρ (.tmp 179) = .bool false := (hρ.at_ 179 68 rfl).trans g179
                    exact stepTo_value (w' := W) (by unfold execOp; simp only [s179, hc]; go_simp) (next _ _ (Below.refl _ _) rfl)
                  · have g172 : WKFG X cx cc g5 gc bc oc 61 (vs 61) W := hG 61 (haft 61 (by kernel_rfl))
                    have s172 : ρ (.tmp 172) = .bool true := (hρ.at_ 172 61 rfl).trans g172
                    have g180 : WKFG X cx cc g5 gc bc oc 69 (vs 69) W := hG 69 (haft 69 (by kernel_rfl))
                    have s180 : ρ (.tmp 180) = .bool true := (hρ.at_ 180 69 rfl).trans g180
                    exact stepTo_value (w' := W) (by unfold execOp; simp only [s172, s180, hc]; go_simp) (next _ _ (Below.refl _ _) rfl)
                  · have g181 : WKFG X cx cc g5 gc bc oc 70 (vs 70) W := hG 70 (haft 70 (by kernel_rfl))
                    have s181 : ρ (.tmp 181) = .bool true := (hρ.at_ 181 70 rfl).trans g181
                    exact stepTo_value (w' := W) (by unfold execOp; simp only [s181, hc]; go_simp) (next _ _ (Below.refl _ _) rfl)
                  · exact stepTo_value (v := .slice (some ⟨W.heap.size, 0, none⟩) 0 0) (w' := W.alloc (.cells #[] 34)) (by unfold execOp; simp only [hc]; go_simp) (next _ _ ((Below.refl _ W).alloc (Nat.le_refl _) _) ⟨W.heap.size, rfl, gd_lit (l := []) (Blk.new _ _ _) (by simp)⟩)
                  · obtain ⟨a183, g183, hh1831⟩ : WKFG X cx cc g5 gc bc oc 72 (vs 72) W := hG 72 (haft 72 (by kernel_rfl))
                    have s183 : ρ (.tmp 183) = .slice (some ⟨a183, 0, none⟩) 0 0 := (hρ.at_ 183 72 rfl).trans g183
                    exact stepTo_value (v := .agg #[.int .u64 0, .int .i64 0, .bool false, .slice (some ⟨a183, 0, none⟩) 0 0]) (w' := W) (by unfold execOp; simp only [s183, hc]; go_simp) (next _ _ (Below.refl _ _) ⟨a183, rfl, hh1831⟩)
                  · exact stepTo_value (w' := W) (by unfold execOp; simp only [hc]; go_simp) (next _ _ (Below.refl _ _) rfl)
                  · obtain ⟨a184, g184, hh1841⟩ : WKFG X cx cc g5 gc bc oc 73 (vs 73) W := hG 73 (haft 73 (by kernel_rfl))
                    have s184 : ρ (.tmp 184) = .agg #[.int .u64 0, .int .i64 0, .bool false, .slice (some ⟨a184, 0, none⟩) 0 0] := (hρ.at_ 184 73 rfl).trans g184
                    have g185 : WKFG X cx cc g5 gc bc oc 74 (vs 74) W := hG 74 (haft 74 (by kernel_rfl))
                    have s185 : ρ (.tmp 185) = .agg #[.int .u64 0, .int .i64 0, .bool false, .slice none 0 0] := (hρ.at_ 185 74 rfl).trans g185
                    refine stepTo_enter (f := 12) (args := #[.agg #[.int .u64 0, .int .i64 0, .bool false, .slice (some ⟨a184, 0, none⟩) 0 0], .agg #[.int .u64 0, .int .i64 0, .bool false, .slice none 0 0]]) (w' := W) (by unfold execOp; simp only [hfn, s184, s185]; go_simp) (((same_is (v := .agg #[.int .u64 0, .int .i64 0, .bool false, .slice (some ⟨a184, 0, none⟩) 0 0]) (u := .agg #[.int .u64 0, .int .i64 0, .bool false, .slice none 0 0]) (L := ⟨0, 0, false, []⟩) (M := ⟨0, 0, false, []⟩) (r := true) (by decide) ⟨(some ⟨a184, 0, none⟩), 0, rfl, hh1841⟩ ⟨none, 0, rfl, GdL.none _⟩ (by decide) (by decide))).mono ?_)
                    rintro x W' ⟨rfl, hb'⟩
                    exact ⟨_, rfl, next _ _ hb' rfl⟩
                  · have g182 : WKFG X cx cc g5 gc bc oc 71 (vs 71) W := hG 71 (haft 71 (by kernel_rfl))
                    have s182 : ρ (.tmp 182) = .bool true := (hρ.at_ 182 71 rfl).trans g182
                    have g186 : WKFG X cx cc g5 gc bc oc 75 (vs 75) W := hG 75 (haft 75 (by kernel_rfl))
                    have s186 : ρ (.tmp 186) = .bool true := (hρ.at_ 186 75 rfl).trans g186
                    exact stepTo_value (w' := W) (by unfold execOp; simp only [s182, s186, hc]; go_simp) (next _ _ (Below.refl _ _) rfl)
                  · have g187 : WKFG X cx cc g5 gc bc oc 76 (vs 76) W := hG 76 (haft 76 (by kernel_rfl))
                    have s187 : ρ (.tmp 187) = .bool true := (hρ.at_ 187 76 rfl).trans g187
                    exact stepTo_value (w' := W) (by unfold execOp; simp only [s187, hc]; go_simp) (next _ _ (Below.refl _ _) rfl)
                · intro i o L vs W j want ho hli haft hg hv hI
                  obtain ⟨hb, hG'⟩ := hI
                  have hG : ∀ j, L j = true → WKFG X cx cc g5 gc bc oc j (vs j) W := fun j hj => by
                    by_cases h51 : j < 78
                    · exact hG' j hj h51
                    · match j, h51 with
                      | j + 78, _ => exact trivial
                  have hi51 : i < 78 := (Array.getElem?_eq_some_iff.1 ho).1
                  simp only [List.append_eq, List.cons_append, List.nil_append] at ho
                  rcases i with _ | _ | _ | _ | _ | _ | _ | _ | _ | _ | _ | _ | _ | _ | _ | _ | _ | _ | _ | _ | _ | _ | _ | _ | _ | _ | _ | _ | _ | _ | _ | _ | _ | _ | _ | _ | _ | _ | _ | _ | _ | _ | _ | _ | _ | _ | _ | _ | _ | _ | _ | _ | _ | _ | _ | _ | _ | _ | _ | _ | _ | _ | _ | _ | _ | _ | _ | _ | _ | _ | _ | _ | _ | _ | _ | _ | _ | _ | i
                  all_goals (first | omega | skip)
                  all_goals simp only [List.getElem?_toArray, List.getElem?_cons_zero, List.getElem?_cons_succ, Option.some.injEq] at ho
                  all_goals subst ho
                  all_goals simp only [reduceCtorEq, Option.some.injEq, Prod.mk.injEq] at hg
                  · obtain ⟨rfl, rfl⟩ := hg
                    exact (hv (hG 0 (haft 0 (by kernel_rfl)))).elim
                  · obtain ⟨rfl, rfl⟩ := hg
                    exact (hv (hG 3 (haft 3 (by kernel_rfl)))).elim
                  · obtain ⟨rfl, rfl⟩ := hg
                    exact (hv (hG 3 (haft 3 (by kernel_rfl)))).elim
                  · obtain ⟨rfl, rfl⟩ := hg
                    exact (hv (hG 7 (haft 7 (by kernel_rfl)))).elim
                  · obtain ⟨rfl, rfl⟩ := hg
                    exact (hv (hG 7 (haft 7 (by kernel_rfl)))).elim
                  · obtain ⟨rfl, rfl⟩ := hg
                    exact (hv (hG 11 (haft 11 (by kernel_rfl)))).elim
                  · obtain ⟨rfl, rfl⟩ := hg
                    exact (hv (hG 11 (haft 11 (by kernel_rfl)))).elim
                  · obtain ⟨rfl, rfl⟩ := hg
                    exact (hv (hG 11 (haft 11 (by kernel_rfl)))).elim
                  · obtain ⟨rfl, rfl⟩ := hg
                    exact (hv (hG 11 (haft 11 (by kernel_rfl)))).elim
                  · obtain ⟨rfl, rfl⟩ := hg
                    exact (hv (hG 17 (haft 17 (by kernel_rfl)))).elim
                  · obtain ⟨rfl, rfl⟩ := hg
                    exact (hv (hG 17 (haft 17 (by kernel_rfl)))).elim
                  · obtain ⟨rfl, rfl⟩ := hg
                    exact (hv (hG 17 (haft 17 (by kernel_rfl)))).elim
                  · obtain ⟨rfl, rfl⟩ := hg
                    exact (hv (hG 17 (haft 17 (by kernel_rfl)))).elim
                  · obtain ⟨rfl, rfl⟩ := hg
                    exact (hv (hG 17 (haft 17 (by kernel_rfl)))).elim
                  · obtain ⟨rfl, rfl⟩ := hg
                    exact (hv (hG 17 (haft 17 (by kernel_rfl)))).elim
                  · obtain ⟨rfl, rfl⟩ := hg
                    exact (hv (hG 25 (haft 25 (by kernel_rfl)))).elim
                  · obtain ⟨rfl, rfl⟩ := hg
                    exact (hv (hG 25 (haft 25 (by kernel_rfl)))).elim
                  · obtain ⟨rfl, rfl⟩ := hg
                    exact (hv (hG 25 (haft 25 (by kernel_rfl)))).elim
                  · obtain ⟨rfl, rfl⟩ := hg
                    exact (hv (hG 30 (haft 30 (by kernel_rfl)))).elim
                  · obtain ⟨rfl, rfl⟩ := hg
                    exact (hv (hG 30 (haft 30 (by kernel_rfl)))).elim
                  · obtain ⟨rfl, rfl⟩ := hg
                    exact (hv (hG 30 (haft 30 (by kernel_rfl)))).elim
                  · obtain ⟨rfl, rfl⟩ := hg
                    exact (hv (hG 35 (haft 35 (by kernel_rfl)))).elim
                  · obtain ⟨rfl, rfl⟩ := hg
                    exact (hv (hG 35 (haft 35 (by kernel_rfl)))).elim
                  · obtain ⟨rfl, rfl⟩ := hg
                    exact (hv (hG 35 (haft 35 (by kernel_rfl)))).elim
                  · obtain ⟨rfl, rfl⟩ := hg
                    exact (hv (hG 35 (haft 35 (by kernel_rfl)))).elim
                  · obtain ⟨rfl, rfl⟩ := hg
                    exact (hv (hG 35 (haft 35 (by kernel_rfl)))).elim
                  · obtain ⟨rfl, rfl⟩ := hg
                    exact (hv (hG 42 (haft 42 (by kernel_rfl)))).elim
                  · obtain ⟨rfl, rfl⟩ := hg
                    exact (hv (hG 42 (haft 42 (by kernel_rfl)))).elim
                  · obtain ⟨rfl, rfl⟩ := hg
                    exact (hv (hG 42 (haft 42 (by kernel_rfl)))).elim
                  · obtain ⟨rfl, rfl⟩ := hg
                    exact (hv (hG 42 (haft 42 (by kernel_rfl)))).elim
                  · obtain ⟨rfl, rfl⟩ := hg
                    exact (hv (hG 42 (haft 42 (by kernel_rfl)))).elim
                  · obtain ⟨rfl, rfl⟩ := hg
                    exact (hv (hG 49 (haft 49 (by kernel_rfl)))).elim
                  · obtain ⟨rfl, rfl⟩ := hg
                    exact (hv (hG 49 (haft 49 (by kernel_rfl)))).elim
                  · obtain ⟨rfl, rfl⟩ := hg
                    exact (hv (hG 49 (haft 49 (by kernel_rfl)))).elim
                  · obtain ⟨rfl, rfl⟩ := hg
                    exact (hv (hG 49 (haft 49 (by kernel_rfl)))).elim
                  · obtain ⟨rfl, rfl⟩ := hg
                    exact (hv (hG 55 (haft 55 (by kernel_rfl)))).elim
                  · obtain ⟨rfl, rfl⟩ := hg
                    exact (hv (hG 55 (haft 55 (by kernel_rfl)))).elim
                  · obtain ⟨rfl, rfl⟩ := hg
                    exact (hv (hG 55 (haft 55 (by kernel_rfl)))).elim
                  · obtain ⟨rfl, rfl⟩ := hg
                    exact (hv (hG 55 (haft 55 (by kernel_rfl)))).elim
                  · obtain ⟨rfl, rfl⟩ := hg
                    exact (hv (hG 61 (haft 61 (by kernel_rfl)))).elim
                  · obtain ⟨rfl, rfl⟩ := hg
                    exact (hv (hG 61 (haft 61 (by kernel_rfl)))).elim
                  · obtain ⟨rfl, rfl⟩ := hg
                    exact (hv (hG 61 (haft 61 (by kernel_rfl)))).elim
                  · obtain ⟨rfl, rfl⟩ := hg
                    exact (hv (hG 61 (haft 61 (by kernel_rfl)))).elim
                  · obtain ⟨rfl, rfl⟩ := hg
                    exact (hv (hG 61 (haft 61 (by kernel_rfl)))).elim
                  · obtain ⟨rfl, rfl⟩ := hg
                    exact (hv (hG 61 (haft 61 (by kernel_rfl)))).elim
                  · obtain ⟨rfl, rfl⟩ := hg
                    exact (hv (hG 61 (haft 61 (by kernel_rfl)))).elim
                  · obtain ⟨rfl, rfl⟩ := hg
                    exact (hv (hG 61 (haft 61 (by kernel_rfl)))).elim
                  · obtain ⟨rfl, rfl⟩ := hg
                    exact (hv (hG 71 (haft 71 (by kernel_rfl)))).elim
                  · obtain ⟨rfl, rfl⟩ := hg
                    exact (hv (hG 71 (haft 71 (by kernel_rfl)))).elim
                  · obtain ⟨rfl, rfl⟩ := hg
                    exact (hv (hG 71 (haft 71 (by kernel_rfl)))).elim
                  · obtain ⟨rfl, rfl⟩ := hg
                    exact (hv (hG 71 (haft 71 (by kernel_rfl)))).elim
                intro vs V11 hI
                obtain ⟨hb, hG⟩ := hI
                have h77 : vs 77 = .bool true := hG 77 (by kernel_rfl) (by decide)
                have HB11 := Lib.hid (below_step HB10.out hb)
                clear hb hG
                simp only [putList, putSel, if_true]
                rw [h77]
                generalize vs 0 = yz0
                generalize vs 1 = yz1
                generalize vs 2 = yz2
                generalize vs 3 = yz3
                generalize vs 4 = yz4
                generalize vs 5 = yz5
                generalize vs 6 = yz6
                generalize vs 7 = yz7
                generalize vs 8 = yz8
                generalize vs 9 = yz9
                generalize vs 10 = yz10
                generalize vs 11 = yz11
                generalize vs 12 = yz12
                generalize vs 13 = yz13
                generalize vs 14 = yz14
                generalize vs 15 = yz15
                generalize vs 16 = yz16
                generalize vs 17 = yz17
                generalize vs 18 = yz18
                generalize vs 19 = yz19
                generalize vs 20 = yz20
                generalize vs 21 = yz21
                generalize vs 22 = yz22
                generalize vs 23 = yz23
                generalize vs 24 = yz24
                generalize vs 25 = yz25
                generalize vs 26 = yz26
                generalize vs 27 = yz27
                generalize vs 28 = yz28
                generalize vs 29 = yz29
                generalize vs 30 = yz30
                generalize vs 31 = yz31
                generalize vs 32 = yz32
                generalize vs 33 = yz33
                generalize vs 34 = yz34
                generalize vs 35 = yz35
                generalize vs 36 = yz36
                generalize vs 37 = yz37
                generalize vs 38 = yz38
                generalize vs 39 = yz39
                generalize vs 40 = yz40
                generalize vs 41 = yz41
                generalize vs 42 = yz42
                generalize vs 43 = yz43
                generalize vs 44 = yz44
                generalize vs 45 = yz45
                generalize vs 46 = yz46
                generalize vs 47 = yz47
                generalize vs 48 = yz48
                generalize vs 49 = yz49
                generalize vs 50 = yz50
                generalize vs 51 = yz51
                generalize vs 52 = yz52
                generalize vs 53 = yz53
                generalize vs 54 = yz54
                generalize vs 55 = yz55
                generalize vs 56 = yz56
                generalize vs 57 = yz57
                generalize vs 58 = yz58
                generalize vs 59 = yz59
                generalize vs 60 = yz60
                generalize vs 61 = yz61
                generalize vs 62 = yz62
                generalize vs 63 = yz63
                generalize vs 64 = yz64
                generalize vs 65 = yz65
                generalize vs 66 = yz66
                generalize vs 67 = yz67
                generalize vs 68 = yz68
                generalize vs 69 = yz69
                generalize vs 70 = yz70
                generalize vs 71 = yz71
                generalize vs 72 = yz72
                generalize vs 73 = yz73
                generalize vs 74 = yz74
                generalize vs 75 = yz75
                generalize vs 76 = yz76
                clear h77
                simp only [Act.put, List.setIfInBounds_toArray, List.set_cons_succ, List.set_cons_zero]
                go_wp2_with fail
                go_ret
                exact ⟨rfl, HB11.out⟩
end Go.Proofs.Ytbbgeccbdellmaa.ln


/- LnWorks. -/
import Derived.Test.YtbbgeccbdellmaaQ2
import Derived.Test.YtbbgeccbdellmaaQ4
set_option linter.unusedVariables false
set_option linter.unusedSimpArgs false
/- The chapter's rows: the statements' works. -/
namespace Go.Proofs.Ytbbgeccbdellmaa.ln
open Go Go.RowKit Go.Sort Go.Proofs.Ytbbgeccbdellmaa Go.Proofs.Ytbbgeccbdellmaa.ib Go.Proofs.Ytbbgeccbdellmaa.lg
set_option maxRecDepth 100000

def WkxG (B0 : Nat) : Nat → Value → World → Prop
  | 0, v, _ => v = .agg #[.int .u64 1, .int .u64 1]
  | 1, v, W => ∃ a, v = .slice (some ⟨a, 0, none⟩) 1 1 ∧ GdL W (some ⟨a, 0, none⟩) [(1, 1)] 1
  | 2, v, W => ∃ a, v = .agg #[.int .u64 2, .int .i64 0, .bool false, .slice (some ⟨a, 0, none⟩) 1 1] ∧ GdL W (some ⟨a, 0, none⟩) [(1, 1)] 1
  | 3, v, _ => v = .agg #[.int .u64 1, .int .u64 1]
  | 4, v, W => ∃ a, v = .slice (some ⟨a, 0, none⟩) 1 1 ∧ GdL W (some ⟨a, 0, none⟩) [(1, 1)] 1
  | 5, v, W => ∃ a, v = .agg #[.int .u64 3, .int .i64 0, .bool false, .slice (some ⟨a, 0, none⟩) 1 1] ∧ GdL W (some ⟨a, 0, none⟩) [(1, 1)] 1
  | 6, v, W => ∃ A c, v = .agg #[.int .u64 3, .int .i64 0, .bool false, .slice A 1 c] ∧ OGd W 0 (.slice A 1 c) [(1, 1)]
  | 7, v, W => ∃ g, v = .pointer (some ⟨g, 0, none⟩) ∧ B0 ≤ g ∧ Blk W g 25 #[.int .u64 0, .int .i64 0, .bool false, .slice none 0 0]
  | _, _, _ => True
theorem WkxG_mono (B0 : Nat) (i : Nat) (v : Value) (w w' : World) (hi : i < 8) (h : WkxG B0 i v w) (hb : Below w.heap.size w w') : WkxG B0 i v w' := by
  match i, hi, h with
  | 0, _, h | 3, _, h => exact h
  | 1, _, ⟨a, hv, h1⟩ => exact ⟨a, hv, h1.below hb⟩
  | 2, _, ⟨a, hv, h1⟩ => exact ⟨a, hv, h1.below hb⟩
  | 4, _, ⟨a, hv, h1⟩ => exact ⟨a, hv, h1.below hb⟩
  | 5, _, ⟨a, hv, h1⟩ => exact ⟨a, hv, h1.below hb⟩
  | 6, _, ⟨A, c, hv, h1⟩ => exact ⟨A, c, hv, h1.below hb⟩
  | 7, _, ⟨g, hv, h1, h2⟩ => exact ⟨g, hv, h1, h2.below hb⟩
  | j + 8, hi, _ => exact absurd hi (by omega)
def WkyG (B0 : Nat) : Nat → Value → World → Prop
  | 0, v, _ => v = .agg #[.int .u64 1, .int .u64 1]
  | 1, v, W => ∃ a, v = .slice (some ⟨a, 0, none⟩) 1 1 ∧ GdL W (some ⟨a, 0, none⟩) [(1, 1)] 1
  | 2, v, W => ∃ a, v = .agg #[.int .u64 2, .int .i64 0, .bool false, .slice (some ⟨a, 0, none⟩) 1 1] ∧ GdL W (some ⟨a, 0, none⟩) [(1, 1)] 1
  | 3, v, _ => v = .agg #[.int .u64 1, .int .u64 1]
  | 4, v, _ => v = .agg #[.int .u64 2, .int .u64 1]
  | 5, v, W => ∃ a, v = .slice (some ⟨a, 0, none⟩) 2 2 ∧ GdL W (some ⟨a, 0, none⟩) [(1, 1), (2, 1)] 2
  | 6, v, W => ∃ a, v = .agg #[.int .u64 2, .int .i64 0, .bool false, .slice (some ⟨a, 0, none⟩) 2 2] ∧ GdL W (some ⟨a, 0, none⟩) [(1, 1), (2, 1)] 2
  | 7, v, W => ∃ A c, v = .agg #[.int .u64 2, .int .i64 0, .bool false, .slice A 2 c] ∧ OGd W 0 (.slice A 2 c) [(1, 1), (2, 1)]
  | 8, v, W => ∃ g, v = .pointer (some ⟨g, 0, none⟩) ∧ B0 ≤ g ∧ Blk W g 25 #[.int .u64 0, .int .i64 0, .bool false, .slice none 0 0]
  | _, _, _ => True
theorem WkyG_mono (B0 : Nat) (i : Nat) (v : Value) (w w' : World) (hi : i < 9) (h : WkyG B0 i v w) (hb : Below w.heap.size w w') : WkyG B0 i v w' := by
  match i, hi, h with
  | 0, _, h | 3, _, h | 4, _, h => exact h
  | 1, _, ⟨a, hv, h1⟩ => exact ⟨a, hv, h1.below hb⟩
  | 2, _, ⟨a, hv, h1⟩ => exact ⟨a, hv, h1.below hb⟩
  | 5, _, ⟨a, hv, h1⟩ => exact ⟨a, hv, h1.below hb⟩
  | 6, _, ⟨a, hv, h1⟩ => exact ⟨a, hv, h1.below hb⟩
  | 7, _, ⟨A, c, hv, h1⟩ => exact ⟨A, c, hv, h1.below hb⟩
  | 8, _, ⟨g, hv, h1, h2⟩ => exact ⟨g, hv, h1, h2.below hb⟩
  | j + 9, hi, _ => exact absurd hi (by omega)
def WkzG (B0 : Nat) : Nat → Value → World → Prop
  | 0, v, _ => v = .agg #[.int .u64 1, .int .u64 1]
  | 1, v, W => ∃ a, v = .slice (some ⟨a, 0, none⟩) 1 1 ∧ GdL W (some ⟨a, 0, none⟩) [(1, 1)] 1
  | 2, v, W => ∃ a, v = .agg #[.int .u64 2, .int .i64 0, .bool false, .slice (some ⟨a, 0, none⟩) 1 1] ∧ GdL W (some ⟨a, 0, none⟩) [(1, 1)] 1
  | 3, v, _ => v = .agg #[.int .u64 1, .int .u64 1]
  | 4, v, W => ∃ a, v = .slice (some ⟨a, 0, none⟩) 1 1 ∧ GdL W (some ⟨a, 0, none⟩) [(1, 1)] 1
  | 5, v, W => ∃ a, v = .agg #[.int .u64 2, .int .i64 0, .bool true, .slice (some ⟨a, 0, none⟩) 1 1] ∧ GdL W (some ⟨a, 0, none⟩) [(1, 1)] 1
  | 6, v, W => ∃ A c, v = .agg #[.int .u64 2, .int .i64 0, .bool true, .slice A 1 c] ∧ OGd W 0 (.slice A 1 c) [(1, 1)]
  | 7, v, W => ∃ g, v = .pointer (some ⟨g, 0, none⟩) ∧ B0 ≤ g ∧ Blk W g 25 #[.int .u64 0, .int .i64 0, .bool false, .slice none 0 0]
  | _, _, _ => True
theorem WkzG_mono (B0 : Nat) (i : Nat) (v : Value) (w w' : World) (hi : i < 8) (h : WkzG B0 i v w) (hb : Below w.heap.size w w') : WkzG B0 i v w' := by
  match i, hi, h with
  | 0, _, h | 3, _, h => exact h
  | 1, _, ⟨a, hv, h1⟩ => exact ⟨a, hv, h1.below hb⟩
  | 2, _, ⟨a, hv, h1⟩ => exact ⟨a, hv, h1.below hb⟩
  | 4, _, ⟨a, hv, h1⟩ => exact ⟨a, hv, h1.below hb⟩
  | 5, _, ⟨a, hv, h1⟩ => exact ⟨a, hv, h1.below hb⟩
  | 6, _, ⟨A, c, hv, h1⟩ => exact ⟨A, c, hv, h1.below hb⟩
  | 7, _, ⟨g, hv, h1, h2⟩ => exact ⟨g, hv, h1, h2.below hb⟩
  | j + 8, hi, _ => exact absurd hi (by omega)
def WkwG (B0 : Nat) : Nat → Value → World → Prop
  | 0, v, _ => v = .agg #[.int .u64 1, .int .u64 1]
  | 1, v, W => ∃ a, v = .slice (some ⟨a, 0, none⟩) 1 1 ∧ GdL W (some ⟨a, 0, none⟩) [(1, 1)] 1
  | 2, v, W => ∃ a, v = .agg #[.int .u64 2, .int .i64 0, .bool true, .slice (some ⟨a, 0, none⟩) 1 1] ∧ GdL W (some ⟨a, 0, none⟩) [(1, 1)] 1
  | 3, v, _ => v = .agg #[.int .u64 1, .int .u64 1]
  | 4, v, _ => v = .agg #[.int .u64 2, .int .u64 1]
  | 5, v, W => ∃ a, v = .slice (some ⟨a, 0, none⟩) 2 2 ∧ GdL W (some ⟨a, 0, none⟩) [(1, 1), (2, 1)] 2
  | 6, v, W => ∃ a, v = .agg #[.int .u64 2, .int .i64 0, .bool false, .slice (some ⟨a, 0, none⟩) 2 2] ∧ GdL W (some ⟨a, 0, none⟩) [(1, 1), (2, 1)] 2
  | 7, v, W => ∃ A c, v = .agg #[.int .u64 2, .int .i64 0, .bool false, .slice A 2 c] ∧ OGd W 0 (.slice A 2 c) [(1, 1), (2, 1)]
  | 8, v, W => ∃ g, v = .pointer (some ⟨g, 0, none⟩) ∧ B0 ≤ g ∧ Blk W g 25 #[.int .u64 0, .int .i64 0, .bool false, .slice none 0 0]
  | _, _, _ => True
theorem WkwG_mono (B0 : Nat) (i : Nat) (v : Value) (w w' : World) (hi : i < 9) (h : WkwG B0 i v w) (hb : Below w.heap.size w w') : WkwG B0 i v w' := by
  match i, hi, h with
  | 0, _, h | 3, _, h | 4, _, h => exact h
  | 1, _, ⟨a, hv, h1⟩ => exact ⟨a, hv, h1.below hb⟩
  | 2, _, ⟨a, hv, h1⟩ => exact ⟨a, hv, h1.below hb⟩
  | 5, _, ⟨a, hv, h1⟩ => exact ⟨a, hv, h1.below hb⟩
  | 6, _, ⟨a, hv, h1⟩ => exact ⟨a, hv, h1.below hb⟩
  | 7, _, ⟨A, c, hv, h1⟩ => exact ⟨A, c, hv, h1.below hb⟩
  | 8, _, ⟨g, hv, h1, h2⟩ => exact ⟨g, hv, h1, h2.below hb⟩
  | j + 9, hi, _ => exact absurd hi (by omega)
def WkLG : Nat → Value → World → Prop
  | 0, v, _ => v = .agg #[.int .u64 1, .int .u64 1]
  | 1, v, _ => v = .agg #[.int .u64 1, .int .u64 2]
  | 2, v, _ => v = .agg #[.int .u64 2, .int .u64 1]
  | 3, v, _ => v = .agg #[.int .u64 1, .int .u64 9]
  | 4, v, W => ∃ a, v = .slice (some ⟨a, 0, none⟩) 4 4 ∧ GdL W (some ⟨a, 0, none⟩) [(1, 1), (1, 2), (2, 1), (1, 9)] 4
  | 5, v, W => ∃ a, v = .slice (some ⟨a, 0, none⟩) 4 4 ∧ GdL W (some ⟨a, 0, none⟩) [(1, 1), (1, 2), (2, 1), (1, 9)] 4
  | _, _, _ => True
theorem WkLG_mono (i : Nat) (v : Value) (w w' : World) (hi : i < 6) (h : WkLG  i v w) (hb : Below w.heap.size w w') : WkLG  i v w' := by
  match i, hi, h with
  | 0, _, h | 1, _, h | 2, _, h | 3, _, h => exact h
  | 4, _, ⟨a, hv, h1⟩ => exact ⟨a, hv, h1.below hb⟩
  | 5, _, ⟨a, hv, h1⟩ => exact ⟨a, hv, h1.below hb⟩
  | j + 6, hi, _ => exact absurd hi (by omega)
def WkRG (Ax Ay Az Aw : Option Addr) (cx cy cz cw gx gy gz gw al : Nat) : Nat → Value → World → Prop
  | 0, v, _ => v = .pointer (some ⟨gx, 0, none⟩)
  | 1, v, _ => v = .int .u64 3
  | 2, v, _ => v = .bool true
  | 3, v, _ => v = .bool true
  | 4, v, _ => v = .pointer (some ⟨gy, 3, none⟩)
  | 5, v, _ => v = .slice Ay 2 cy
  | 6, v, _ => v = .int .i64 2
  | 7, v, _ => v = .bool true
  | 8, v, _ => v = .bool true
  | 9, v, _ => v = .bool true
  | 10, v, _ => v = .pointer (some ⟨gz, 2, none⟩)
  | 11, v, _ => v = .bool true
  | 12, v, _ => v = .bool true
  | 13, v, _ => v = .bool true
  | 14, v, _ => v = .pointer (some ⟨gw, 3, none⟩)
  | 15, v, _ => v = .slice Aw 2 cw
  | 16, v, _ => v = .int .i64 2
  | 17, v, _ => v = .bool true
  | 18, v, _ => v = .bool true
  | 19, v, _ => v = .bool true
  | 20, v, _ => v = .agg #[.int .u64 1, .int .u64 1]
  | 21, v, _ => v = .agg #[.int .u64 1, .int .u64 2]
  | 22, v, _ => v = .agg #[.int .u64 1, .int .u64 3]
  | 23, v, W => ∃ a, v = .slice (some ⟨a, 0, none⟩) 3 3 ∧ GdL W (some ⟨a, 0, none⟩) [(1, 1), (1, 2), (1, 3)] 3
  | 24, v, _ => v = .agg #[.int .u64 1, .int .u64 1]
  | 25, v, _ => v = .agg #[.int .u64 1, .int .u64 2]
  | 26, v, _ => v = .agg #[.int .u64 2, .int .u64 1]
  | 27, v, W => ∃ a, v = .slice (some ⟨a, 0, none⟩) 3 3 ∧ GdL W (some ⟨a, 0, none⟩) [(1, 1), (1, 2), (2, 1)] 3
  | 28, v, W => ∃ a, v = .agg #[.int .u64 2, .int .i64 0, .bool false, .slice (some ⟨a, 0, none⟩) 3 3] ∧ GdL W (some ⟨a, 0, none⟩) [(1, 1), (1, 2), (2, 1)] 3
  | 29, v, _ => v = .int .i64 2
  | 30, v, _ => v = .bool true
  | 31, v, _ => v = .bool true
  | 32, v, _ => v = .bool true
  | 33, v, _ => v = .slice (some ⟨al, 0, none⟩) 4 4
  | 34, v, _ => v = .agg #[.int .u64 1, .int .u64 1]
  | 35, v, _ => v = .agg #[.int .u64 1, .int .u64 2]
  | 36, v, W => ∃ a, v = .slice (some ⟨a, 0, none⟩) 2 2 ∧ GdL W (some ⟨a, 0, none⟩) [(1, 1), (1, 2)] 2
  | 37, v, W => ∃ a, v = .agg #[.int .u64 2, .int .i64 0, .bool false, .slice (some ⟨a, 0, none⟩) 2 2] ∧ GdL W (some ⟨a, 0, none⟩) [(1, 1), (1, 2)] 2
  | 38, v, _ => v = .int .i64 3
  | 39, v, _ => v = .bool true
  | 40, v, _ => v = .bool true
  | 41, v, _ => v = .bool true
  | 42, v, _ => v = .slice (some ⟨al, 0, none⟩) 4 4
  | 43, v, _ => v = .slice (some ⟨al, 0, none⟩) 2 4
  | 44, v, _ => v = .agg #[.int .u64 1, .int .u64 1]
  | 45, v, _ => v = .agg #[.int .u64 1, .int .u64 2]
  | 46, v, _ => v = .agg #[.int .u64 2, .int .u64 1]
  | 47, v, W => ∃ a, v = .slice (some ⟨a, 0, none⟩) 3 3 ∧ GdL W (some ⟨a, 0, none⟩) [(1, 1), (1, 2), (2, 1)] 3
  | 48, v, W => ∃ a, v = .agg #[.int .u64 2, .int .i64 0, .bool false, .slice (some ⟨a, 0, none⟩) 3 3] ∧ GdL W (some ⟨a, 0, none⟩) [(1, 1), (1, 2), (2, 1)] 3
  | 49, v, _ => v = .int .i64 2
  | 50, v, _ => v = .bool true
  | 51, v, _ => v = .bool true
  | 52, v, _ => v = .bool true
  | 53, v, _ => v = .agg #[.int .u64 1, .int .u64 1]
  | 54, v, _ => v = .agg #[.int .u64 1, .int .u64 3]
  | 55, v, W => ∃ a, v = .slice (some ⟨a, 0, none⟩) 2 2 ∧ GdL W (some ⟨a, 0, none⟩) [(1, 1), (1, 3)] 2
  | 56, v, _ => v = .agg #[.int .u64 1, .int .u64 1]
  | 57, v, _ => v = .agg #[.int .u64 1, .int .u64 2]
  | 58, v, W => ∃ a, v = .slice (some ⟨a, 0, none⟩) 2 2 ∧ GdL W (some ⟨a, 0, none⟩) [(1, 1), (1, 2)] 2
  | 59, v, W => ∃ a, v = .agg #[.int .u64 2, .int .i64 0, .bool false, .slice (some ⟨a, 0, none⟩) 2 2] ∧ GdL W (some ⟨a, 0, none⟩) [(1, 1), (1, 2)] 2
  | 60, v, _ => v = .int .i64 1
  | 61, v, _ => v = .bool true
  | 62, v, _ => v = .bool true
  | 63, v, _ => v = .bool true
  | 64, v, _ => v = .slice (some ⟨al, 0, none⟩) 4 4
  | 65, v, _ => v = .slice (some ⟨al, 0, none⟩) 2 4
  | 66, v, _ => v = .agg #[.int .u64 1, .int .u64 1]
  | 67, v, W => ∃ a, v = .slice (some ⟨a, 0, none⟩) 1 1 ∧ GdL W (some ⟨a, 0, none⟩) [(1, 1)] 1
  | 68, v, W => ∃ a, v = .agg #[.int .u64 2, .int .i64 0, .bool false, .slice (some ⟨a, 0, none⟩) 1 1] ∧ GdL W (some ⟨a, 0, none⟩) [(1, 1)] 1
  | 69, v, _ => v = .int .i64 1
  | 70, v, _ => v = .bool true
  | 71, v, _ => v = .bool true
  | 72, v, _ => v = .bool true
  | _, _, _ => True
theorem WkRG_mono (Ax Ay Az Aw : Option Addr) (cx cy cz cw gx gy gz gw al : Nat) (i : Nat) (v : Value) (w w' : World) (hi : i < 73) (h : WkRG Ax Ay Az Aw cx cy cz cw gx gy gz gw al i v w) (hb : Below w.heap.size w w') : WkRG Ax Ay Az Aw cx cy cz cw gx gy gz gw al i v w' := by
  match i, hi, h with
  | 0, _, h | 1, _, h | 2, _, h | 3, _, h | 4, _, h | 5, _, h | 6, _, h | 7, _, h | 8, _, h | 9, _, h | 10, _, h | 11, _, h | 12, _, h | 13, _, h | 14, _, h | 15, _, h | 16, _, h | 17, _, h | 18, _, h | 19, _, h | 20, _, h | 21, _, h | 22, _, h | 24, _, h | 25, _, h | 26, _, h | 29, _, h | 30, _, h | 31, _, h | 32, _, h | 33, _, h | 34, _, h | 35, _, h | 38, _, h | 39, _, h | 40, _, h | 41, _, h | 42, _, h | 43, _, h | 44, _, h | 45, _, h | 46, _, h | 49, _, h | 50, _, h | 51, _, h | 52, _, h | 53, _, h | 54, _, h | 56, _, h | 57, _, h | 60, _, h | 61, _, h | 62, _, h | 63, _, h | 64, _, h | 65, _, h | 66, _, h | 69, _, h | 70, _, h | 71, _, h | 72, _, h => exact h
  | 23, _, ⟨a, hv, h1⟩ => exact ⟨a, hv, h1.below hb⟩
  | 27, _, ⟨a, hv, h1⟩ => exact ⟨a, hv, h1.below hb⟩
  | 28, _, ⟨a, hv, h1⟩ => exact ⟨a, hv, h1.below hb⟩
  | 36, _, ⟨a, hv, h1⟩ => exact ⟨a, hv, h1.below hb⟩
  | 37, _, ⟨a, hv, h1⟩ => exact ⟨a, hv, h1.below hb⟩
  | 47, _, ⟨a, hv, h1⟩ => exact ⟨a, hv, h1.below hb⟩
  | 48, _, ⟨a, hv, h1⟩ => exact ⟨a, hv, h1.below hb⟩
  | 55, _, ⟨a, hv, h1⟩ => exact ⟨a, hv, h1.below hb⟩
  | 58, _, ⟨a, hv, h1⟩ => exact ⟨a, hv, h1.below hb⟩
  | 59, _, ⟨a, hv, h1⟩ => exact ⟨a, hv, h1.below hb⟩
  | 67, _, ⟨a, hv, h1⟩ => exact ⟨a, hv, h1.below hb⟩
  | 68, _, ⟨a, hv, h1⟩ => exact ⟨a, hv, h1.below hb⟩
  | j + 73, hi, _ => exact absurd hi (by omega)
set_option maxHeartbeats 25600000 in
theorem works_any (w : World) : Calls Try.prog 14 #[] w (endB true w) := by
  go_enter Try.func14, Try.ntmps14
  go_wp2_with fail
  refine (guid_any 1 1 w).mono ?_
  rintro e W1 ⟨rfl, hb1⟩
  have B1 := Lib.hid hb1
  clear hb1
  go_wp2_with fail
  refine (guid_any 1 2 W1).mono ?_
  rintro e W2 ⟨rfl, hb2⟩
  have B2 := Lib.hid (below_step B1.out hb2)
  clear hb2 B1
  obtain ⟨hk1, hk2, hb3⟩ := two_new W2 #[.int .u64 1, .int .u64 1] #[.int .u64 1, .int .u64 2] 34 34
  obtain ⟨V0, hV0⟩ : ∃ z, (W2.alloc (.cells #[.int .u64 1, .int .u64 1] 34)).alloc (.cells #[.int .u64 1, .int .u64 2] 34) = z := ⟨_, rfl⟩
  rw [hV0] at hk1 hk2 hb3
  have HG1 := Lib.hid hk1
  have HG2 := Lib.hid hk2
  have HB0 := Lib.hid (below_step B2.out hb3)
  clear hk1 hk2 hb3
  go_upto_region 2 with fail
  try rw [hV0]
  clear hV0 B2
  obtain ⟨g1, hg1⟩ : ∃ g, W2.heap.size = g := ⟨_, rfl⟩
  rw [hg1] at HG1 HG2
  try rw [hg1]
  clear hg1
  obtain ⟨g2, hg2⟩ : ∃ g, g1 + 1 = g := ⟨_, rfl⟩
  rw [hg2] at HG2
  try rw [hg2]
  clear hg2
  refine wp_region_pre (by kernel_rfl) 8 [10, 11, 12, 13, 14, 15, 16, 3] (by kernel_rfl) (fun L vs W => Below V0.heap.size V0 W ∧ ∀ i, L i = true → i < 8 → WkxG V0.heap.size i (vs i) W) ⟨(Below.refl _ _).drew, fun i hi => by cases hi⟩ ?_ ?_
  · intro i o L vs ρ W hi51 ho hli haft hρ hI
    obtain ⟨hb, hG'⟩ := hI
    have hG : ∀ j, L j = true → WkxG V0.heap.size j (vs j) W := fun j hj => by
      by_cases h51 : j < 8
      · exact hG' j hj h51
      · match j, h51 with
        | j + 8, _ => exact trivial
    have hc := hρ.const
    have hfn := hρ.fn
    have next : ∀ v W', Below W.heap.size W W' → WkxG V0.heap.size i v W' → Below V0.heap.size V0 W' ∧ ∀ j, updB L i j = true → j < 8 → WkxG V0.heap.size j (updV vs i v j) W' := fun v W' h1 h2 => by
      refine ⟨below_step hb h1, fun j hj h51 => ?_⟩
      by_cases hji : j = i
      · subst hji
        simpa [updV] using h2
      · simp only [updB, if_neg hji] at hj
        simpa [updV, hji] using WkxG_mono V0.heap.size j _ W W' h51 (hG' j hj h51) h1
    have u0 := (HG1.out.below hb).cell 0
    have u1 := (HG1.out.below hb).cell 1
    have z0 := (HG2.out.below hb).cell 0
    have z1 := (HG2.out.below hb).cell 1
    have ul := (HG1.out.below hb).lt
    have zl := (HG2.out.below hb).lt
    simp only [List.getElem?_toArray, List.getElem?_cons_zero, List.getElem?_cons_succ] at u0 u1 z0 z1
    rcases i with _ | _ | _ | _ | _ | _ | _ | _ | i
    all_goals (first | omega | skip)
    all_goals simp only [List.getElem?_toArray, List.getElem?_cons_zero, List.getElem?_cons_succ, Option.some.injEq] at ho
    all_goals subst ho
    · have o1 : ρ (.tmp 1) = .pointer (some ⟨g1, 0, none⟩) := hρ.out 1 rfl
      exact stepTo_value (w' := W) (by unfold execOp; simp only [o1, hc]; go_simp) (next _ _ (Below.refl _ _) rfl)
    · have g10 : WkxG V0.heap.size 0 (vs 0) W := hG 0 (haft 0 (by kernel_rfl))
      have s10 : ρ (.tmp 10) = .agg #[.int .u64 1, .int .u64 1] := (hρ.at_ 10 0 rfl).trans g10
      exact stepTo_value (v := .slice (some ⟨W.heap.size, 0, none⟩) 1 1) (w' := W.alloc (.cells #[.int .u64 1, .int .u64 1] 34)) (by unfold execOp; simp only [s10, hc]; go_simp) (next _ _ ((Below.refl _ W).alloc (Nat.le_refl _) _) ⟨W.heap.size, rfl, gd_lit (l := [(1, 1)]) (Blk.new _ _ _) (by decide)⟩)
    · obtain ⟨a11, g11, hh111⟩ : WkxG V0.heap.size 1 (vs 1) W := hG 1 (haft 1 (by kernel_rfl))
      have s11 : ρ (.tmp 11) = .slice (some ⟨a11, 0, none⟩) 1 1 := (hρ.at_ 11 1 rfl).trans g11
      refine stepTo_enter (f := 22) (args := #[.int .u64 2, .bool false, .slice (some ⟨a11, 0, none⟩) 1 1]) (w' := W) (by unfold execOp; simp only [hfn, s11]; go_simp) (((of_any 2 false (some ⟨a11, 0, none⟩) 1 1 W)).mono ?_)
      rintro x W' ⟨rfl, hb'⟩
      exact ⟨_, rfl, next _ _ hb' ⟨a11, rfl, hh111.below hb'⟩⟩
    · have o1 : ρ (.tmp 1) = .pointer (some ⟨g1, 0, none⟩) := hρ.out 1 rfl
      exact stepTo_value (w' := W) (by unfold execOp; simp only [o1, hc]; go_simp) (next _ _ (Below.refl _ _) rfl)
    · have g13 : WkxG V0.heap.size 3 (vs 3) W := hG 3 (haft 3 (by kernel_rfl))
      have s13 : ρ (.tmp 13) = .agg #[.int .u64 1, .int .u64 1] := (hρ.at_ 13 3 rfl).trans g13
      exact stepTo_value (v := .slice (some ⟨W.heap.size, 0, none⟩) 1 1) (w' := W.alloc (.cells #[.int .u64 1, .int .u64 1] 34)) (by unfold execOp; simp only [s13, hc]; go_simp) (next _ _ ((Below.refl _ W).alloc (Nat.le_refl _) _) ⟨W.heap.size, rfl, gd_lit (l := [(1, 1)]) (Blk.new _ _ _) (by decide)⟩)
    · obtain ⟨a14, g14, hh141⟩ : WkxG V0.heap.size 4 (vs 4) W := hG 4 (haft 4 (by kernel_rfl))
      have s14 : ρ (.tmp 14) = .slice (some ⟨a14, 0, none⟩) 1 1 := (hρ.at_ 14 4 rfl).trans g14
      refine stepTo_enter (f := 22) (args := #[.int .u64 3, .bool false, .slice (some ⟨a14, 0, none⟩) 1 1]) (w' := W) (by unfold execOp; simp only [hfn, s14]; go_simp) (((of_any 3 false (some ⟨a14, 0, none⟩) 1 1 W)).mono ?_)
      rintro x W' ⟨rfl, hb'⟩
      exact ⟨_, rfl, next _ _ hb' ⟨a14, rfl, hh141.below hb'⟩⟩
    · obtain ⟨a12, g12, hh121⟩ : WkxG V0.heap.size 2 (vs 2) W := hG 2 (haft 2 (by kernel_rfl))
      have s12 : ρ (.tmp 12) = .agg #[.int .u64 2, .int .i64 0, .bool false, .slice (some ⟨a12, 0, none⟩) 1 1] := (hρ.at_ 12 2 rfl).trans g12
      obtain ⟨a15, g15, hh151⟩ : WkxG V0.heap.size 5 (vs 5) W := hG 5 (haft 5 (by kernel_rfl))
      have s15 : ρ (.tmp 15) = .agg #[.int .u64 3, .int .i64 0, .bool false, .slice (some ⟨a15, 0, none⟩) 1 1] := (hρ.at_ 15 5 rfl).trans g15
      refine stepTo_enter (f := 15) (args := #[.agg #[.int .u64 2, .int .i64 0, .bool false, .slice (some ⟨a12, 0, none⟩) 1 1], .agg #[.int .u64 3, .int .i64 0, .bool false, .slice (some ⟨a15, 0, none⟩) 1 1]]) (w' := W) (by unfold execOp; simp only [hfn, s12, s15]; go_simp) (((merge_is (show lMerge ⟨2, 0, false, [(1, 1)]⟩ ⟨3, 0, false, [(1, 1)]⟩ = ⟨3, 0, false, [(1, 1)]⟩ from by decide) ⟨(some ⟨a12, 0, none⟩), 1, rfl, hh121⟩ ⟨(some ⟨a15, 0, none⟩), 1, rfl, hh151⟩ (by unfold szL; decide) (by unfold szL; decide))).mono ?_)
      rintro x W' ⟨v', rfl, ⟨u', rfl, ho'⟩, hb'⟩
      exact ⟨_, rfl, next _ _ hb' (ln_word ho')⟩
    · exact stepTo_value (v := .pointer (some ⟨W.heap.size, 0, none⟩)) (w' := W.alloc (.cells #[.int .u64 0, .int .i64 0, .bool false, .slice none 0 0] 25)) (by unfold execOp; simp only [hc]; go_simp) (next _ _ ((Below.refl _ W).alloc (Nat.le_refl _) _) ⟨W.heap.size, rfl, hb.size, Blk.new _ _ _⟩)
  · intro L' vs W3 hL hI
    obtain ⟨hb, hG⟩ := hI
    obtain ⟨Ax, cx, h6, -⟩ : WkxG V0.heap.size 6 (vs 6) W3 := hG 6 (hL 6 (by decide)) (by decide)
    obtain ⟨gx, h7, hlo, hk⟩ : WkxG V0.heap.size 7 (vs 7) W3 := hG 7 (hL 7 (by decide)) (by decide)
    have hK := lnP_blk hk (.int .u64 3) (.int .i64 0) (.bool false) (.slice Ax 1 cx)
    have hB : Below w.heap.size w (lnP W3 gx (.int .u64 3) (.int .i64 0) (.bool false) (.slice Ax 1 cx)) := lnP_below (below_step HB0.out hb) (Nat.le_trans HB0.out.size hlo) _ _ _ _
    have nHG1 := (HG1.out.below hb).of_block (lnP_oth W3 gx (.int .u64 3) (.int .i64 0) (.bool false) (.slice Ax 1 cx) (Nat.ne_of_lt (Nat.lt_of_lt_of_le HG1.out.lt hlo)))
    have nHG2 := (HG2.out.below hb).of_block (lnP_oth W3 gx (.int .u64 3) (.int .i64 0) (.bool false) (.slice Ax 1 cx) (Nat.ne_of_lt (Nat.lt_of_lt_of_le HG2.out.lt hlo)))
    obtain ⟨m0, m1, m2, m3⟩ := blk_ln hk
    have f0 := hk.frozen 0
    have f1 := hk.frozen 1
    have f2 := hk.frozen 2
    have f3 := hk.frozen 3
    have hlm := hk.lt
    clear hL hG hk hb hlo HB0
    simp only [putList, putSel, if_true]
    rw [h6, h7]
    generalize vs 0 = y00
    generalize vs 1 = y01
    generalize vs 2 = y02
    generalize vs 3 = y03
    generalize vs 4 = y04
    generalize vs 5 = y05
    clear h6 h7
    simp only [Act.put, List.setIfInBounds_toArray, List.set_cons_succ, List.set_cons_zero]
    refine wpAny_one (i := 8) (by kernel_rfl) rfl rfl ?_
    go_simp
    refine ⟨by kernel_rfl, ?_⟩
    clear m0 m1 m2 m3 f0 f1 f2 f3 hlm
    show Exit.then _ _ Exit.normal _ (lnP W3 gx (.int .u64 3) (.int .i64 0) (.bool false) (.slice Ax 1 cx))
    obtain ⟨V1, hV⟩ : ∃ z, lnP W3 gx (.int .u64 3) (.int .i64 0) (.bool false) (.slice Ax 1 cx) = z := ⟨_, rfl⟩
    rw [hV] at hK hB ⊢
    rw [hV] at nHG1
    clear HG1
    have HG1 := Lib.hid nHG1
    clear nHG1
    rw [hV] at nHG2
    clear HG2
    have HG2 := Lib.hid nHG2
    clear nHG2
    clear hV
    have Hx := Lib.hid hK
    have HB0 := Lib.hid hB
    clear hK hB
    go_upto_region 3 with fail
    refine wp_region_pre (by kernel_rfl) 9 [17, 18, 19, 20, 21, 22, 23, 24, 4] (by kernel_rfl) (fun L vs W => Below V1.heap.size V1 W ∧ ∀ i, L i = true → i < 9 → WkyG V1.heap.size i (vs i) W) ⟨(Below.refl _ _).drew, fun i hi => by cases hi⟩ ?_ ?_
    · intro i o L vs ρ W hi51 ho hli haft hρ hI
      obtain ⟨hb, hG'⟩ := hI
      have hG : ∀ j, L j = true → WkyG V1.heap.size j (vs j) W := fun j hj => by
        by_cases h51 : j < 9
        · exact hG' j hj h51
        · match j, h51 with
          | j + 9, _ => exact trivial
      have hc := hρ.const
      have hfn := hρ.fn
      have next : ∀ v W', Below W.heap.size W W' → WkyG V1.heap.size i v W' → Below V1.heap.size V1 W' ∧ ∀ j, updB L i j = true → j < 9 → WkyG V1.heap.size j (updV vs i v j) W' := fun v W' h1 h2 => by
        refine ⟨below_step hb h1, fun j hj h51 => ?_⟩
        by_cases hji : j = i
        · subst hji
          simpa [updV] using h2
        · simp only [updB, if_neg hji] at hj
          simpa [updV, hji] using WkyG_mono V1.heap.size j _ W W' h51 (hG' j hj h51) h1
      have u0 := (HG1.out.below hb).cell 0
      have u1 := (HG1.out.below hb).cell 1
      have z0 := (HG2.out.below hb).cell 0
      have z1 := (HG2.out.below hb).cell 1
      have ul := (HG1.out.below hb).lt
      have zl := (HG2.out.below hb).lt
      simp only [List.getElem?_toArray, List.getElem?_cons_zero, List.getElem?_cons_succ] at u0 u1 z0 z1
      rcases i with _ | _ | _ | _ | _ | _ | _ | _ | _ | i
      all_goals (first | omega | skip)
      all_goals simp only [List.getElem?_toArray, List.getElem?_cons_zero, List.getElem?_cons_succ, Option.some.injEq] at ho
      all_goals subst ho
      · have o1 : ρ (.tmp 1) = .pointer (some ⟨g1, 0, none⟩) := hρ.out 1 rfl
        exact stepTo_value (w' := W) (by unfold execOp; simp only [o1, hc]; go_simp) (next _ _ (Below.refl _ _) rfl)
      · have g17 : WkyG V1.heap.size 0 (vs 0) W := hG 0 (haft 0 (by kernel_rfl))
        have s17 : ρ (.tmp 17) = .agg #[.int .u64 1, .int .u64 1] := (hρ.at_ 17 0 rfl).trans g17
        exact stepTo_value (v := .slice (some ⟨W.heap.size, 0, none⟩) 1 1) (w' := W.alloc (.cells #[.int .u64 1, .int .u64 1] 34)) (by unfold execOp; simp only [s17, hc]; go_simp) (next _ _ ((Below.refl _ W).alloc (Nat.le_refl _) _) ⟨W.heap.size, rfl, gd_lit (l := [(1, 1)]) (Blk.new _ _ _) (by decide)⟩)
      · obtain ⟨a18, g18, hh181⟩ : WkyG V1.heap.size 1 (vs 1) W := hG 1 (haft 1 (by kernel_rfl))
        have s18 : ρ (.tmp 18) = .slice (some ⟨a18, 0, none⟩) 1 1 := (hρ.at_ 18 1 rfl).trans g18
        refine stepTo_enter (f := 22) (args := #[.int .u64 2, .bool false, .slice (some ⟨a18, 0, none⟩) 1 1]) (w' := W) (by unfold execOp; simp only [hfn, s18]; go_simp) (((of_any 2 false (some ⟨a18, 0, none⟩) 1 1 W)).mono ?_)
        rintro x W' ⟨rfl, hb'⟩
        exact ⟨_, rfl, next _ _ hb' ⟨a18, rfl, hh181.below hb'⟩⟩
      · have o1 : ρ (.tmp 1) = .pointer (some ⟨g1, 0, none⟩) := hρ.out 1 rfl
        exact stepTo_value (w' := W) (by unfold execOp; simp only [o1, hc]; go_simp) (next _ _ (Below.refl _ _) rfl)
      · refine stepTo_enter (f := 21) (args := #[.int .u64 2, .int .u64 1]) (w' := W) (by unfold execOp; simp only [hfn, ]; go_simp) (((guid_any 2 1 W)).mono ?_)
        rintro x W' ⟨rfl, hb'⟩
        exact ⟨_, rfl, next _ _ hb' rfl⟩
      · have g20 : WkyG V1.heap.size 3 (vs 3) W := hG 3 (haft 3 (by kernel_rfl))
        have s20 : ρ (.tmp 20) = .agg #[.int .u64 1, .int .u64 1] := (hρ.at_ 20 3 rfl).trans g20
        have g21 : WkyG V1.heap.size 4 (vs 4) W := hG 4 (haft 4 (by kernel_rfl))
        have s21 : ρ (.tmp 21) = .agg #[.int .u64 2, .int .u64 1] := (hρ.at_ 21 4 rfl).trans g21
        exact stepTo_value (v := .slice (some ⟨W.heap.size, 0, none⟩) 2 2) (w' := W.alloc (.cells #[.int .u64 1, .int .u64 1, .int .u64 2, .int .u64 1] 34)) (by unfold execOp; simp only [s20, s21, hc]; go_simp) (next _ _ ((Below.refl _ W).alloc (Nat.le_refl _) _) ⟨W.heap.size, rfl, gd_lit (l := [(1, 1), (2, 1)]) (Blk.new _ _ _) (by decide)⟩)
      · obtain ⟨a22, g22, hh221⟩ : WkyG V1.heap.size 5 (vs 5) W := hG 5 (haft 5 (by kernel_rfl))
        have s22 : ρ (.tmp 22) = .slice (some ⟨a22, 0, none⟩) 2 2 := (hρ.at_ 22 5 rfl).trans g22
        refine stepTo_enter (f := 22) (args := #[.int .u64 2, .bool false, .slice (some ⟨a22, 0, none⟩) 2 2]) (w' := W) (by unfold execOp; simp only [hfn, s22]; go_simp) (((of_any 2 false (some ⟨a22, 0, none⟩) 2 2 W)).mono ?_)
        rintro x W' ⟨rfl, hb'⟩
        exact ⟨_, rfl, next _ _ hb' ⟨a22, rfl, hh221.below hb'⟩⟩
      · obtain ⟨a19, g19, hh191⟩ : WkyG V1.heap.size 2 (vs 2) W := hG 2 (haft 2 (by kernel_rfl))
        have s19 : ρ (.tmp 19) = .agg #[.int .u64 2, .int .i64 0, .bool false, .slice (some ⟨a19, 0, none⟩) 1 1] := (hρ.at_ 19 2 rfl).trans g19
        obtain ⟨a23, g23, hh231⟩ : WkyG V1.heap.size 6 (vs 6) W := hG 6 (haft 6 (by kernel_rfl))
        have s23 : ρ (.tmp 23) = .agg #[.int .u64 2, .int .i64 0, .bool false, .slice (some ⟨a23, 0, none⟩) 2 2] := (hρ.at_ 23 6 rfl).trans g23
        refine stepTo_enter (f := 15) (args := #[.agg #[.int .u64 2, .int .i64 0, .bool false, .slice (some ⟨a19, 0, none⟩) 1 1], .agg #[.int .u64 2, .int .i64 0, .bool false, .slice (some ⟨a23, 0, none⟩) 2 2]]) (w' := W) (by unfold execOp; simp only [hfn, s19, s23]; go_simp) (((merge_is (show lMerge ⟨2, 0, false, [(1, 1)]⟩ ⟨2, 0, false, [(1, 1), (2, 1)]⟩ = ⟨2, 0, false, [(1, 1), (2, 1)]⟩ from by decide) ⟨(some ⟨a19, 0, none⟩), 1, rfl, hh191⟩ ⟨(some ⟨a23, 0, none⟩), 2, rfl, hh231⟩ (by unfold szL; decide) (by unfold szL; decide))).mono ?_)
        rintro x W' ⟨v', rfl, ⟨u', rfl, ho'⟩, hb'⟩
        exact ⟨_, rfl, next _ _ hb' (ln_word ho')⟩
      · exact stepTo_value (v := .pointer (some ⟨W.heap.size, 0, none⟩)) (w' := W.alloc (.cells #[.int .u64 0, .int .i64 0, .bool false, .slice none 0 0] 25)) (by unfold execOp; simp only [hc]; go_simp) (next _ _ ((Below.refl _ W).alloc (Nat.le_refl _) _) ⟨W.heap.size, rfl, hb.size, Blk.new _ _ _⟩)
    · intro L' vs W3 hL hI
      obtain ⟨hb, hG⟩ := hI
      obtain ⟨Ay, cy, h7, -⟩ : WkyG V1.heap.size 7 (vs 7) W3 := hG 7 (hL 7 (by decide)) (by decide)
      obtain ⟨gy, h8, hlo, hk⟩ : WkyG V1.heap.size 8 (vs 8) W3 := hG 8 (hL 8 (by decide)) (by decide)
      have hK := lnP_blk hk (.int .u64 2) (.int .i64 0) (.bool false) (.slice Ay 2 cy)
      have hB : Below w.heap.size w (lnP W3 gy (.int .u64 2) (.int .i64 0) (.bool false) (.slice Ay 2 cy)) := lnP_below (below_step HB0.out hb) (Nat.le_trans HB0.out.size hlo) _ _ _ _
      have nHG1 := (HG1.out.below hb).of_block (lnP_oth W3 gy (.int .u64 2) (.int .i64 0) (.bool false) (.slice Ay 2 cy) (Nat.ne_of_lt (Nat.lt_of_lt_of_le HG1.out.lt hlo)))
      have nHG2 := (HG2.out.below hb).of_block (lnP_oth W3 gy (.int .u64 2) (.int .i64 0) (.bool false) (.slice Ay 2 cy) (Nat.ne_of_lt (Nat.lt_of_lt_of_le HG2.out.lt hlo)))
      have nHx := (Hx.out.below hb).of_block (lnP_oth W3 gy (.int .u64 2) (.int .i64 0) (.bool false) (.slice Ay 2 cy) (Nat.ne_of_lt (Nat.lt_of_lt_of_le Hx.out.lt hlo)))
      obtain ⟨m0, m1, m2, m3⟩ := blk_ln hk
      have f0 := hk.frozen 0
      have f1 := hk.frozen 1
      have f2 := hk.frozen 2
      have f3 := hk.frozen 3
      have hlm := hk.lt
      clear hL hG hk hb hlo HB0
      simp only [putList, putSel, if_true]
      rw [h7, h8]
      generalize vs 0 = y10
      generalize vs 1 = y11
      generalize vs 2 = y12
      generalize vs 3 = y13
      generalize vs 4 = y14
      generalize vs 5 = y15
      generalize vs 6 = y16
      clear h7 h8
      simp only [Act.put, List.setIfInBounds_toArray, List.set_cons_succ, List.set_cons_zero]
      refine wpAny_one (i := 9) (by kernel_rfl) rfl rfl ?_
      go_simp
      refine ⟨by kernel_rfl, ?_⟩
      clear m0 m1 m2 m3 f0 f1 f2 f3 hlm
      show Exit.then _ _ Exit.normal _ (lnP W3 gy (.int .u64 2) (.int .i64 0) (.bool false) (.slice Ay 2 cy))
      obtain ⟨V2, hV⟩ : ∃ z, lnP W3 gy (.int .u64 2) (.int .i64 0) (.bool false) (.slice Ay 2 cy) = z := ⟨_, rfl⟩
      rw [hV] at hK hB ⊢
      rw [hV] at nHG1
      clear HG1
      have HG1 := Lib.hid nHG1
      clear nHG1
      rw [hV] at nHG2
      clear HG2
      have HG2 := Lib.hid nHG2
      clear nHG2
      rw [hV] at nHx
      clear Hx
      have Hx := Lib.hid nHx
      clear nHx
      clear hV
      have Hy := Lib.hid hK
      have HB0 := Lib.hid hB
      clear hK hB
      go_upto_region 4 with fail
      refine wp_region_pre (by kernel_rfl) 8 [25, 26, 27, 28, 29, 30, 31, 5] (by kernel_rfl) (fun L vs W => Below V2.heap.size V2 W ∧ ∀ i, L i = true → i < 8 → WkzG V2.heap.size i (vs i) W) ⟨(Below.refl _ _).drew, fun i hi => by cases hi⟩ ?_ ?_
      · intro i o L vs ρ W hi51 ho hli haft hρ hI
        obtain ⟨hb, hG'⟩ := hI
        have hG : ∀ j, L j = true → WkzG V2.heap.size j (vs j) W := fun j hj => by
          by_cases h51 : j < 8
          · exact hG' j hj h51
          · match j, h51 with
            | j + 8, _ => exact trivial
        have hc := hρ.const
        have hfn := hρ.fn
        have next : ∀ v W', Below W.heap.size W W' → WkzG V2.heap.size i v W' → Below V2.heap.size V2 W' ∧ ∀ j, updB L i j = true → j < 8 → WkzG V2.heap.size j (updV vs i v j) W' := fun v W' h1 h2 => by
          refine ⟨below_step hb h1, fun j hj h51 => ?_⟩
          by_cases hji : j = i
          · subst hji
            simpa [updV] using h2
          · simp only [updB, if_neg hji] at hj
            simpa [updV, hji] using WkzG_mono V2.heap.size j _ W W' h51 (hG' j hj h51) h1
        have u0 := (HG1.out.below hb).cell 0
        have u1 := (HG1.out.below hb).cell 1
        have z0 := (HG2.out.below hb).cell 0
        have z1 := (HG2.out.below hb).cell 1
        have ul := (HG1.out.below hb).lt
        have zl := (HG2.out.below hb).lt
        simp only [List.getElem?_toArray, List.getElem?_cons_zero, List.getElem?_cons_succ] at u0 u1 z0 z1
        rcases i with _ | _ | _ | _ | _ | _ | _ | _ | i
        all_goals (first | omega | skip)
        all_goals simp only [List.getElem?_toArray, List.getElem?_cons_zero, List.getElem?_cons_succ, Option.some.injEq] at ho
        all_goals subst ho
        · have o1 : ρ (.tmp 1) = .pointer (some ⟨g1, 0, none⟩) := hρ.out 1 rfl
          exact stepTo_value (w' := W) (by unfold execOp; simp only [o1, hc]; go_simp) (next _ _ (Below.refl _ _) rfl)
        · have g25 : WkzG V2.heap.size 0 (vs 0) W := hG 0 (haft 0 (by kernel_rfl))
          have s25 : ρ (.tmp 25) = .agg #[.int .u64 1, .int .u64 1] := (hρ.at_ 25 0 rfl).trans g25
          exact stepTo_value (v := .slice (some ⟨W.heap.size, 0, none⟩) 1 1) (w' := W.alloc (.cells #[.int .u64 1, .int .u64 1] 34)) (by unfold execOp; simp only [s25, hc]; go_simp) (next _ _ ((Below.refl _ W).alloc (Nat.le_refl _) _) ⟨W.heap.size, rfl, gd_lit (l := [(1, 1)]) (Blk.new _ _ _) (by decide)⟩)
        · obtain ⟨a26, g26, hh261⟩ : WkzG V2.heap.size 1 (vs 1) W := hG 1 (haft 1 (by kernel_rfl))
          have s26 : ρ (.tmp 26) = .slice (some ⟨a26, 0, none⟩) 1 1 := (hρ.at_ 26 1 rfl).trans g26
          refine stepTo_enter (f := 22) (args := #[.int .u64 2, .bool false, .slice (some ⟨a26, 0, none⟩) 1 1]) (w' := W) (by unfold execOp; simp only [hfn, s26]; go_simp) (((of_any 2 false (some ⟨a26, 0, none⟩) 1 1 W)).mono ?_)
          rintro x W' ⟨rfl, hb'⟩
          exact ⟨_, rfl, next _ _ hb' ⟨a26, rfl, hh261.below hb'⟩⟩
        · have o1 : ρ (.tmp 1) = .pointer (some ⟨g1, 0, none⟩) := hρ.out 1 rfl
          exact stepTo_value (w' := W) (by unfold execOp; simp only [o1, hc]; go_simp) (next _ _ (Below.refl _ _) rfl)
        · have g28 : WkzG V2.heap.size 3 (vs 3) W := hG 3 (haft 3 (by kernel_rfl))
          have s28 : ρ (.tmp 28) = .agg #[.int .u64 1, .int .u64 1] := (hρ.at_ 28 3 rfl).trans g28
          exact stepTo_value (v := .slice (some ⟨W.heap.size, 0, none⟩) 1 1) (w' := W.alloc (.cells #[.int .u64 1, .int .u64 1] 34)) (by unfold execOp; simp only [s28, hc]; go_simp) (next _ _ ((Below.refl _ W).alloc (Nat.le_refl _) _) ⟨W.heap.size, rfl, gd_lit (l := [(1, 1)]) (Blk.new _ _ _) (by decide)⟩)
        · obtain ⟨a29, g29, hh291⟩ : WkzG V2.heap.size 4 (vs 4) W := hG 4 (haft 4 (by kernel_rfl))
          have s29 : ρ (.tmp 29) = .slice (some ⟨a29, 0, none⟩) 1 1 := (hρ.at_ 29 4 rfl).trans g29
          refine stepTo_enter (f := 22) (args := #[.int .u64 2, .bool true, .slice (some ⟨a29, 0, none⟩) 1 1]) (w' := W) (by unfold execOp; simp only [hfn, s29]; go_simp) (((of_any 2 true (some ⟨a29, 0, none⟩) 1 1 W)).mono ?_)
          rintro x W' ⟨rfl, hb'⟩
          exact ⟨_, rfl, next _ _ hb' ⟨a29, rfl, hh291.below hb'⟩⟩
        · obtain ⟨a27, g27, hh271⟩ : WkzG V2.heap.size 2 (vs 2) W := hG 2 (haft 2 (by kernel_rfl))
          have s27 : ρ (.tmp 27) = .agg #[.int .u64 2, .int .i64 0, .bool false, .slice (some ⟨a27, 0, none⟩) 1 1] := (hρ.at_ 27 2 rfl).trans g27
          obtain ⟨a30, g30, hh301⟩ : WkzG V2.heap.size 5 (vs 5) W := hG 5 (haft 5 (by kernel_rfl))
          have s30 : ρ (.tmp 30) = .agg #[.int .u64 2, .int .i64 0, .bool true, .slice (some ⟨a30, 0, none⟩) 1 1] := (hρ.at_ 30 5 rfl).trans g30
          refine stepTo_enter (f := 15) (args := #[.agg #[.int .u64 2, .int .i64 0, .bool false, .slice (some ⟨a27, 0, none⟩) 1 1], .agg #[.int .u64 2, .int .i64 0, .bool true, .slice (some ⟨a30, 0, none⟩) 1 1]]) (w' := W) (by unfold execOp; simp only [hfn, s27, s30]; go_simp) (((merge_is (show lMerge ⟨2, 0, false, [(1, 1)]⟩ ⟨2, 0, true, [(1, 1)]⟩ = ⟨2, 0, true, [(1, 1)]⟩ from by decide) ⟨(some ⟨a27, 0, none⟩), 1, rfl, hh271⟩ ⟨(some ⟨a30, 0, none⟩), 1, rfl, hh301⟩ (by unfold szL; decide) (by unfold szL; decide))).mono ?_)
          rintro x W' ⟨v', rfl, ⟨u', rfl, ho'⟩, hb'⟩
          exact ⟨_, rfl, next _ _ hb' (ln_word ho')⟩
        · exact stepTo_value (v := .pointer (some ⟨W.heap.size, 0, none⟩)) (w' := W.alloc (.cells #[.int .u64 0, .int .i64 0, .bool false, .slice none 0 0] 25)) (by unfold execOp; simp only [hc]; go_simp) (next _ _ ((Below.refl _ W).alloc (Nat.le_refl _) _) ⟨W.heap.size, rfl, hb.size, Blk.new _ _ _⟩)
      · intro L' vs W3 hL hI
        obtain ⟨hb, hG⟩ := hI
        obtain ⟨Az, cz, h6, -⟩ : WkzG V2.heap.size 6 (vs 6) W3 := hG 6 (hL 6 (by decide)) (by decide)
        obtain ⟨gz, h7, hlo, hk⟩ : WkzG V2.heap.size 7 (vs 7) W3 := hG 7 (hL 7 (by decide)) (by decide)
        have hK := lnP_blk hk (.int .u64 2) (.int .i64 0) (.bool true) (.slice Az 1 cz)
        have hB : Below w.heap.size w (lnP W3 gz (.int .u64 2) (.int .i64 0) (.bool true) (.slice Az 1 cz)) := lnP_below (below_step HB0.out hb) (Nat.le_trans HB0.out.size hlo) _ _ _ _
        have nHG1 := (HG1.out.below hb).of_block (lnP_oth W3 gz (.int .u64 2) (.int .i64 0) (.bool true) (.slice Az 1 cz) (Nat.ne_of_lt (Nat.lt_of_lt_of_le HG1.out.lt hlo)))
        have nHG2 := (HG2.out.below hb).of_block (lnP_oth W3 gz (.int .u64 2) (.int .i64 0) (.bool true) (.slice Az 1 cz) (Nat.ne_of_lt (Nat.lt_of_lt_of_le HG2.out.lt hlo)))
        have nHx := (Hx.out.below hb).of_block (lnP_oth W3 gz (.int .u64 2) (.int .i64 0) (.bool true) (.slice Az 1 cz) (Nat.ne_of_lt (Nat.lt_of_lt_of_le Hx.out.lt hlo)))
        have nHy := (Hy.out.below hb).of_block (lnP_oth W3 gz (.int .u64 2) (.int .i64 0) (.bool true) (.slice Az 1 cz) (Nat.ne_of_lt (Nat.lt_of_lt_of_le Hy.out.lt hlo)))
        obtain ⟨m0, m1, m2, m3⟩ := blk_ln hk
        have f0 := hk.frozen 0
        have f1 := hk.frozen 1
        have f2 := hk.frozen 2
        have f3 := hk.frozen 3
        have hlm := hk.lt
        clear hL hG hk hb hlo HB0
        simp only [putList, putSel, if_true]
        rw [h6, h7]
        generalize vs 0 = y20
        generalize vs 1 = y21
        generalize vs 2 = y22
        generalize vs 3 = y23
        generalize vs 4 = y24
        generalize vs 5 = y25
        clear h6 h7
        simp only [Act.put, List.setIfInBounds_toArray, List.set_cons_succ, List.set_cons_zero]
        refine wpAny_one (i := 8) (by kernel_rfl) rfl rfl ?_
        go_simp
        refine ⟨by kernel_rfl, ?_⟩
        clear m0 m1 m2 m3 f0 f1 f2 f3 hlm
        show Exit.then _ _ Exit.normal _ (lnP W3 gz (.int .u64 2) (.int .i64 0) (.bool true) (.slice Az 1 cz))
        obtain ⟨V3, hV⟩ : ∃ z, lnP W3 gz (.int .u64 2) (.int .i64 0) (.bool true) (.slice Az 1 cz) = z := ⟨_, rfl⟩
        rw [hV] at hK hB ⊢
        rw [hV] at nHG1
        clear HG1
        have HG1 := Lib.hid nHG1
        clear nHG1
        rw [hV] at nHG2
        clear HG2
        have HG2 := Lib.hid nHG2
        clear nHG2
        rw [hV] at nHx
        clear Hx
        have Hx := Lib.hid nHx
        clear nHx
        rw [hV] at nHy
        clear Hy
        have Hy := Lib.hid nHy
        clear nHy
        clear hV
        have Hz := Lib.hid hK
        have HB0 := Lib.hid hB
        clear hK hB
        go_upto_region 5 with fail
        refine wp_region_pre (by kernel_rfl) 9 [32, 33, 34, 35, 36, 37, 38, 39, 6] (by kernel_rfl) (fun L vs W => Below V3.heap.size V3 W ∧ ∀ i, L i = true → i < 9 → WkwG V3.heap.size i (vs i) W) ⟨(Below.refl _ _).drew, fun i hi => by cases hi⟩ ?_ ?_
        · intro i o L vs ρ W hi51 ho hli haft hρ hI
          obtain ⟨hb, hG'⟩ := hI
          have hG : ∀ j, L j = true → WkwG V3.heap.size j (vs j) W := fun j hj => by
            by_cases h51 : j < 9
            · exact hG' j hj h51
            · match j, h51 with
              | j + 9, _ => exact trivial
          have hc := hρ.const
          have hfn := hρ.fn
          have next : ∀ v W', Below W.heap.size W W' → WkwG V3.heap.size i v W' → Below V3.heap.size V3 W' ∧ ∀ j, updB L i j = true → j < 9 → WkwG V3.heap.size j (updV vs i v j) W' := fun v W' h1 h2 => by
            refine ⟨below_step hb h1, fun j hj h51 => ?_⟩
            by_cases hji : j = i
            · subst hji
              simpa [updV] using h2
            · simp only [updB, if_neg hji] at hj
              simpa [updV, hji] using WkwG_mono V3.heap.size j _ W W' h51 (hG' j hj h51) h1
          have u0 := (HG1.out.below hb).cell 0
          have u1 := (HG1.out.below hb).cell 1
          have z0 := (HG2.out.below hb).cell 0
          have z1 := (HG2.out.below hb).cell 1
          have ul := (HG1.out.below hb).lt
          have zl := (HG2.out.below hb).lt
          simp only [List.getElem?_toArray, List.getElem?_cons_zero, List.getElem?_cons_succ] at u0 u1 z0 z1
          rcases i with _ | _ | _ | _ | _ | _ | _ | _ | _ | i
          all_goals (first | omega | skip)
          all_goals simp only [List.getElem?_toArray, List.getElem?_cons_zero, List.getElem?_cons_succ, Option.some.injEq] at ho
          all_goals subst ho
          · have o1 : ρ (.tmp 1) = .pointer (some ⟨g1, 0, none⟩) := hρ.out 1 rfl
            exact stepTo_value (w' := W) (by unfold execOp; simp only [o1, hc]; go_simp) (next _ _ (Below.refl _ _) rfl)
          · have g32 : WkwG V3.heap.size 0 (vs 0) W := hG 0 (haft 0 (by kernel_rfl))
            have s32 : ρ (.tmp 32) = .agg #[.int .u64 1, .int .u64 1] := (hρ.at_ 32 0 rfl).trans g32
            exact stepTo_value (v := .slice (some ⟨W.heap.size, 0, none⟩) 1 1) (w' := W.alloc (.cells #[.int .u64 1, .int .u64 1] 34)) (by unfold execOp; simp only [s32, hc]; go_simp) (next _ _ ((Below.refl _ W).alloc (Nat.le_refl _) _) ⟨W.heap.size, rfl, gd_lit (l := [(1, 1)]) (Blk.new _ _ _) (by decide)⟩)
          · obtain ⟨a33, g33, hh331⟩ : WkwG V3.heap.size 1 (vs 1) W := hG 1 (haft 1 (by kernel_rfl))
            have s33 : ρ (.tmp 33) = .slice (some ⟨a33, 0, none⟩) 1 1 := (hρ.at_ 33 1 rfl).trans g33
            refine stepTo_enter (f := 22) (args := #[.int .u64 2, .bool true, .slice (some ⟨a33, 0, none⟩) 1 1]) (w' := W) (by unfold execOp; simp only [hfn, s33]; go_simp) (((of_any 2 true (some ⟨a33, 0, none⟩) 1 1 W)).mono ?_)
            rintro x W' ⟨rfl, hb'⟩
            exact ⟨_, rfl, next _ _ hb' ⟨a33, rfl, hh331.below hb'⟩⟩
          · have o1 : ρ (.tmp 1) = .pointer (some ⟨g1, 0, none⟩) := hρ.out 1 rfl
            exact stepTo_value (w' := W) (by unfold execOp; simp only [o1, hc]; go_simp) (next _ _ (Below.refl _ _) rfl)
          · refine stepTo_enter (f := 21) (args := #[.int .u64 2, .int .u64 1]) (w' := W) (by unfold execOp; simp only [hfn, ]; go_simp) (((guid_any 2 1 W)).mono ?_)
            rintro x W' ⟨rfl, hb'⟩
            exact ⟨_, rfl, next _ _ hb' rfl⟩
          · have g35 : WkwG V3.heap.size 3 (vs 3) W := hG 3 (haft 3 (by kernel_rfl))
            have s35 : ρ (.tmp 35) = .agg #[.int .u64 1, .int .u64 1] := (hρ.at_ 35 3 rfl).trans g35
            have g36 : WkwG V3.heap.size 4 (vs 4) W := hG 4 (haft 4 (by kernel_rfl))
            have s36 : ρ (.tmp 36) = .agg #[.int .u64 2, .int .u64 1] := (hρ.at_ 36 4 rfl).trans g36
            exact stepTo_value (v := .slice (some ⟨W.heap.size, 0, none⟩) 2 2) (w' := W.alloc (.cells #[.int .u64 1, .int .u64 1, .int .u64 2, .int .u64 1] 34)) (by unfold execOp; simp only [s35, s36, hc]; go_simp) (next _ _ ((Below.refl _ W).alloc (Nat.le_refl _) _) ⟨W.heap.size, rfl, gd_lit (l := [(1, 1), (2, 1)]) (Blk.new _ _ _) (by decide)⟩)
          · obtain ⟨a37, g37, hh371⟩ : WkwG V3.heap.size 5 (vs 5) W := hG 5 (haft 5 (by kernel_rfl))
            have s37 : ρ (.tmp 37) = .slice (some ⟨a37, 0, none⟩) 2 2 := (hρ.at_ 37 5 rfl).trans g37
            refine stepTo_enter (f := 22) (args := #[.int .u64 2, .bool false, .slice (some ⟨a37, 0, none⟩) 2 2]) (w' := W) (by unfold execOp; simp only [hfn, s37]; go_simp) (((of_any 2 false (some ⟨a37, 0, none⟩) 2 2 W)).mono ?_)
            rintro x W' ⟨rfl, hb'⟩
            exact ⟨_, rfl, next _ _ hb' ⟨a37, rfl, hh371.below hb'⟩⟩
          · obtain ⟨a34, g34, hh341⟩ : WkwG V3.heap.size 2 (vs 2) W := hG 2 (haft 2 (by kernel_rfl))
            have s34 : ρ (.tmp 34) = .agg #[.int .u64 2, .int .i64 0, .bool true, .slice (some ⟨a34, 0, none⟩) 1 1] := (hρ.at_ 34 2 rfl).trans g34
            obtain ⟨a38, g38, hh381⟩ : WkwG V3.heap.size 6 (vs 6) W := hG 6 (haft 6 (by kernel_rfl))
            have s38 : ρ (.tmp 38) = .agg #[.int .u64 2, .int .i64 0, .bool false, .slice (some ⟨a38, 0, none⟩) 2 2] := (hρ.at_ 38 6 rfl).trans g38
            refine stepTo_enter (f := 15) (args := #[.agg #[.int .u64 2, .int .i64 0, .bool true, .slice (some ⟨a34, 0, none⟩) 1 1], .agg #[.int .u64 2, .int .i64 0, .bool false, .slice (some ⟨a38, 0, none⟩) 2 2]]) (w' := W) (by unfold execOp; simp only [hfn, s34, s38]; go_simp) (((merge_is (show lMerge ⟨2, 0, true, [(1, 1)]⟩ ⟨2, 0, false, [(1, 1), (2, 1)]⟩ = ⟨2, 0, false, [(1, 1), (2, 1)]⟩ from by decide) ⟨(some ⟨a34, 0, none⟩), 1, rfl, hh341⟩ ⟨(some ⟨a38, 0, none⟩), 2, rfl, hh381⟩ (by unfold szL; decide) (by unfold szL; decide))).mono ?_)
            rintro x W' ⟨v', rfl, ⟨u', rfl, ho'⟩, hb'⟩
            exact ⟨_, rfl, next _ _ hb' (ln_word ho')⟩
          · exact stepTo_value (v := .pointer (some ⟨W.heap.size, 0, none⟩)) (w' := W.alloc (.cells #[.int .u64 0, .int .i64 0, .bool false, .slice none 0 0] 25)) (by unfold execOp; simp only [hc]; go_simp) (next _ _ ((Below.refl _ W).alloc (Nat.le_refl _) _) ⟨W.heap.size, rfl, hb.size, Blk.new _ _ _⟩)
        · intro L' vs W3 hL hI
          obtain ⟨hb, hG⟩ := hI
          obtain ⟨Aw, cw, h7, -⟩ : WkwG V3.heap.size 7 (vs 7) W3 := hG 7 (hL 7 (by decide)) (by decide)
          obtain ⟨gw, h8, hlo, hk⟩ : WkwG V3.heap.size 8 (vs 8) W3 := hG 8 (hL 8 (by decide)) (by decide)
          have hK := lnP_blk hk (.int .u64 2) (.int .i64 0) (.bool false) (.slice Aw 2 cw)
          have hB : Below w.heap.size w (lnP W3 gw (.int .u64 2) (.int .i64 0) (.bool false) (.slice Aw 2 cw)) := lnP_below (below_step HB0.out hb) (Nat.le_trans HB0.out.size hlo) _ _ _ _
          have nHG1 := (HG1.out.below hb).of_block (lnP_oth W3 gw (.int .u64 2) (.int .i64 0) (.bool false) (.slice Aw 2 cw) (Nat.ne_of_lt (Nat.lt_of_lt_of_le HG1.out.lt hlo)))
          have nHG2 := (HG2.out.below hb).of_block (lnP_oth W3 gw (.int .u64 2) (.int .i64 0) (.bool false) (.slice Aw 2 cw) (Nat.ne_of_lt (Nat.lt_of_lt_of_le HG2.out.lt hlo)))
          have nHx := (Hx.out.below hb).of_block (lnP_oth W3 gw (.int .u64 2) (.int .i64 0) (.bool false) (.slice Aw 2 cw) (Nat.ne_of_lt (Nat.lt_of_lt_of_le Hx.out.lt hlo)))
          have nHy := (Hy.out.below hb).of_block (lnP_oth W3 gw (.int .u64 2) (.int .i64 0) (.bool false) (.slice Aw 2 cw) (Nat.ne_of_lt (Nat.lt_of_lt_of_le Hy.out.lt hlo)))
          have nHz := (Hz.out.below hb).of_block (lnP_oth W3 gw (.int .u64 2) (.int .i64 0) (.bool false) (.slice Aw 2 cw) (Nat.ne_of_lt (Nat.lt_of_lt_of_le Hz.out.lt hlo)))
          obtain ⟨m0, m1, m2, m3⟩ := blk_ln hk
          have f0 := hk.frozen 0
          have f1 := hk.frozen 1
          have f2 := hk.frozen 2
          have f3 := hk.frozen 3
          have hlm := hk.lt
          clear hL hG hk hb hlo HB0
          simp only [putList, putSel, if_true]
          rw [h7, h8]
          generalize vs 0 = y30
          generalize vs 1 = y31
          generalize vs 2 = y32
          generalize vs 3 = y33
          generalize vs 4 = y34
          generalize vs 5 = y35
          generalize vs 6 = y36
          clear h7 h8
          simp only [Act.put, List.setIfInBounds_toArray, List.set_cons_succ, List.set_cons_zero]
          refine wpAny_one (i := 9) (by kernel_rfl) rfl rfl ?_
          go_simp
          refine ⟨by kernel_rfl, ?_⟩
          clear m0 m1 m2 m3 f0 f1 f2 f3 hlm
          show Exit.then _ _ Exit.normal _ (lnP W3 gw (.int .u64 2) (.int .i64 0) (.bool false) (.slice Aw 2 cw))
          obtain ⟨V4, hV⟩ : ∃ z, lnP W3 gw (.int .u64 2) (.int .i64 0) (.bool false) (.slice Aw 2 cw) = z := ⟨_, rfl⟩
          rw [hV] at hK hB ⊢
          rw [hV] at nHG1
          clear HG1
          have HG1 := Lib.hid nHG1
          clear nHG1
          rw [hV] at nHG2
          clear HG2
          have HG2 := Lib.hid nHG2
          clear nHG2
          rw [hV] at nHx
          clear Hx
          have Hx := Lib.hid nHx
          clear nHx
          rw [hV] at nHy
          clear Hy
          have Hy := Lib.hid nHy
          clear nHy
          rw [hV] at nHz
          clear Hz
          have Hz := Lib.hid nHz
          clear nHz
          clear hV
          have Hw := Lib.hid hK
          have HB0 := Lib.hid hB
          clear hK hB
          go_upto_region 6 with fail
          refine wp_region_inv (by kernel_rfl) [40, 41, 42, 43, 44, 7] (by kernel_rfl) (fun L vs W => Below V4.heap.size V4 W ∧ ∀ i, L i = true → i < 6 → WkLG  i (vs i) W) ⟨(Below.refl _ _).drew, fun i hi => by cases hi⟩ ?_ ?_ ?_
          · intro i o L vs ρ W ho hli haft hρ hgd hI
            obtain ⟨hb, hG'⟩ := hI
            have hG : ∀ j, L j = true → WkLG  j (vs j) W := fun j hj => by
              by_cases h51 : j < 6
              · exact hG' j hj h51
              · match j, h51 with
                | j + 6, _ => exact trivial
            have hi51 : i < 6 := (Array.getElem?_eq_some_iff.1 ho).1
            have hc := hρ.const
            have hfn := hρ.fn
            have next : ∀ v W', Below W.heap.size W W' → WkLG  i v W' → Below V4.heap.size V4 W' ∧ ∀ j, updB L i j = true → j < 6 → WkLG  j (updV vs i v j) W' := fun v W' h1 h2 => by
              refine ⟨below_step hb h1, fun j hj h51 => ?_⟩
              by_cases hji : j = i
              · subst hji
                simpa [updV] using h2
              · simp only [updB, if_neg hji] at hj
                simpa [updV, hji] using WkLG_mono  j _ W W' h51 (hG' j hj h51) h1
            have u0 := (HG1.out.below hb).cell 0
            have u1 := (HG1.out.below hb).cell 1
            have z0 := (HG2.out.below hb).cell 0
            have z1 := (HG2.out.below hb).cell 1
            have ul := (HG1.out.below hb).lt
            have zl := (HG2.out.below hb).lt
            simp only [List.getElem?_toArray, List.getElem?_cons_zero, List.getElem?_cons_succ] at u0 u1 z0 z1
            rcases i with _ | _ | _ | _ | _ | _ | i
            all_goals (first | omega | skip)
            all_goals simp only [List.getElem?_toArray, List.getElem?_cons_zero, List.getElem?_cons_succ, Option.some.injEq] at ho
            all_goals subst ho
            · have o1 : ρ (.tmp 1) = .pointer (some ⟨g1, 0, none⟩) := hρ.out 1 rfl
              exact stepTo_value (w' := W) (by unfold execOp; simp only [o1, hc]; go_simp) (next _ _ (Below.refl _ _) rfl)
            · have o2 : ρ (.tmp 2) = .pointer (some ⟨g2, 0, none⟩) := hρ.out 2 rfl
              exact stepTo_value (w' := W) (by unfold execOp; simp only [o2, hc]; go_simp) (next _ _ (Below.refl _ _) rfl)
            · refine stepTo_enter (f := 21) (args := #[.int .u64 2, .int .u64 1]) (w' := W) (by unfold execOp; simp only [hfn, ]; go_simp) (((guid_any 2 1 W)).mono ?_)
              rintro x W' ⟨rfl, hb'⟩
              exact ⟨_, rfl, next _ _ hb' rfl⟩
            · refine stepTo_enter (f := 21) (args := #[.int .u64 1, .int .u64 9]) (w' := W) (by unfold execOp; simp only [hfn, ]; go_simp) (((guid_any 1 9 W)).mono ?_)
              rintro x W' ⟨rfl, hb'⟩
              exact ⟨_, rfl, next _ _ hb' rfl⟩
            · have g40 : WkLG  0 (vs 0) W := hG 0 (haft 0 (by kernel_rfl))
              have s40 : ρ (.tmp 40) = .agg #[.int .u64 1, .int .u64 1] := (hρ.at_ 40 0 rfl).trans g40
              have g41 : WkLG  1 (vs 1) W := hG 1 (haft 1 (by kernel_rfl))
              have s41 : ρ (.tmp 41) = .agg #[.int .u64 1, .int .u64 2] := (hρ.at_ 41 1 rfl).trans g41
              have g42 : WkLG  2 (vs 2) W := hG 2 (haft 2 (by kernel_rfl))
              have s42 : ρ (.tmp 42) = .agg #[.int .u64 2, .int .u64 1] := (hρ.at_ 42 2 rfl).trans g42
              have g43 : WkLG  3 (vs 3) W := hG 3 (haft 3 (by kernel_rfl))
              have s43 : ρ (.tmp 43) = .agg #[.int .u64 1, .int .u64 9] := (hρ.at_ 43 3 rfl).trans g43
              exact stepTo_value (v := .slice (some ⟨W.heap.size, 0, none⟩) 4 4) (w' := W.alloc (.cells #[.int .u64 1, .int .u64 1, .int .u64 1, .int .u64 2, .int .u64 2, .int .u64 1, .int .u64 1, .int .u64 9] 34)) (by unfold execOp; simp only [s40, s41, s42, s43, hc]; go_simp) (next _ _ ((Below.refl _ W).alloc (Nat.le_refl _) _) ⟨W.heap.size, rfl, gd_lit (l := [(1, 1), (1, 2), (2, 1), (1, 9)]) (Blk.new _ _ _) (by decide)⟩)
            · obtain ⟨a44, g44, hh441⟩ : WkLG  4 (vs 4) W := hG 4 (haft 4 (by kernel_rfl))
              have s44 : ρ (.tmp 44) = .slice (some ⟨a44, 0, none⟩) 4 4 := (hρ.at_ 44 4 rfl).trans g44
              exact stepTo_value (v := .slice (some ⟨a44, 0, none⟩) 4 4) (w' := W) (by unfold execOp; simp only [s44, hc]; go_simp) (next _ _ (Below.refl _ _) ⟨a44, rfl, hh441⟩)
          · intro i o L vs W j want ho hli haft hg hv hI
            obtain ⟨hb, hG'⟩ := hI
            have hG : ∀ j, L j = true → WkLG  j (vs j) W := fun j hj => by
              by_cases h51 : j < 6
              · exact hG' j hj h51
              · match j, h51 with
                | j + 6, _ => exact trivial
            have hi51 : i < 6 := (Array.getElem?_eq_some_iff.1 ho).1
            rcases i with _ | _ | _ | _ | _ | _ | i
            all_goals (first | omega | skip)
            all_goals simp only [List.getElem?_toArray, List.getElem?_cons_zero, List.getElem?_cons_succ, Option.some.injEq] at ho
            all_goals subst ho
            all_goals simp only [reduceCtorEq, Option.some.injEq, Prod.mk.injEq] at hg
          intro vs V5 hI
          obtain ⟨hb, hG⟩ := hI
          obtain ⟨al, h5, hl⟩ : WkLG 5 (vs 5) V5 := hG 5 (by kernel_rfl) (by decide)
          have HB5 := Lib.hid (below_step HB0.out hb)
          have HL := Lib.hid hl
          have nHG1 := HG1.out.below hb
          clear HG1
          have HG1 := Lib.hid nHG1
          clear nHG1
          have nHG2 := HG2.out.below hb
          clear HG2
          have HG2 := Lib.hid nHG2
          clear nHG2
          have nHx := Hx.out.below hb
          clear Hx
          have Hx := Lib.hid nHx
          clear nHx
          have nHy := Hy.out.below hb
          clear Hy
          have Hy := Lib.hid nHy
          clear nHy
          have nHz := Hz.out.below hb
          clear Hz
          have Hz := Lib.hid nHz
          clear nHz
          have nHw := Hw.out.below hb
          clear Hw
          have Hw := Lib.hid nHw
          clear nHw
          clear hb hG hl HB0
          simp only [putList, putSel, if_true]
          rw [h5]
          generalize vs 0 = yl0
          generalize vs 1 = yl1
          generalize vs 2 = yl2
          generalize vs 3 = yl3
          generalize vs 4 = yl4
          clear h5
          simp only [Act.put, List.setIfInBounds_toArray, List.set_cons_succ, List.set_cons_zero]
          go_upto_region 7 with fail
          refine wp_region_inv (by kernel_rfl) [45, 46, 47, 48, 49, 50, 51, 52, 53, 54, 55, 56, 57, 58, 59, 60, 61, 62, 63, 64, 65, 66, 67, 68, 69, 70, 71, 72, 73, 74, 75, 76, 77, 78, 79, 80, 81, 82, 83, 84, 85, 86, 87, 88, 89, 90, 91, 92, 93, 94, 95, 96, 97, 98, 99, 100, 101, 102, 103, 104, 105, 106, 107, 108, 109, 110, 111, 112, 113, 114, 115, 116, 0] (by kernel_rfl) (fun L vs W => Below V5.heap.size V5 W ∧ ∀ i, L i = true → i < 73 → WkRG Ax Ay Az Aw cx cy cz cw gx gy gz gw al i (vs i) W) ⟨(Below.refl _ _).drew, fun i hi => by cases hi⟩ ?_ ?_ ?_
          · intro i o L vs ρ W ho hli haft hρ hgd hI
            obtain ⟨hb, hG'⟩ := hI
            have hG : ∀ j, L j = true → WkRG Ax Ay Az Aw cx cy cz cw gx gy gz gw al j (vs j) W := fun j hj => by
              by_cases h51 : j < 73
              · exact hG' j hj h51
              · match j, h51 with
                | j + 73, _ => exact trivial
            have hi51 : i < 73 := (Array.getElem?_eq_some_iff.1 ho).1
            have hc := hρ.const
            have hfn := hρ.fn
            have next : ∀ v W', Below W.heap.size W W' → WkRG Ax Ay Az Aw cx cy cz cw gx gy gz gw al i v W' → Below V5.heap.size V5 W' ∧ ∀ j, updB L i j = true → j < 73 → WkRG Ax Ay Az Aw cx cy cz cw gx gy gz gw al j (updV vs i v j) W' := fun v W' h1 h2 => by
              refine ⟨below_step hb h1, fun j hj h51 => ?_⟩
              by_cases hji : j = i
              · subst hji
                simpa [updV] using h2
              · simp only [updB, if_neg hji] at hj
                simpa [updV, hji] using WkRG_mono Ax Ay Az Aw cx cy cz cw gx gy gz gw al j _ W W' h51 (hG' j hj h51) h1
            have u0 := (HG1.out.below hb).cell 0
            have u1 := (HG1.out.below hb).cell 1
            have z0 := (HG2.out.below hb).cell 0
            have z1 := (HG2.out.below hb).cell 1
            have ul := (HG1.out.below hb).lt
            have zl := (HG2.out.below hb).lt
            have x0 := (Hx.out.below hb).cell 0
            have y3 := (Hy.out.below hb).cell 3
            have v2 := (Hz.out.below hb).cell 2
            have w3 := (Hw.out.below hb).cell 3
            have xl := (Hx.out.below hb).lt
            have yl := (Hy.out.below hb).lt
            have vl := (Hz.out.below hb).lt
            have wl := (Hw.out.below hb).lt
            simp only [List.getElem?_toArray, List.getElem?_cons_zero, List.getElem?_cons_succ] at u0 u1 z0 z1 x0 y3 v2 w3
            simp only [List.append_eq, List.cons_append, List.nil_append] at ho
            rcases i with _ | _ | _ | _ | _ | _ | _ | _ | _ | _ | _ | _ | _ | _ | _ | _ | _ | _ | _ | _ | _ | _ | _ | _ | _ | _ | _ | _ | _ | _ | _ | _ | _ | _ | _ | _ | _ | _ | _ | _ | _ | _ | _ | _ | _ | _ | _ | _ | _ | _ | _ | _ | _ | _ | _ | _ | _ | _ | _ | _ | _ | _ | _ | _ | _ | _ | _ | _ | _ | _ | _ | _ | _ | i
            all_goals (first | omega | skip)
            all_goals simp only [List.getElem?_toArray, List.getElem?_cons_zero, List.getElem?_cons_succ, Option.some.injEq] at ho
            all_goals subst ho
            · have o3 : ρ (.tmp 3) = .pointer (some ⟨gx, 0, none⟩) := hρ.out 3 rfl
              exact stepTo_value (w' := W) (by unfold execOp; simp only [o3, hc]; go_simp) (next _ _ (Below.refl _ _) rfl)
            · have g45 : WkRG Ax Ay Az Aw cx cy cz cw gx gy gz gw al 0 (vs 0) W := hG 0 (haft 0 (by kernel_rfl))
              have s45 : ρ (.tmp 45) = .pointer (some ⟨gx, 0, none⟩) := (hρ.at_ 45 0 rfl).trans g45
              exact stepTo_value (w' := W) (by unfold execOp; simp only [s45, hc]; go_simp) (next _ _ (Below.refl _ _) rfl)
            · have g46 : WkRG Ax Ay Az Aw cx cy cz cw gx gy gz gw al 1 (vs 1) W := hG 1 (haft 1 (by kernel_rfl))
              have s46 : ρ (.tmp 46) = .int .u64 3 := (hρ.at_ 46 1 rfl).trans g46
              exact stepTo_value (w' := W) (by unfold execOp; simp only [s46, hc]; go_simp) (next _ _ (Below.refl _ _) rfl)
            · have g47 : WkRG Ax Ay Az Aw cx cy cz cw gx gy gz gw al 2 (vs 2) W := hG 2 (haft 2 (by kernel_rfl))
              have s47 : ρ (.tmp 47) = .bool true := (hρ.at_ 47 2 rfl).trans g47
              exact stepTo_value (w' := W) (by unfold execOp; simp only [s47, hc]; go_simp) (next _ _ (Below.refl _ _) rfl)
            · have o4 : ρ (.tmp 4) = .pointer (some ⟨gy, 0, none⟩) := hρ.out 4 rfl
              exact stepTo_value (w' := W) (by unfold execOp; simp only [o4, hc]; go_simp) (next _ _ (Below.refl _ _) rfl)
            · have g49 : WkRG Ax Ay Az Aw cx cy cz cw gx gy gz gw al 4 (vs 4) W := hG 4 (haft 4 (by kernel_rfl))
              have s49 : ρ (.tmp 49) = .pointer (some ⟨gy, 3, none⟩) := (hρ.at_ 49 4 rfl).trans g49
              exact stepTo_value (w' := W) (by unfold execOp; simp only [s49, hc]; go_simp) (next _ _ (Below.refl _ _) rfl)
            · have g50 : WkRG Ax Ay Az Aw cx cy cz cw gx gy gz gw al 5 (vs 5) W := hG 5 (haft 5 (by kernel_rfl))
              have s50 : ρ (.tmp 50) = .slice Ay 2 cy := (hρ.at_ 50 5 rfl).trans g50
              exact stepTo_value (w' := W) (by unfold execOp; simp only [s50, hc]; go_simp) (next _ _ (Below.refl _ _) rfl)
            · have g51 : WkRG Ax Ay Az Aw cx cy cz cw gx gy gz gw al 6 (vs 6) W := hG 6 (haft 6 (by kernel_rfl))
              have s51 : ρ (.tmp 51) = .int .i64 2 := (hρ.at_ 51 6 rfl).trans g51
              exact stepTo_value (w' := W) (by unfold execOp; simp only [s51, hc]; go_simp) (next _ _ (Below.refl _ _) rfl)
            · have g48 : WkRG Ax Ay Az Aw cx cy cz cw gx gy gz gw al 3 (vs 3) W := hG 3 (haft 3 (by kernel_rfl))
              have s48 : ρ (.tmp 48) = .bool true := (hρ.at_ 48 3 rfl).trans g48
              have g52 : WkRG Ax Ay Az Aw cx cy cz cw gx gy gz gw al 7 (vs 7) W := hG 7 (haft 7 (by kernel_rfl))
              have s52 : ρ (.tmp 52) = .bool true := (hρ.at_ 52 7 rfl).trans g52
              exact stepTo_value (w' := W) (by unfold execOp; simp only [s48, s52, hc]; go_simp) (next _ _ (Below.refl _ _) rfl)
            · have g53 : WkRG Ax Ay Az Aw cx cy cz cw gx gy gz gw al 8 (vs 8) W := hG 8 (haft 8 (by kernel_rfl))
              have s53 : ρ (.tmp 53) = .bool true := (hρ.at_ 53 8 rfl).trans g53
              exact stepTo_value (w' := W) (by unfold execOp; simp only [s53, hc]; go_simp) (next _ _ (Below.refl _ _) rfl)
            · have o5 : ρ (.tmp 5) = .pointer (some ⟨gz, 0, none⟩) := hρ.out 5 rfl
              exact stepTo_value (w' := W) (by unfold execOp; simp only [o5, hc]; go_simp) (next _ _ (Below.refl _ _) rfl)
            · have g55 : WkRG Ax Ay Az Aw cx cy cz cw gx gy gz gw al 10 (vs 10) W := hG 10 (haft 10 (by kernel_rfl))
              have s55 : ρ (.tmp 55) = .pointer (some ⟨gz, 2, none⟩) := (hρ.at_ 55 10 rfl).trans g55
              exact stepTo_value (w' := W) (by unfold execOp; simp only [s55, hc]; go_simp) (next _ _ (Below.refl _ _) rfl)
            · have g54 : WkRG Ax Ay Az Aw cx cy cz cw gx gy gz gw al 9 (vs 9) W := hG 9 (haft 9 (by kernel_rfl))
              have s54 : ρ (.tmp 54) = .bool true := (hρ.at_ 54 9 rfl).trans g54
              have g56 : WkRG Ax Ay Az Aw cx cy cz cw gx gy gz gw al 11 (vs 11) W := hG 11 (haft 11 (by kernel_rfl))
              have s56 : ρ (.tmp 56) = .bool true := (hρ.at_ 56 11 rfl).trans g56
              exact stepTo_value (w' := W) (by unfold execOp; simp only [s54, s56, hc]; go_simp) (next _ _ (Below.refl _ _) rfl)
            · have g57 : WkRG Ax Ay Az Aw cx cy cz cw gx gy gz gw al 12 (vs 12) W := hG 12 (haft 12 (by kernel_rfl))
              have s57 : ρ (.tmp 57) = .bool true := (hρ.at_ 57 12 rfl).trans g57
              exact stepTo_value (w' := W) (by unfold execOp; simp only [s57, hc]; go_simp) (next _ _ (Below.refl _ _) rfl)
            · have o6 : ρ (.tmp 6) = .pointer (some ⟨gw, 0, none⟩) := hρ.out 6 rfl
              exact stepTo_value (w' := W) (by unfold execOp; simp only [o6, hc]; go_simp) (next _ _ (Below.refl _ _) rfl)
            · have g59 : WkRG Ax Ay Az Aw cx cy cz cw gx gy gz gw al 14 (vs 14) W := hG 14 (haft 14 (by kernel_rfl))
              have s59 : ρ (.tmp 59) = .pointer (some ⟨gw, 3, none⟩) := (hρ.at_ 59 14 rfl).trans g59
              exact stepTo_value (w' := W) (by unfold execOp; simp only [s59, hc]; go_simp) (next _ _ (Below.refl _ _) rfl)
            · have g60 : WkRG Ax Ay Az Aw cx cy cz cw gx gy gz gw al 15 (vs 15) W := hG 15 (haft 15 (by kernel_rfl))
              have s60 : ρ (.tmp 60) = .slice Aw 2 cw := (hρ.at_ 60 15 rfl).trans g60
              exact stepTo_value (w' := W) (by unfold execOp; simp only [s60, hc]; go_simp) (next _ _ (Below.refl _ _) rfl)
            · have g61 : WkRG Ax Ay Az Aw cx cy cz cw gx gy gz gw al 16 (vs 16) W := hG 16 (haft 16 (by kernel_rfl))
              have s61 : ρ (.tmp 61) = .int .i64 2 := (hρ.at_ 61 16 rfl).trans g61
              exact stepTo_value (w' := W) (by unfold execOp; simp only [s61, hc]; go_simp) (next _ _ (Below.refl _ _) rfl)
            · have g58 : WkRG Ax Ay Az Aw cx cy cz cw gx gy gz gw al 13 (vs 13) W := hG 13 (haft 13 (by kernel_rfl))
              have s58 : ρ (.tmp 58) = .bool true := (hρ.at_ 58 13 rfl).trans g58
              have g62 : WkRG Ax Ay Az Aw cx cy cz cw gx gy gz gw al 17 (vs 17) W := hG 17 (haft 17 (by kernel_rfl))
              have s62 : ρ (.tmp 62) = .bool true := (hρ.at_ 62 17 rfl).trans g62
              exact stepTo_value (w' := W) (by unfold execOp; simp only [s58, s62, hc]; go_simp) (next _ _ (Below.refl _ _) rfl)
            · have g63 : WkRG Ax Ay Az Aw cx cy cz cw gx gy gz gw al 18 (vs 18) W := hG 18 (haft 18 (by kernel_rfl))
              have s63 : ρ (.tmp 63) = .bool true := (hρ.at_ 63 18 rfl).trans g63
              exact stepTo_value (w' := W) (by unfold execOp; simp only [s63, hc]; go_simp) (next _ _ (Below.refl _ _) rfl)
            · have o1 : ρ (.tmp 1) = .pointer (some ⟨g1, 0, none⟩) := hρ.out 1 rfl
              exact stepTo_value (w' := W) (by unfold execOp; simp only [o1, hc]; go_simp) (next _ _ (Below.refl _ _) rfl)
            · have o2 : ρ (.tmp 2) = .pointer (some ⟨g2, 0, none⟩) := hρ.out 2 rfl
              exact stepTo_value (w' := W) (by unfold execOp; simp only [o2, hc]; go_simp) (next _ _ (Below.refl _ _) rfl)
            · refine stepTo_enter (f := 21) (args := #[.int .u64 1, .int .u64 3]) (w' := W) (by unfold execOp; simp only [hfn, ]; go_simp) (((guid_any 1 3 W)).mono ?_)
              rintro x W' ⟨rfl, hb'⟩
              exact ⟨_, rfl, next _ _ hb' rfl⟩
            · have g65 : WkRG Ax Ay Az Aw cx cy cz cw gx gy gz gw al 20 (vs 20) W := hG 20 (haft 20 (by kernel_rfl))
              have s65 : ρ (.tmp 65) = .agg #[.int .u64 1, .int .u64 1] := (hρ.at_ 65 20 rfl).trans g65
              have g66 : WkRG Ax Ay Az Aw cx cy cz cw gx gy gz gw al 21 (vs 21) W := hG 21 (haft 21 (by kernel_rfl))
              have s66 : ρ (.tmp 66) = .agg #[.int .u64 1, .int .u64 2] := (hρ.at_ 66 21 rfl).trans g66
              have g67 : WkRG Ax Ay Az Aw cx cy cz cw gx gy gz gw al 22 (vs 22) W := hG 22 (haft 22 (by kernel_rfl))
              have s67 : ρ (.tmp 67) = .agg #[.int .u64 1, .int .u64 3] := (hρ.at_ 67 22 rfl).trans g67
              exact stepTo_value (v := .slice (some ⟨W.heap.size, 0, none⟩) 3 3) (w' := W.alloc (.cells #[.int .u64 1, .int .u64 1, .int .u64 1, .int .u64 2, .int .u64 1, .int .u64 3] 34)) (by unfold execOp; simp only [s65, s66, s67, hc]; go_simp) (next _ _ ((Below.refl _ W).alloc (Nat.le_refl _) _) ⟨W.heap.size, rfl, gd_lit (l := [(1, 1), (1, 2), (1, 3)]) (Blk.new _ _ _) (by decide)⟩)
            · have o1 : ρ (.tmp 1) = .pointer (some ⟨g1, 0, none⟩) := hρ.out 1 rfl
              exact stepTo_value (w' := W) (by unfold execOp; simp only [o1, hc]; go_simp) (next _ _ (Below.refl _ _) rfl)
            · have o2 : ρ (.tmp 2) = .pointer (some ⟨g2, 0, none⟩) := hρ.out 2 rfl
              exact stepTo_value (w' := W) (by unfold execOp; simp only [o2, hc]; go_simp) (next _ _ (Below.refl _ _) rfl)
            · refine stepTo_enter (f := 21) (args := #[.int .u64 2, .int .u64 1]) (w' := W) (by unfold execOp; simp only [hfn, ]; go_simp) (((guid_any 2 1 W)).mono ?_)
              rintro x W' ⟨rfl, hb'⟩
              exact ⟨_, rfl, next _ _ hb' rfl⟩
            · have g69 : WkRG Ax Ay Az Aw cx cy cz cw gx gy gz gw al 24 (vs 24) W := hG 24 (haft 24 (by kernel_rfl))
              have s69 : ρ (.tmp 69) = .agg #[.int .u64 1, .int .u64 1] := (hρ.at_ 69 24 rfl).trans g69
              have g70 : WkRG Ax Ay Az Aw cx cy cz cw gx gy gz gw al 25 (vs 25) W := hG 25 (haft 25 (by kernel_rfl))
              have s70 : ρ (.tmp 70) = .agg #[.int .u64 1, .int .u64 2] := (hρ.at_ 70 25 rfl).trans g70
              have g71 : WkRG Ax Ay Az Aw cx cy cz cw gx gy gz gw al 26 (vs 26) W := hG 26 (haft 26 (by kernel_rfl))
              have s71 : ρ (.tmp 71) = .agg #[.int .u64 2, .int .u64 1] := (hρ.at_ 71 26 rfl).trans g71
              exact stepTo_value (v := .slice (some ⟨W.heap.size, 0, none⟩) 3 3) (w' := W.alloc (.cells #[.int .u64 1, .int .u64 1, .int .u64 1, .int .u64 2, .int .u64 2, .int .u64 1] 34)) (by unfold execOp; simp only [s69, s70, s71, hc]; go_simp) (next _ _ ((Below.refl _ W).alloc (Nat.le_refl _) _) ⟨W.heap.size, rfl, gd_lit (l := [(1, 1), (1, 2), (2, 1)]) (Blk.new _ _ _) (by decide)⟩)
            · obtain ⟨a72, g72, hh721⟩ : WkRG Ax Ay Az Aw cx cy cz cw gx gy gz gw al 27 (vs 27) W := hG 27 (haft 27 (by kernel_rfl))
              have s72 : ρ (.tmp 72) = .slice (some ⟨a72, 0, none⟩) 3 3 := (hρ.at_ 72 27 rfl).trans g72
              refine stepTo_enter (f := 22) (args := #[.int .u64 2, .bool false, .slice (some ⟨a72, 0, none⟩) 3 3]) (w' := W) (by unfold execOp; simp only [hfn, s72]; go_simp) (((of_any 2 false (some ⟨a72, 0, none⟩) 3 3 W)).mono ?_)
              rintro x W' ⟨rfl, hb'⟩
              exact ⟨_, rfl, next _ _ hb' ⟨a72, rfl, hh721.below hb'⟩⟩
            · obtain ⟨a68, g68, hh681⟩ : WkRG Ax Ay Az Aw cx cy cz cw gx gy gz gw al 23 (vs 23) W := hG 23 (haft 23 (by kernel_rfl))
              have s68 : ρ (.tmp 68) = .slice (some ⟨a68, 0, none⟩) 3 3 := (hρ.at_ 68 23 rfl).trans g68
              obtain ⟨a73, g73, hh731⟩ : WkRG Ax Ay Az Aw cx cy cz cw gx gy gz gw al 28 (vs 28) W := hG 28 (haft 28 (by kernel_rfl))
              have s73 : ρ (.tmp 73) = .agg #[.int .u64 2, .int .i64 0, .bool false, .slice (some ⟨a73, 0, none⟩) 3 3] := (hρ.at_ 73 28 rfl).trans g73
              refine stepTo_enter (f := 17) (args := #[.slice (some ⟨a68, 0, none⟩) 3 3, .agg #[.int .u64 2, .int .i64 0, .bool false, .slice (some ⟨a73, 0, none⟩) 3 3]]) (w' := W) (by unfold execOp; simp only [hfn, s68, s73]; go_simp) (((common_is (l := [(1, 1), (1, 2), (1, 3)]) (v := .agg #[.int .u64 2, .int .i64 0, .bool false, .slice (some ⟨a73, 0, none⟩) 3 3]) (L := ⟨2, 0, false, [(1, 1), (1, 2), (2, 1)]⟩) (n := 2) (by decide) hh681 ⟨(some ⟨a73, 0, none⟩), 3, rfl, hh731⟩ (by decide) (by decide))).mono ?_)
              rintro x W' ⟨rfl, hb'⟩
              exact ⟨_, rfl, next _ _ hb' rfl⟩
            · have g74 : WkRG Ax Ay Az Aw cx cy cz cw gx gy gz gw al 29 (vs 29) W := hG 29 (haft 29 (by kernel_rfl))
              have s74 : ρ (.tmp 74) = .int .i64 2 := (hρ.at_ 74 29 rfl).trans g74
              exact stepTo_value (w' := W) (by unfold execOp; simp only [s74, hc]; go_simp) (next _ _ (Below.refl _ _) rfl)
            · have g64 : WkRG Ax Ay Az Aw cx cy cz cw gx gy gz gw al 19 (vs 19) W := hG 19 (haft 19 (by kernel_rfl))
              have s64 : ρ (.tmp 64) = .bool true := (hρ.at_ 64 19 rfl).trans g64
              have g75 : WkRG Ax Ay Az Aw cx cy cz cw gx gy gz gw al 30 (vs 30) W := hG 30 (haft 30 (by kernel_rfl))
              have s75 : ρ (.tmp 75) = .bool true := (hρ.at_ 75 30 rfl).trans g75
              exact stepTo_value (w' := W) (by unfold execOp; simp only [s64, s75, hc]; go_simp) (next _ _ (Below.refl _ _) rfl)
            · have g76 : WkRG Ax Ay Az Aw cx cy cz cw gx gy gz gw al 31 (vs 31) W := hG 31 (haft 31 (by kernel_rfl))
              have s76 : ρ (.tmp 76) = .bool true := (hρ.at_ 76 31 rfl).trans g76
              exact stepTo_value (w' := W) (by unfold execOp; simp only [s76, hc]; go_simp) (next _ _ (Below.refl _ _) rfl)
            · have o7 : ρ (.tmp 7) = .slice (some ⟨al, 0, none⟩) 4 4 := hρ.out 7 rfl
              exact stepTo_value (w' := W) (by unfold execOp; simp only [o7, hc]; go_simp) (next _ _ (Below.refl _ _) rfl)
            · have o1 : ρ (.tmp 1) = .pointer (some ⟨g1, 0, none⟩) := hρ.out 1 rfl
              exact stepTo_value (w' := W) (by unfold execOp; simp only [o1, hc]; go_simp) (next _ _ (Below.refl _ _) rfl)
            · have o2 : ρ (.tmp 2) = .pointer (some ⟨g2, 0, none⟩) := hρ.out 2 rfl
              exact stepTo_value (w' := W) (by unfold execOp; simp only [o2, hc]; go_simp) (next _ _ (Below.refl _ _) rfl)
            · have g79 : WkRG Ax Ay Az Aw cx cy cz cw gx gy gz gw al 34 (vs 34) W := hG 34 (haft 34 (by kernel_rfl))
              have s79 : ρ (.tmp 79) = .agg #[.int .u64 1, .int .u64 1] := (hρ.at_ 79 34 rfl).trans g79
              have g80 : WkRG Ax Ay Az Aw cx cy cz cw gx gy gz gw al 35 (vs 35) W := hG 35 (haft 35 (by kernel_rfl))
              have s80 : ρ (.tmp 80) = .agg #[.int .u64 1, .int .u64 2] := (hρ.at_ 80 35 rfl).trans g80
              exact stepTo_value (v := .slice (some ⟨W.heap.size, 0, none⟩) 2 2) (w' := W.alloc (.cells #[.int .u64 1, .int .u64 1, .int .u64 1, .int .u64 2] 34)) (by unfold execOp; simp only [s79, s80, hc]; go_simp) (next _ _ ((Below.refl _ W).alloc (Nat.le_refl _) _) ⟨W.heap.size, rfl, gd_lit (l := [(1, 1), (1, 2)]) (Blk.new _ _ _) (by decide)⟩)
            · obtain ⟨a81, g81, hh811⟩ : WkRG Ax Ay Az Aw cx cy cz cw gx gy gz gw al 36 (vs 36) W := hG 36 (haft 36 (by kernel_rfl))
              have s81 : ρ (.tmp 81) = .slice (some ⟨a81, 0, none⟩) 2 2 := (hρ.at_ 81 36 rfl).trans g81
              refine stepTo_enter (f := 22) (args := #[.int .u64 2, .bool false, .slice (some ⟨a81, 0, none⟩) 2 2]) (w' := W) (by unfold execOp; simp only [hfn, s81]; go_simp) (((of_any 2 false (some ⟨a81, 0, none⟩) 2 2 W)).mono ?_)
              rintro x W' ⟨rfl, hb'⟩
              exact ⟨_, rfl, next _ _ hb' ⟨a81, rfl, hh811.below hb'⟩⟩
            · have g78 : WkRG Ax Ay Az Aw cx cy cz cw gx gy gz gw al 33 (vs 33) W := hG 33 (haft 33 (by kernel_rfl))
              have s78 : ρ (.tmp 78) = .slice (some ⟨al, 0, none⟩) 4 4 := (hρ.at_ 78 33 rfl).trans g78
              obtain ⟨a82, g82, hh821⟩ : WkRG Ax Ay Az Aw cx cy cz cw gx gy gz gw al 37 (vs 37) W := hG 37 (haft 37 (by kernel_rfl))
              have s82 : ρ (.tmp 82) = .agg #[.int .u64 2, .int .i64 0, .bool false, .slice (some ⟨a82, 0, none⟩) 2 2] := (hρ.at_ 82 37 rfl).trans g82
              refine stepTo_enter (f := 19) (args := #[.slice (some ⟨al, 0, none⟩) 4 4, .agg #[.int .u64 2, .int .i64 0, .bool false, .slice (some ⟨a82, 0, none⟩) 2 2]]) (w' := W) (by unfold execOp; simp only [hfn, s78, s82]; go_simp) (((stays_is (l := [(1, 1), (1, 2), (2, 1), (1, 9)]) (v := .agg #[.int .u64 2, .int .i64 0, .bool false, .slice (some ⟨a82, 0, none⟩) 2 2]) (L := ⟨2, 0, false, [(1, 1), (1, 2)]⟩) (n := 3) (by decide) (HL.out.below hb) ⟨(some ⟨a82, 0, none⟩), 2, rfl, hh821⟩ (by decide) (by decide))).mono ?_)
              rintro x W' ⟨rfl, hb'⟩
              exact ⟨_, rfl, next _ _ hb' rfl⟩
            · have g83 : WkRG Ax Ay Az Aw cx cy cz cw gx gy gz gw al 38 (vs 38) W := hG 38 (haft 38 (by kernel_rfl))
              have s83 : ρ (.tmp 83) = .int .i64 3 := (hρ.at_ 83 38 rfl).trans g83
              exact stepTo_value (w' := W) (by unfold execOp; simp only [s83, hc]; go_simp) (next _ _ (Below.refl _ _) rfl)
            · have g77 : WkRG Ax Ay Az Aw cx cy cz cw gx gy gz gw al 32 (vs 32) W := hG 32 (haft 32 (by kernel_rfl))
              have s77 : ρ (.tmp 77) = .bool true := (hρ.at_ 77 32 rfl).trans g77
              have g84 : WkRG Ax Ay Az Aw cx cy cz cw gx gy gz gw al 39 (vs 39) W := hG 39 (haft 39 (by kernel_rfl))
              have s84 : ρ (.tmp 84) = .bool true := (hρ.at_ 84 39 rfl).trans g84
              exact stepTo_value (w' := W) (by unfold execOp; simp only [s77, s84, hc]; go_simp) (next _ _ (Below.refl _ _) rfl)
            · have g85 : WkRG Ax Ay Az Aw cx cy cz cw gx gy gz gw al 40 (vs 40) W := hG 40 (haft 40 (by kernel_rfl))
              have s85 : ρ (.tmp 85) = .bool true := (hρ.at_ 85 40 rfl).trans g85
              exact stepTo_value (w' := W) (by unfold execOp; simp only [s85, hc]; go_simp) (next _ _ (Below.refl _ _) rfl)
            · have o7 : ρ (.tmp 7) = .slice (some ⟨al, 0, none⟩) 4 4 := hρ.out 7 rfl
              exact stepTo_value (w' := W) (by unfold execOp; simp only [o7, hc]; go_simp) (next _ _ (Below.refl _ _) rfl)
            · have g87 : WkRG Ax Ay Az Aw cx cy cz cw gx gy gz gw al 42 (vs 42) W := hG 42 (haft 42 (by kernel_rfl))
              have s87 : ρ (.tmp 87) = .slice (some ⟨al, 0, none⟩) 4 4 := (hρ.at_ 87 42 rfl).trans g87
              exact stepTo_value (w' := W) (by unfold execOp; simp only [s87, hc]; go_simp) (next _ _ (Below.refl _ _) rfl)
            · have o1 : ρ (.tmp 1) = .pointer (some ⟨g1, 0, none⟩) := hρ.out 1 rfl
              exact stepTo_value (w' := W) (by unfold execOp; simp only [o1, hc]; go_simp) (next _ _ (Below.refl _ _) rfl)
            · have o2 : ρ (.tmp 2) = .pointer (some ⟨g2, 0, none⟩) := hρ.out 2 rfl
              exact stepTo_value (w' := W) (by unfold execOp; simp only [o2, hc]; go_simp) (next _ _ (Below.refl _ _) rfl)
            · refine stepTo_enter (f := 21) (args := #[.int .u64 2, .int .u64 1]) (w' := W) (by unfold execOp; simp only [hfn, ]; go_simp) (((guid_any 2 1 W)).mono ?_)
              rintro x W' ⟨rfl, hb'⟩
              exact ⟨_, rfl, next _ _ hb' rfl⟩
            · have g89 : WkRG Ax Ay Az Aw cx cy cz cw gx gy gz gw al 44 (vs 44) W := hG 44 (haft 44 (by kernel_rfl))
              have s89 : ρ (.tmp 89) = .agg #[.int .u64 1, .int .u64 1] := (hρ.at_ 89 44 rfl).trans g89
              have g90 : WkRG Ax Ay Az Aw cx cy cz cw gx gy gz gw al 45 (vs 45) W := hG 45 (haft 45 (by kernel_rfl))
              have s90 : ρ (.tmp 90) = .agg #[.int .u64 1, .int .u64 2] := (hρ.at_ 90 45 rfl).trans g90
              have g91 : WkRG Ax Ay Az Aw cx cy cz cw gx gy gz gw al 46 (vs 46) W := hG 46 (haft 46 (by kernel_rfl))
              have s91 : ρ (.tmp 91) = .agg #[.int .u64 2, .int .u64 1] := (hρ.at_ 91 46 rfl).trans g91
              exact stepTo_value (v := .slice (some ⟨W.heap.size, 0, none⟩) 3 3) (w' := W.alloc (.cells #[.int .u64 1, .int .u64 1, .int .u64 1, .int .u64 2, .int .u64 2, .int .u64 1] 34)) (by unfold execOp; simp only [s89, s90, s91, hc]; go_simp) (next _ _ ((Below.refl _ W).alloc (Nat.le_refl _) _) ⟨W.heap.size, rfl, gd_lit (l := [(1, 1), (1, 2), (2, 1)]) (Blk.new _ _ _) (by decide)⟩)
            · obtain ⟨a92, g92, hh921⟩ : WkRG Ax Ay Az Aw cx cy cz cw gx gy gz gw al 47 (vs 47) W := hG 47 (haft 47 (by kernel_rfl))
              have s92 : ρ (.tmp 92) = .slice (some ⟨a92, 0, none⟩) 3 3 := (hρ.at_ 92 47 rfl).trans g92
              refine stepTo_enter (f := 22) (args := #[.int .u64 2, .bool false, .slice (some ⟨a92, 0, none⟩) 3 3]) (w' := W) (by unfold execOp; simp only [hfn, s92]; go_simp) (((of_any 2 false (some ⟨a92, 0, none⟩) 3 3 W)).mono ?_)
              rintro x W' ⟨rfl, hb'⟩
              exact ⟨_, rfl, next _ _ hb' ⟨a92, rfl, hh921.below hb'⟩⟩
            · have g88 : WkRG Ax Ay Az Aw cx cy cz cw gx gy gz gw al 43 (vs 43) W := hG 43 (haft 43 (by kernel_rfl))
              have s88 : ρ (.tmp 88) = .slice (some ⟨al, 0, none⟩) 2 4 := (hρ.at_ 88 43 rfl).trans g88
              obtain ⟨a93, g93, hh931⟩ : WkRG Ax Ay Az Aw cx cy cz cw gx gy gz gw al 48 (vs 48) W := hG 48 (haft 48 (by kernel_rfl))
              have s93 : ρ (.tmp 93) = .agg #[.int .u64 2, .int .i64 0, .bool false, .slice (some ⟨a93, 0, none⟩) 3 3] := (hρ.at_ 93 48 rfl).trans g93
              refine stepTo_enter (f := 19) (args := #[.slice (some ⟨al, 0, none⟩) 2 4, .agg #[.int .u64 2, .int .i64 0, .bool false, .slice (some ⟨a93, 0, none⟩) 3 3]]) (w' := W) (by unfold execOp; simp only [hfn, s88, s93]; go_simp) (((stays_is (l := [(1, 1), (1, 2)]) (v := .agg #[.int .u64 2, .int .i64 0, .bool false, .slice (some ⟨a93, 0, none⟩) 3 3]) (L := ⟨2, 0, false, [(1, 1), (1, 2), (2, 1)]⟩) (n := 2) (by decide) (GdL.take (HL.out.below hb) 2) ⟨(some ⟨a93, 0, none⟩), 3, rfl, hh931⟩ (by decide) (by decide))).mono ?_)
              rintro x W' ⟨rfl, hb'⟩
              exact ⟨_, rfl, next _ _ hb' rfl⟩
            · have g94 : WkRG Ax Ay Az Aw cx cy cz cw gx gy gz gw al 49 (vs 49) W := hG 49 (haft 49 (by kernel_rfl))
              have s94 : ρ (.tmp 94) = .int .i64 2 := (hρ.at_ 94 49 rfl).trans g94
              exact stepTo_value (w' := W) (by unfold execOp; simp only [s94, hc]; go_simp) (next _ _ (Below.refl _ _) rfl)
            · have g86 : WkRG Ax Ay Az Aw cx cy cz cw gx gy gz gw al 41 (vs 41) W := hG 41 (haft 41 (by kernel_rfl))
              have s86 : ρ (.tmp 86) = .bool true := (hρ.at_ 86 41 rfl).trans g86
              have g95 : WkRG Ax Ay Az Aw cx cy cz cw gx gy gz gw al 50 (vs 50) W := hG 50 (haft 50 (by kernel_rfl))
              have s95 : ρ (.tmp 95) = .bool true := (hρ.at_ 95 50 rfl).trans g95
              exact stepTo_value (w' := W) (by unfold execOp; simp only [s86, s95, hc]; go_simp) (next _ _ (Below.refl _ _) rfl)
            · have g96 : WkRG Ax Ay Az Aw cx cy cz cw gx gy gz gw al 51 (vs 51) W := hG 51 (haft 51 (by kernel_rfl))
              have s96 : ρ (.tmp 96) = .bool true := (hρ.at_ 96 51 rfl).trans g96
              exact stepTo_value (w' := W) (by unfold execOp; simp only [s96, hc]; go_simp) (next _ _ (Below.refl _ _) rfl)
            · have o1 : ρ (.tmp 1) = .pointer (some ⟨g1, 0, none⟩) := hρ.out 1 rfl
              exact stepTo_value (w' := W) (by unfold execOp; simp only [o1, hc]; go_simp) (next _ _ (Below.refl _ _) rfl)
            · refine stepTo_enter (f := 21) (args := #[.int .u64 1, .int .u64 3]) (w' := W) (by unfold execOp; simp only [hfn, ]; go_simp) (((guid_any 1 3 W)).mono ?_)
              rintro x W' ⟨rfl, hb'⟩
              exact ⟨_, rfl, next _ _ hb' rfl⟩
            · have g98 : WkRG Ax Ay Az Aw cx cy cz cw gx gy gz gw al 53 (vs 53) W := hG 53 (haft 53 (by kernel_rfl))
              have s98 : ρ (.tmp 98) = .agg #[.int .u64 1, .int .u64 1] := (hρ.at_ 98 53 rfl).trans g98
              have g99 : WkRG Ax Ay Az Aw cx cy cz cw gx gy gz gw al 54 (vs 54) W := hG 54 (haft 54 (by kernel_rfl))
              have s99 : ρ (.tmp 99) = .agg #[.int .u64 1, .int .u64 3] := (hρ.at_ 99 54 rfl).trans g99
              exact stepTo_value (v := .slice (some ⟨W.heap.size, 0, none⟩) 2 2) (w' := W.alloc (.cells #[.int .u64 1, .int .u64 1, .int .u64 1, .int .u64 3] 34)) (by unfold execOp; simp only [s98, s99, hc]; go_simp) (next _ _ ((Below.refl _ W).alloc (Nat.le_refl _) _) ⟨W.heap.size, rfl, gd_lit (l := [(1, 1), (1, 3)]) (Blk.new _ _ _) (by decide)⟩)
            · have o1 : ρ (.tmp 1) = .pointer (some ⟨g1, 0, none⟩) := hρ.out 1 rfl
              exact stepTo_value (w' := W) (by unfold execOp; simp only [o1, hc]; go_simp) (next _ _ (Below.refl _ _) rfl)
            · have o2 : ρ (.tmp 2) = .pointer (some ⟨g2, 0, none⟩) := hρ.out 2 rfl
              exact stepTo_value (w' := W) (by unfold execOp; simp only [o2, hc]; go_simp) (next _ _ (Below.refl _ _) rfl)
            · have g101 : WkRG Ax Ay Az Aw cx cy cz cw gx gy gz gw al 56 (vs 56) W := hG 56 (haft 56 (by kernel_rfl))
              have s101 : ρ (.tmp 101) = .agg #[.int .u64 1, .int .u64 1] := (hρ.at_ 101 56 rfl).trans g101
              have g102 : WkRG Ax Ay Az Aw cx cy cz cw gx gy gz gw al 57 (vs 57) W := hG 57 (haft 57 (by kernel_rfl))
              have s102 : ρ (.tmp 102) = .agg #[.int .u64 1, .int .u64 2] := (hρ.at_ 102 57 rfl).trans g102
              exact stepTo_value (v := .slice (some ⟨W.heap.size, 0, none⟩) 2 2) (w' := W.alloc (.cells #[.int .u64 1, .int .u64 1, .int .u64 1, .int .u64 2] 34)) (by unfold execOp; simp only [s101, s102, hc]; go_simp) (next _ _ ((Below.refl _ W).alloc (Nat.le_refl _) _) ⟨W.heap.size, rfl, gd_lit (l := [(1, 1), (1, 2)]) (Blk.new _ _ _) (by decide)⟩)
            · obtain ⟨a103, g103, hh1031⟩ : WkRG Ax Ay Az Aw cx cy cz cw gx gy gz gw al 58 (vs 58) W := hG 58 (haft 58 (by kernel_rfl))
              have s103 : ρ (.tmp 103) = .slice (some ⟨a103, 0, none⟩) 2 2 := (hρ.at_ 103 58 rfl).trans g103
              refine stepTo_enter (f := 22) (args := #[.int .u64 2, .bool false, .slice (some ⟨a103, 0, none⟩) 2 2]) (w' := W) (by unfold execOp; simp only [hfn, s103]; go_simp) (((of_any 2 false (some ⟨a103, 0, none⟩) 2 2 W)).mono ?_)
              rintro x W' ⟨rfl, hb'⟩
              exact ⟨_, rfl, next _ _ hb' ⟨a103, rfl, hh1031.below hb'⟩⟩
            · obtain ⟨a100, g100, hh1001⟩ : WkRG Ax Ay Az Aw cx cy cz cw gx gy gz gw al 55 (vs 55) W := hG 55 (haft 55 (by kernel_rfl))
              have s100 : ρ (.tmp 100) = .slice (some ⟨a100, 0, none⟩) 2 2 := (hρ.at_ 100 55 rfl).trans g100
              obtain ⟨a104, g104, hh1041⟩ : WkRG Ax Ay Az Aw cx cy cz cw gx gy gz gw al 59 (vs 59) W := hG 59 (haft 59 (by kernel_rfl))
              have s104 : ρ (.tmp 104) = .agg #[.int .u64 2, .int .i64 0, .bool false, .slice (some ⟨a104, 0, none⟩) 2 2] := (hρ.at_ 104 59 rfl).trans g104
              refine stepTo_enter (f := 19) (args := #[.slice (some ⟨a100, 0, none⟩) 2 2, .agg #[.int .u64 2, .int .i64 0, .bool false, .slice (some ⟨a104, 0, none⟩) 2 2]]) (w' := W) (by unfold execOp; simp only [hfn, s100, s104]; go_simp) (((stays_is (l := [(1, 1), (1, 3)]) (v := .agg #[.int .u64 2, .int .i64 0, .bool false, .slice (some ⟨a104, 0, none⟩) 2 2]) (L := ⟨2, 0, false, [(1, 1), (1, 2)]⟩) (n := 1) (by decide) hh1001 ⟨(some ⟨a104, 0, none⟩), 2, rfl, hh1041⟩ (by decide) (by decide))).mono ?_)
              rintro x W' ⟨rfl, hb'⟩
              exact ⟨_, rfl, next _ _ hb' rfl⟩
            · have g105 : WkRG Ax Ay Az Aw cx cy cz cw gx gy gz gw al 60 (vs 60) W := hG 60 (haft 60 (by kernel_rfl))
              have s105 : ρ (.tmp 105) = .int .i64 1 := (hρ.at_ 105 60 rfl).trans g105
              exact stepTo_value (w' := W) (by unfold execOp; simp only [s105, hc]; go_simp) (next _ _ (Below.refl _ _) rfl)
            · have g97 : WkRG Ax Ay Az Aw cx cy cz cw gx gy gz gw al 52 (vs 52) W := hG 52 (haft 52 (by kernel_rfl))
              have s97 : ρ (.tmp 97) = .bool true := (hρ.at_ 97 52 rfl).trans g97
              have g106 : WkRG Ax Ay Az Aw cx cy cz cw gx gy gz gw al 61 (vs 61) W := hG 61 (haft 61 (by kernel_rfl))
              have s106 : ρ (.tmp 106) = .bool true := (hρ.at_ 106 61 rfl).trans g106
              exact stepTo_value (w' := W) (by unfold execOp; simp only [s97, s106, hc]; go_simp) (next _ _ (Below.refl _ _) rfl)
            · have g107 : WkRG Ax Ay Az Aw cx cy cz cw gx gy gz gw al 62 (vs 62) W := hG 62 (haft 62 (by kernel_rfl))
              have s107 : ρ (.tmp 107) = .bool true := (hρ.at_ 107 62 rfl).trans g107
              exact stepTo_value (w' := W) (by unfold execOp; simp only [s107, hc]; go_simp) (next _ _ (Below.refl _ _) rfl)
            · have o7 : ρ (.tmp 7) = .slice (some ⟨al, 0, none⟩) 4 4 := hρ.out 7 rfl
              exact stepTo_value (w' := W) (by unfold execOp; simp only [o7, hc]; go_simp) (next _ _ (Below.refl _ _) rfl)
            · have g109 : WkRG Ax Ay Az Aw cx cy cz cw gx gy gz gw al 64 (vs 64) W := hG 64 (haft 64 (by kernel_rfl))
              have s109 : ρ (.tmp 109) = .slice (some ⟨al, 0, none⟩) 4 4 := (hρ.at_ 109 64 rfl).trans g109
              exact stepTo_value (w' := W) (by unfold execOp; simp only [s109, hc]; go_simp) (next _ _ (Below.refl _ _) rfl)
            · have o1 : ρ (.tmp 1) = .pointer (some ⟨g1, 0, none⟩) := hρ.out 1 rfl
              exact stepTo_value (w' := W) (by unfold execOp; simp only [o1, hc]; go_simp) (next _ _ (Below.refl _ _) rfl)
            · have g111 : WkRG Ax Ay Az Aw cx cy cz cw gx gy gz gw al 66 (vs 66) W := hG 66 (haft 66 (by kernel_rfl))
              have s111 : ρ (.tmp 111) = .agg #[.int .u64 1, .int .u64 1] := (hρ.at_ 111 66 rfl).trans g111
              exact stepTo_value (v := .slice (some ⟨W.heap.size, 0, none⟩) 1 1) (w' := W.alloc (.cells #[.int .u64 1, .int .u64 1] 34)) (by unfold execOp; simp only [s111, hc]; go_simp) (next _ _ ((Below.refl _ W).alloc (Nat.le_refl _) _) ⟨W.heap.size, rfl, gd_lit (l := [(1, 1)]) (Blk.new _ _ _) (by decide)⟩)
            · obtain ⟨a112, g112, hh1121⟩ : WkRG Ax Ay Az Aw cx cy cz cw gx gy gz gw al 67 (vs 67) W := hG 67 (haft 67 (by kernel_rfl))
              have s112 : ρ (.tmp 112) = .slice (some ⟨a112, 0, none⟩) 1 1 := (hρ.at_ 112 67 rfl).trans g112
              refine stepTo_enter (f := 22) (args := #[.int .u64 2, .bool false, .slice (some ⟨a112, 0, none⟩) 1 1]) (w' := W) (by unfold execOp; simp only [hfn, s112]; go_simp) (((of_any 2 false (some ⟨a112, 0, none⟩) 1 1 W)).mono ?_)
              rintro x W' ⟨rfl, hb'⟩
              exact ⟨_, rfl, next _ _ hb' ⟨a112, rfl, hh1121.below hb'⟩⟩
            · have g110 : WkRG Ax Ay Az Aw cx cy cz cw gx gy gz gw al 65 (vs 65) W := hG 65 (haft 65 (by kernel_rfl))
              have s110 : ρ (.tmp 110) = .slice (some ⟨al, 0, none⟩) 2 4 := (hρ.at_ 110 65 rfl).trans g110
              obtain ⟨a113, g113, hh1131⟩ : WkRG Ax Ay Az Aw cx cy cz cw gx gy gz gw al 68 (vs 68) W := hG 68 (haft 68 (by kernel_rfl))
              have s113 : ρ (.tmp 113) = .agg #[.int .u64 2, .int .i64 0, .bool false, .slice (some ⟨a113, 0, none⟩) 1 1] := (hρ.at_ 113 68 rfl).trans g113
              refine stepTo_enter (f := 19) (args := #[.slice (some ⟨al, 0, none⟩) 2 4, .agg #[.int .u64 2, .int .i64 0, .bool false, .slice (some ⟨a113, 0, none⟩) 1 1]]) (w' := W) (by unfold execOp; simp only [hfn, s110, s113]; go_simp) (((stays_is (l := [(1, 1), (1, 2)]) (v := .agg #[.int .u64 2, .int .i64 0, .bool false, .slice (some ⟨a113, 0, none⟩) 1 1]) (L := ⟨2, 0, false, [(1, 1)]⟩) (n := 1) (by decide) (GdL.take (HL.out.below hb) 2) ⟨(some ⟨a113, 0, none⟩), 1, rfl, hh1131⟩ (by decide) (by decide))).mono ?_)
              rintro x W' ⟨rfl, hb'⟩
              exact ⟨_, rfl, next _ _ hb' rfl⟩
            · have g114 : WkRG Ax Ay Az Aw cx cy cz cw gx gy gz gw al 69 (vs 69) W := hG 69 (haft 69 (by kernel_rfl))
              have s114 : ρ (.tmp 114) = .int .i64 1 := (hρ.at_ 114 69 rfl).trans g114
              exact stepTo_value (w' := W) (by unfold execOp; simp only [s114, hc]; go_simp) (next _ _ (Below.refl _ _) rfl)
            · have g108 : WkRG Ax Ay Az Aw cx cy cz cw gx gy gz gw al 63 (vs 63) W := hG 63 (haft 63 (by kernel_rfl))
              have s108 : ρ (.tmp 108) = .bool true := (hρ.at_ 108 63 rfl).trans g108
              have g115 : WkRG Ax Ay Az Aw cx cy cz cw gx gy gz gw al 70 (vs 70) W := hG 70 (haft 70 (by kernel_rfl))
              have s115 : ρ (.tmp 115) = .bool true := (hρ.at_ 115 70 rfl).trans g115
              exact stepTo_value (w' := W) (by unfold execOp; simp only [s108, s115, hc]; go_simp) (next _ _ (Below.refl _ _) rfl)
            · have g116 : WkRG Ax Ay Az Aw cx cy cz cw gx gy gz gw al 71 (vs 71) W := hG 71 (haft 71 (by kernel_rfl))
              have s116 : ρ (.tmp 116) = .bool true := (hρ.at_ 116 71 rfl).trans g116
              exact stepTo_value (w' := W) (by unfold execOp; simp only [s116, hc]; go_simp) (next _ _ (Below.refl _ _) rfl)
          · intro i o L vs W j want ho hli haft hg hv hI
            obtain ⟨hb, hG'⟩ := hI
            have hG : ∀ j, L j = true → WkRG Ax Ay Az Aw cx cy cz cw gx gy gz gw al j (vs j) W := fun j hj => by
              by_cases h51 : j < 73
              · exact hG' j hj h51
              · match j, h51 with
                | j + 73, _ => exact trivial
            have hi51 : i < 73 := (Array.getElem?_eq_some_iff.1 ho).1
            simp only [List.append_eq, List.cons_append, List.nil_append] at ho
            rcases i with _ | _ | _ | _ | _ | _ | _ | _ | _ | _ | _ | _ | _ | _ | _ | _ | _ | _ | _ | _ | _ | _ | _ | _ | _ | _ | _ | _ | _ | _ | _ | _ | _ | _ | _ | _ | _ | _ | _ | _ | _ | _ | _ | _ | _ | _ | _ | _ | _ | _ | _ | _ | _ | _ | _ | _ | _ | _ | _ | _ | _ | _ | _ | _ | _ | _ | _ | _ | _ | _ | _ | _ | _ | i
            all_goals (first | omega | skip)
            all_goals simp only [List.getElem?_toArray, List.getElem?_cons_zero, List.getElem?_cons_succ, Option.some.injEq] at ho
            all_goals subst ho
            all_goals simp only [reduceCtorEq, Option.some.injEq, Prod.mk.injEq] at hg
            · obtain ⟨rfl, rfl⟩ := hg
              exact (hv (hG 3 (haft 3 (by kernel_rfl)))).elim
            · obtain ⟨rfl, rfl⟩ := hg
              exact (hv (hG 3 (haft 3 (by kernel_rfl)))).elim
            · obtain ⟨rfl, rfl⟩ := hg
              exact (hv (hG 3 (haft 3 (by kernel_rfl)))).elim
            · obtain ⟨rfl, rfl⟩ := hg
              exact (hv (hG 3 (haft 3 (by kernel_rfl)))).elim
            · obtain ⟨rfl, rfl⟩ := hg
              exact (hv (hG 9 (haft 9 (by kernel_rfl)))).elim
            · obtain ⟨rfl, rfl⟩ := hg
              exact (hv (hG 9 (haft 9 (by kernel_rfl)))).elim
            · obtain ⟨rfl, rfl⟩ := hg
              exact (hv (hG 13 (haft 13 (by kernel_rfl)))).elim
            · obtain ⟨rfl, rfl⟩ := hg
              exact (hv (hG 13 (haft 13 (by kernel_rfl)))).elim
            · obtain ⟨rfl, rfl⟩ := hg
              exact (hv (hG 13 (haft 13 (by kernel_rfl)))).elim
            · obtain ⟨rfl, rfl⟩ := hg
              exact (hv (hG 13 (haft 13 (by kernel_rfl)))).elim
            · obtain ⟨rfl, rfl⟩ := hg
              exact (hv (hG 19 (haft 19 (by kernel_rfl)))).elim
            · obtain ⟨rfl, rfl⟩ := hg
              exact (hv (hG 19 (haft 19 (by kernel_rfl)))).elim
            · obtain ⟨rfl, rfl⟩ := hg
              exact (hv (hG 19 (haft 19 (by kernel_rfl)))).elim
            · obtain ⟨rfl, rfl⟩ := hg
              exact (hv (hG 19 (haft 19 (by kernel_rfl)))).elim
            · obtain ⟨rfl, rfl⟩ := hg
              exact (hv (hG 19 (haft 19 (by kernel_rfl)))).elim
            · obtain ⟨rfl, rfl⟩ := hg
              exact (hv (hG 19 (haft 19 (by kernel_rfl)))).elim
            · obtain ⟨rfl, rfl⟩ := hg
              exact (hv (hG 19 (haft 19 (by kernel_rfl)))).elim
            · obtain ⟨rfl, rfl⟩ := hg
              exact (hv (hG 19 (haft 19 (by kernel_rfl)))).elim
            · obtain ⟨rfl, rfl⟩ := hg
              exact (hv (hG 19 (haft 19 (by kernel_rfl)))).elim
            · obtain ⟨rfl, rfl⟩ := hg
              exact (hv (hG 19 (haft 19 (by kernel_rfl)))).elim
            · obtain ⟨rfl, rfl⟩ := hg
              exact (hv (hG 19 (haft 19 (by kernel_rfl)))).elim
            · obtain ⟨rfl, rfl⟩ := hg
              exact (hv (hG 32 (haft 32 (by kernel_rfl)))).elim
            · obtain ⟨rfl, rfl⟩ := hg
              exact (hv (hG 32 (haft 32 (by kernel_rfl)))).elim
            · obtain ⟨rfl, rfl⟩ := hg
              exact (hv (hG 32 (haft 32 (by kernel_rfl)))).elim
            · obtain ⟨rfl, rfl⟩ := hg
              exact (hv (hG 32 (haft 32 (by kernel_rfl)))).elim
            · obtain ⟨rfl, rfl⟩ := hg
              exact (hv (hG 32 (haft 32 (by kernel_rfl)))).elim
            · obtain ⟨rfl, rfl⟩ := hg
              exact (hv (hG 32 (haft 32 (by kernel_rfl)))).elim
            · obtain ⟨rfl, rfl⟩ := hg
              exact (hv (hG 32 (haft 32 (by kernel_rfl)))).elim
            · obtain ⟨rfl, rfl⟩ := hg
              exact (hv (hG 41 (haft 41 (by kernel_rfl)))).elim
            · obtain ⟨rfl, rfl⟩ := hg
              exact (hv (hG 41 (haft 41 (by kernel_rfl)))).elim
            · obtain ⟨rfl, rfl⟩ := hg
              exact (hv (hG 41 (haft 41 (by kernel_rfl)))).elim
            · obtain ⟨rfl, rfl⟩ := hg
              exact (hv (hG 41 (haft 41 (by kernel_rfl)))).elim
            · obtain ⟨rfl, rfl⟩ := hg
              exact (hv (hG 41 (haft 41 (by kernel_rfl)))).elim
            · obtain ⟨rfl, rfl⟩ := hg
              exact (hv (hG 41 (haft 41 (by kernel_rfl)))).elim
            · obtain ⟨rfl, rfl⟩ := hg
              exact (hv (hG 41 (haft 41 (by kernel_rfl)))).elim
            · obtain ⟨rfl, rfl⟩ := hg
              exact (hv (hG 41 (haft 41 (by kernel_rfl)))).elim
            · obtain ⟨rfl, rfl⟩ := hg
              exact (hv (hG 41 (haft 41 (by kernel_rfl)))).elim
            · obtain ⟨rfl, rfl⟩ := hg
              exact (hv (hG 52 (haft 52 (by kernel_rfl)))).elim
            · obtain ⟨rfl, rfl⟩ := hg
              exact (hv (hG 52 (haft 52 (by kernel_rfl)))).elim
            · obtain ⟨rfl, rfl⟩ := hg
              exact (hv (hG 52 (haft 52 (by kernel_rfl)))).elim
            · obtain ⟨rfl, rfl⟩ := hg
              exact (hv (hG 52 (haft 52 (by kernel_rfl)))).elim
            · obtain ⟨rfl, rfl⟩ := hg
              exact (hv (hG 52 (haft 52 (by kernel_rfl)))).elim
            · obtain ⟨rfl, rfl⟩ := hg
              exact (hv (hG 52 (haft 52 (by kernel_rfl)))).elim
            · obtain ⟨rfl, rfl⟩ := hg
              exact (hv (hG 52 (haft 52 (by kernel_rfl)))).elim
            · obtain ⟨rfl, rfl⟩ := hg
              exact (hv (hG 52 (haft 52 (by kernel_rfl)))).elim
            · obtain ⟨rfl, rfl⟩ := hg
              exact (hv (hG 52 (haft 52 (by kernel_rfl)))).elim
            · obtain ⟨rfl, rfl⟩ := hg
              exact (hv (hG 63 (haft 63 (by kernel_rfl)))).elim
            · obtain ⟨rfl, rfl⟩ := hg
              exact (hv (hG 63 (haft 63 (by kernel_rfl)))).elim
            · obtain ⟨rfl, rfl⟩ := hg
              exact (hv (hG 63 (haft 63 (by kernel_rfl)))).elim
            · obtain ⟨rfl, rfl⟩ := hg
              exact (hv (hG 63 (haft 63 (by kernel_rfl)))).elim
            · obtain ⟨rfl, rfl⟩ := hg
              exact (hv (hG 63 (haft 63 (by kernel_rfl)))).elim
            · obtain ⟨rfl, rfl⟩ := hg
              exact (hv (hG 63 (haft 63 (by kernel_rfl)))).elim
            · obtain ⟨rfl, rfl⟩ := hg
              exact (hv (hG 63 (haft 63 (by kernel_rfl)))).elim
          intro vs V6 hI
          obtain ⟨hb, hG⟩ := hI
          have h72 : vs 72 = .bool true := hG 72 (by kernel_rfl) (by decide)
          have HB6 := Lib.hid (below_step HB5.out hb)
          clear hb hG
          simp only [putList, putSel, if_true]
          rw [h72]
          generalize vs 0 = yr0
          generalize vs 1 = yr1
          generalize vs 2 = yr2
          generalize vs 3 = yr3
          generalize vs 4 = yr4
          generalize vs 5 = yr5
          generalize vs 6 = yr6
          generalize vs 7 = yr7
          generalize vs 8 = yr8
          generalize vs 9 = yr9
          generalize vs 10 = yr10
          generalize vs 11 = yr11
          generalize vs 12 = yr12
          generalize vs 13 = yr13
          generalize vs 14 = yr14
          generalize vs 15 = yr15
          generalize vs 16 = yr16
          generalize vs 17 = yr17
          generalize vs 18 = yr18
          generalize vs 19 = yr19
          generalize vs 20 = yr20
          generalize vs 21 = yr21
          generalize vs 22 = yr22
          generalize vs 23 = yr23
          generalize vs 24 = yr24
          generalize vs 25 = yr25
          generalize vs 26 = yr26
          generalize vs 27 = yr27
          generalize vs 28 = yr28
          generalize vs 29 = yr29
          generalize vs 30 = yr30
          generalize vs 31 = yr31
          generalize vs 32 = yr32
          generalize vs 33 = yr33
          generalize vs 34 = yr34
          generalize vs 35 = yr35
          generalize vs 36 = yr36
          generalize vs 37 = yr37
          generalize vs 38 = yr38
          generalize vs 39 = yr39
          generalize vs 40 = yr40
          generalize vs 41 = yr41
          generalize vs 42 = yr42
          generalize vs 43 = yr43
          generalize vs 44 = yr44
          generalize vs 45 = yr45
          generalize vs 46 = yr46
          generalize vs 47 = yr47
          generalize vs 48 = yr48
          generalize vs 49 = yr49
          generalize vs 50 = yr50
          generalize vs 51 = yr51
          generalize vs 52 = yr52
          generalize vs 53 = yr53
          generalize vs 54 = yr54
          generalize vs 55 = yr55
          generalize vs 56 = yr56
          generalize vs 57 = yr57
          generalize vs 58 = yr58
          generalize vs 59 = yr59
          generalize vs 60 = yr60
          generalize vs 61 = yr61
          generalize vs 62 = yr62
          generalize vs 63 = yr63
          generalize vs 64 = yr64
          generalize vs 65 = yr65
          generalize vs 66 = yr66
          generalize vs 67 = yr67
          generalize vs 68 = yr68
          generalize vs 69 = yr69
          generalize vs 70 = yr70
          generalize vs 71 = yr71
          clear h72
          simp only [Act.put, List.setIfInBounds_toArray, List.set_cons_succ, List.set_cons_zero]
          go_wp2_with fail
          go_ret
          exact ⟨rfl, HB6.out⟩
end Go.Proofs.Ytbbgeccbdellmaa.ln


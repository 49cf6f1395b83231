/- MtWKn. -/
import Derived.Test.YtklmgdiaianlbaaQ13
import Derived.Test.YtklmgdiaianlbaaQ6
import Derived.Test.YtklmgdiaianlbaaQMtLKnown2
import Derived.LoopTactic
import Derived.Great.BuildSlice
import Derived.Great.FillDense
set_option linter.unusedVariables false
set_option linter.unusedSimpArgs false
/- MetaKnown's walk, by what the program's functions do. -/
namespace Go.Proofs.Ytklmgdiaianlbaa.mt
open Go Go.RowKit Go.Sort Go.Great Go.Proofs.Ytklmgdiaianlbaa.ib Go.Proofs.Ytklmgdiaianlbaa.wi Go.Proofs.Ytklmgdiaianlbaa.im
set_option maxRecDepth 100000

def agN (z : Nat → Value) : Array Value := #[z 0, z 1, z 2, z 3, z 4, z 5, z 6, z 7, z 8]
theorem mtat_fn {W : World} {v : Value} {m : Mt} (h : MtAt W v m) : ∃ z : Nat → Value, v = .agg #[z 0, z 1, z 2, z 3, z 4, z 5, z 6, z 7, z 8] := by
  obtain ⟨A0, A1, A2, c0, c1, c2, rfl, _⟩ := h
  exact ⟨fun i => (mtC A0 A1 A2 c0 c1 c2 m).getD i (.bool false), rfl⟩
abbrev It := (Nat → Value) × Int
def itV (x : It) : Value := .agg #[x.1 0, x.1 1, x.1 2, x.1 3, x.1 4, x.1 5, x.1 6, x.1 7, x.1 8, .int .i64 x.2]
theorem infoRow : (Try.prog.info? 52).map (fun i => (i.zero, i.size, i.bytes)) = some (some (.agg #[.slice none 0 0, .slice none 0 0, .int .u64 0, .int .u64 0, .int .u64 0, .int .u64 0, .int .i64 0, .int .i64 0, .slice none 0 0, .int .i64 0]), 10, 128) := by kernel_rfl
/-- Each table of the list, in memory. -/
def TabAt (W : World) (l : List It) : Prop := ∀ k (h : k < 18), ∃ x y, l[k]? = some x ∧ knL[k]? = some y ∧ MtAt W (.agg (agN x.1)) y.1
def KnR (n : Nat) (w : World) (i : Value) (wr : World) : Prop := ∃ k : Nat, k ≤ n ∧ i = .int .i64 (k : Int) ∧ Below w.heap.size w wr
theorem tab_cell {W : World} {g : Nat} {items : List It} {k : Nat} {x : It} (h : Blk W g 52 ((items.map itV).flatMap fun v => v.cells.toList).toArray) (hx : items[k]? = some x) : ∀ j, j < 10 → W.cell? ⟨g, k * 10 + j, none⟩ = (itV x).cells[j]? := by
  intro j hj
  rw [h.cell, List.getElem?_toArray, flat_get (s := 10) (by decide) _ (fun v hv => by obtain ⟨y, _, rfl⟩ := List.mem_map.1 hv; rfl)]
  rw [show (k * 10 + j) / 10 = k from by omega, show (k * 10 + j) % 10 = j from by omega, List.getElem?_map, hx]
  rfl
def K13G (g9 : Nat) (A0 A1 A2 : Option Addr) (c0 c1 c2 : Nat) (my : Mt) (r : Int) : Nat → Value → World → Prop
  | 0, v, _ => v = .pointer (some ⟨g9, 0, none⟩)
  | 1, v, _ => v = .agg #[.slice A0 my.live.length c0, .slice A1 my.snaps.length c1, .int .u64 (my.tok.base.1 : Int), .int .u64 (my.tok.base.2 : Int), .int .u64 (my.tok.target.1 : Int), .int .u64 (my.tok.target.2 : Int), .int .i64 my.tok.next, .int .i64 my.tok.all, .slice A2 my.tok.img.length c2]
  | 2, v, _ => v = .int .i64 r
  | 3, v, _ => v = .pointer (some ⟨g9, 9, none⟩)
  | 4, v, _ => v = .int .i64 r
  | 5, v, _ => v = .bool false
  | _, _, _ => True
theorem K13G_mono (g9 : Nat) (A0 A1 A2 : Option Addr) (c0 c1 c2 : Nat) (my : Mt) (r : Int) (i : Nat) (v : Value) (w w' : World) (hi : i < 6) (h : K13G g9 A0 A1 A2 c0 c1 c2 my r i v w) (hb : Below w.heap.size w w') : K13G g9 A0 A1 A2 c0 c1 c2 my r i v w' := by
  match i, hi, h with
  | 0, _, h | 1, _, h | 2, _, h | 3, _, h | 4, _, h | 5, _, h => exact h
  | j + 6, hi, _ => exact absurd hi (by omega)
def MoR (E : World) (gm : Nat) (i : Value) (wr : World) : Prop := ∃ (k : Nat) (v0 : Value), k ≤ 8 ∧ i = .int .i64 (k : Int) ∧ Below E.heap.size E wr ∧ Blk wr gm 30 (mC v0 nlS nlS tk0) ∧ OInts wr E.heap.size v0 (mosL k)
theorem mosL_snoc (k : Nat) : mosL (k + 1) = mosL k ++ [500 + (k : Int)] := by
  unfold mosL
  rw [List.range_succ, List.map_append]
  rfl
def Mo4 (E : World) (gm : Nat) (v0 : Value) (i : Value) (wr : World) : Prop := ∃ (k : Nat) (v1 : Value) (xs : List OSn), k ≤ 20 ∧ i = .int .i64 (k : Int) ∧ Below E.heap.size E wr ∧ Blk wr gm 30 (mC v0 v1 nlS tk0) ∧ OInts wr E.heap.size v0 (mosL 8) ∧ OSns wr E.heap.size v1 xs ∧ xs = (mosA k).map (fun s => (s, v0))
def K31G (gm : Nat) (A A1 : Option Addr) (c c1 n1 k4 : Nat) : Nat → Value → World → Prop
  | 0, v, _ => v = .pointer (some ⟨gm, 1, none⟩)
  | 1, v, _ => v = .slice A1 n1 c1
  | 2, v, _ => v = .int .i64 (k4 : Int)
  | 3, v, _ => v = .int .u64 (k4 : Int)
  | 4, v, _ => v = .int .u64 (9223372036854775808 + (k4 : Int))
  | 5, v, _ => v = .agg #[.int .u64 9223372036854775808, .int .u64 (9223372036854775808 + (k4 : Int))]
  | 6, v, _ => v = .pointer (some ⟨gm, 0, none⟩)
  | 7, v, _ => v = .slice A 8 c
  | 8, v, _ => v = .agg #[.int .u64 9223372036854775808, .int .u64 (9223372036854775808 + (k4 : Int)), .slice A 8 c, .bool false]
  | 9, v, W => ∃ bb, v = .slice (some ⟨bb, 0, none⟩) 1 1 ∧ Blk W bb 48 #[.int .u64 9223372036854775808, .int .u64 (9223372036854775808 + (k4 : Int)), .slice A 8 c, .bool false]
  | _, _, _ => True
theorem K31G_mono (gm : Nat) (A A1 : Option Addr) (c c1 n1 k4 : Nat) (i : Nat) (v : Value) (w w' : World) (hi : i < 10) (h : K31G gm A A1 c c1 n1 k4 i v w) (hb : Below w.heap.size w w') : K31G gm A A1 c c1 n1 k4 i v w' := by
  match i, hi, h with
  | 0, _, h | 1, _, h | 2, _, h | 3, _, h | 4, _, h | 5, _, h | 6, _, h | 7, _, h | 8, _, h => exact h
  | 9, _, ⟨bb, hv, h2⟩ => exact ⟨bb, hv, h2.below hb⟩
  | j + 10, hi, _ => exact absurd hi (by omega)
def okQ (l : List Int) (xs : List Sp) : Bool := (l.all fun z => decide (0 ≤ z) && decide (z ≤ 1048576)) && xs.all (fun x => (x.img.all fun z => decide (0 ≤ z) && decide (z ≤ 1048576)) && gdQ x.g && decide (x.img.length ≤ 100)) && decide (l.length ≤ 100) && decide (xs.length ≤ 100)
theorem ok_q {l : List Int} {xs : List Sp} (h : okQ l xs = true) : okMt0 l xs := by
  unfold okQ at h
  simp only [Bool.and_eq_true, List.all_eq_true, decide_eq_true_eq] at h
  obtain ⟨⟨⟨h1, h2⟩, h3⟩, h4⟩ := h
  exact ⟨fun z hz => h1 z hz, fun x hx => ⟨fun z hz => (h2 x hx).1.1 z hz, gd_q (h2 x hx).1.2, (h2 x hx).2⟩, h3, h4⟩
theorem okM : okMt0 (mosL 8) (mosA 20) := ok_q (by decide +kernel)
theorem okF : okMt0 (mosL 8) (mosB 20) := ok_q (by decide +kernel)
theorem mosB_img (k : Nat) (hk : k ≤ 20) : ∀ y ∈ mosB k, y.img = mosL 8 := (by decide +kernel : ∀ k < 21, ∀ y ∈ mosB k, y.img = mosL 8) k (by omega)
theorem spRow_set : ∀ (xs : List OSn) (k : Nat) (g : Gd) (x : OSn) (_ : xs[k]? = some x), spRow (xs.set k (⟨g, x.1.img, x.1.hid⟩, x.2)) = ((spRow xs).set (k * 4) (.int .u64 (g.1 : Int))).set (k * 4 + 1) (.int .u64 (g.2 : Int))
  | y :: r, 0, g, x, h => by
    simp only [List.getElem?_cons_zero, Option.some.injEq] at h
    subst h
    rfl
  | y :: r, k + 1, g, x, h => by
    have ih := spRow_set r k g x (by simpa using h)
    show spV y ++ spRow (r.set k _) = ((spV y ++ spRow r).set ((k + 1) * 4) _).set ((k + 1) * 4 + 1) _
    rw [ih, List.set_append_right _ _ (by simp [spV]; omega), List.set_append_right _ _ (by simp [spV]; omega)]
    rw [show (k + 1) * 4 - (spV y).length = k * 4 from by simp [spV]; omega, show (k + 1) * 4 + 1 - (spV y).length = k * 4 + 1 from by simp [spV]; omega]
theorem mosB_next : ∀ k < 20, mosB (k + 1) = (mosB k).set k ⟨(100000, 100000 + k), mosL 8, false⟩ ∧ (mosB k)[k]? = some ⟨(9223372036854775808, 9223372036854775808 + k), mosL 8, false⟩ ∧ (mosB (k + 1)).length = 20 := by decide +kernel
theorem mosB_set (k : Nat) (hk : k < 20) (v0 : Value) : ((mosB (k + 1)).map fun s => (s, v0)).length = 20 ∧ spRow ((mosB (k + 1)).map fun s => (s, v0)) = ((spRow ((mosB k).map fun s => (s, v0))).set (k * 4) (.int .u64 100000)).set (k * 4 + 1) (.int .u64 (100000 + (k : Int))) := by
  obtain ⟨h1, h2, h3⟩ := mosB_next k hk
  refine ⟨by rw [List.length_map, h3], ?_⟩
  have h := spRow_set ((mosB k).map fun s => (s, v0)) k (100000, 100000 + k) ((⟨(9223372036854775808, 9223372036854775808 + k), mosL 8, false⟩ : Sp), v0) (by rw [List.getElem?_map, h2]; rfl)
  rw [h1, List.map_set]
  dsimp only at h
  rw [h]
  rw [show ((100000 + k : Nat) : Int) = 100000 + (k : Int) from by omega]
  rfl
def Mo5 (E : World) (gm js c1 : Nat) (v0 : Value) (i : Value) (wr : World) : Prop := ∃ k : Nat, k ≤ 20 ∧ i = .int .i64 (k : Int) ∧ Below E.heap.size E wr ∧ Blk wr gm 30 (mC v0 (.slice (some ⟨js, 0, none⟩) 20 c1) nlS tk0) ∧ OInts wr E.heap.size v0 (mosL 8) ∧ OSns wr E.heap.size (.slice (some ⟨js, 0, none⟩) 20 c1) ((mosB k).map fun s => (s, v0))
def K36G (gm js c1 k5 : Nat) : Nat → Value → World → Prop
  | 0, v, _ => v = .pointer (some ⟨gm, 1, none⟩)
  | 1, v, _ => v = .slice (some ⟨js, 0, none⟩) 20 c1
  | 2, v, _ => v = .int .i64 (k5 : Int)
  | 3, v, _ => v = .int .i64 (k5 : Int)
  | 4, v, _ => v = .int .u64 (k5 : Int)
  | 5, v, _ => v = .int .u64 (100000 + (k5 : Int))
  | 6, v, _ => v = .agg #[.int .u64 100000, .int .u64 (100000 + (k5 : Int))]
  | 7, v, _ => v = .pointer (some ⟨js, k5 * 4, none⟩)
  | 8, v, _ => v = .pointer (some ⟨js, k5 * 4, none⟩)
  | _, _, _ => True
theorem K36G_mono (gm js c1 k5 : Nat) (i : Nat) (v : Value) (w w' : World) (hi : i < 9) (h : K36G gm js c1 k5 i v w) (hb : Below w.heap.size w w') : K36G gm js c1 k5 i v w' := by
  match i, hi, h with
  | 0, _, h | 1, _, h | 2, _, h | 3, _, h | 4, _, h | 5, _, h | 6, _, h | 7, _, h | 8, _, h => exact h
  | j + 9, hi, _ => exact absurd hi (by omega)
theorem okW : okMt0 [200, 0] [sA, sB] := by
  have hz : ∀ l : List Int, (l.all fun z => decide (0 ≤ z) && decide (z ≤ 1048576)) = true → okInts l := fun l h z hz => by
    have := List.all_eq_true.1 h z hz
    simpa using this
  refine ⟨hz _ (by decide), fun x hx => ?_, by decide, by decide⟩
  simp only [List.mem_cons, List.not_mem_nil, or_false] at hx
  rcases hx with rfl | rfl
  · exact ⟨hz _ (by decide), ⟨by decide, by decide⟩, by decide⟩
  · exact ⟨hz _ (by decide), ⟨by decide, by decide⟩, by decide⟩
theorem okTW : okTk0 tW := by
  refine ⟨fun z hz => ?_, by decide, ⟨by decide, by decide⟩, ⟨by decide, by decide⟩, i64_q (by decide), i64_q (by decide)⟩
  simp only [tW, List.mem_cons, List.not_mem_nil, or_false] at hz
  rcases hz with rfl | rfl <;> decide

set_option maxHeartbeats 25600000 in
theorem metaKnown_walk (H : MImpl) (w : World) : Calls Try.prog 8 #[] w (okTrue w) := by
  have HH := Lib.hid H
  clear H
  have hbW1 := (Below.refl _ w).alloc (Nat.le_refl _) (.cells #[.int .i64 0] 3)
  have hiW1 := Blk.new w 3 (ncells [0])
  obtain ⟨W1, hwW1⟩ : ∃ z, w.alloc (.cells #[.int .i64 0] 3) = z := ⟨_, rfl⟩
  rw [show w.alloc (.cells (ncells [0]) 3) = W1 from hwW1] at hiW1
  rw [hwW1] at hbW1
  have hv1 : MtAt W1 (.agg (mC (.slice (some ⟨w.heap.size, 0, none⟩) 1 1) nlS nlS tk0)) mE := mtat_of (B := 0) (l := [0]) (xs := []) (t := tk0) (oi_blk hiW1 (Nat.zero_le _) (by decide)) (OSns.nil _ _) (oi_nil _ _) ⟨fun z hz => by simp only [List.mem_singleton] at hz; subst hz; decide, fun x hx => absurd hx (by simp), by decide, by decide⟩ okTk00
  have henc := HH.out.enc _ mE W1 hv1 (sz_q (by decide))
  rw [kn_e] at henc
  have HE := Lib.hid henc
  have HB1 := Lib.hid hbW1
  unfold mC tk0 nlS at HE
  clear henc hv1 hiW1 hbW1
  go_enter Try.func8, Try.ntmps8
  go_wp2_with fail
  clear hwW1
  refine HE.out.mono ?_
  rintro e W2 ⟨rfl, hb2⟩
  have HB2 := Lib.hid (below_step HB1.out hb2)
  clear hb2 HE HB1
  dsimp only
  have hq : (str [1, 1, 0, 0, 0]) = ⟨#[1, 1, 0, 0, 0]⟩ := rfl
  rw [hq]
  clear hq
  have hbW3 := (Below.refl _ W2).alloc (Nat.le_refl _) (.cells #[.int .i64 200, .int .i64 0] 3)
  have hiW3 := Blk.new W2 3 (ncells [200, 0])
  obtain ⟨W3, hwW3⟩ : ∃ z, W2.alloc (.cells #[.int .i64 200, .int .i64 0] 3) = z := ⟨_, rfl⟩
  rw [show W2.alloc (.cells (ncells [200, 0]) 3) = W3 from hwW3] at hiW3
  rw [hwW3] at hbW3
  have HB3 := Lib.hid (below_step HB2.out hbW3)
  clear HB2 hbW3
  have HL := Lib.hid (oi_blk hiW3 (B := 0) (Nat.zero_le _) (by decide))
  clear hiW3
  go_wp2_with fail
  try rw [hwW3]
  obtain ⟨gl, hgl⟩ : ∃ z, W2.heap.size = z := ⟨_, rfl⟩
  rw [hgl] at HL
  try rw [hgl]
  clear hgl hwW3
  refine (lguid_any 1 1 W3).mono ?_
  rintro e W4 ⟨rfl, hbW4⟩
  have HB4 := Lib.hid (below_step HB3.out hbW4)
  replace HL := Lib.hid (oi_below HL.out hbW4)
  clear HB3 hbW4
  unfold gv
  dsimp only
  have hbW5 := (Below.refl _ W4).alloc (Nat.le_refl _) (.cells #[.int .i64 0, .int .i64 0] 3)
  have hiW5 := Blk.new W4 3 (ncells [0, 0])
  obtain ⟨W5, hwW5⟩ : ∃ z, W4.alloc (.cells #[.int .i64 0, .int .i64 0] 3) = z := ⟨_, rfl⟩
  rw [show W4.alloc (.cells (ncells [0, 0]) 3) = W5 from hwW5] at hiW5
  rw [hwW5] at hbW5
  have HB5 := Lib.hid (below_step HB4.out hbW5)
  replace HL := Lib.hid (oi_below HL.out hbW5)
  clear HB4 hbW5
  have HA := Lib.hid (oi_blk hiW5 (B := 0) (Nat.zero_le _) (by decide))
  clear hiW5
  go_wp2_with fail
  try rw [hwW5]
  obtain ⟨ga, hga⟩ : ∃ z, W4.heap.size = z := ⟨_, rfl⟩
  rw [hga] at HA
  try rw [hga]
  clear hga hwW5
  refine (lguid_any 2 1 W5).mono ?_
  rintro e W6 ⟨rfl, hbW6⟩
  have HB6 := Lib.hid (below_step HB5.out hbW6)
  replace HL := Lib.hid (oi_below HL.out hbW6)
  replace HA := Lib.hid (oi_below HA.out hbW6)
  clear HB5 hbW6
  unfold gv
  dsimp only
  have hbW7 := (Below.refl _ W6).alloc (Nat.le_refl _) (.cells #[.int .i64 300, .int .i64 301] 3)
  have hiW7 := Blk.new W6 3 (ncells [300, 301])
  obtain ⟨W7, hwW7⟩ : ∃ z, W6.alloc (.cells #[.int .i64 300, .int .i64 301] 3) = z := ⟨_, rfl⟩
  rw [show W6.alloc (.cells (ncells [300, 301]) 3) = W7 from hwW7] at hiW7
  rw [hwW7] at hbW7
  have HB7 := Lib.hid (below_step HB6.out hbW7)
  replace HL := Lib.hid (oi_below HL.out hbW7)
  replace HA := Lib.hid (oi_below HA.out hbW7)
  clear HB6 hbW7
  have HC := Lib.hid (oi_blk hiW7 (B := 0) (Nat.zero_le _) (by decide))
  clear hiW7
  have hbW8 := (Below.refl _ W7).alloc (Nat.le_refl _) (.cells #[.int .u64 1, .int .u64 1, .slice (some ⟨ga, 0, none⟩) 2 2, .bool true, .int .u64 2, .int .u64 1, .slice (some ⟨W6.heap.size, 0, none⟩) 2 2, .bool false] 48)
  have hsW8 := Blk.new W7 48 (spRow [(sA, .slice (some ⟨ga, 0, none⟩) 2 2), (sB, .slice (some ⟨W6.heap.size, 0, none⟩) 2 2)]).toArray
  obtain ⟨W8, hwW8⟩ : ∃ z, W7.alloc (.cells #[.int .u64 1, .int .u64 1, .slice (some ⟨ga, 0, none⟩) 2 2, .bool true, .int .u64 2, .int .u64 1, .slice (some ⟨W6.heap.size, 0, none⟩) 2 2, .bool false] 48) = z := ⟨_, rfl⟩
  rw [show W7.alloc (.cells (spRow [(sA, .slice (some ⟨ga, 0, none⟩) 2 2), (sB, .slice (some ⟨W6.heap.size, 0, none⟩) 2 2)]).toArray 48) = W8 from hwW8] at hsW8
  rw [hwW8] at hbW8
  have HB8 := Lib.hid (below_step HB7.out hbW8)
  replace HL := Lib.hid (oi_below HL.out hbW8)
  replace HA := Lib.hid (oi_below HA.out hbW8)
  replace HC := Lib.hid (oi_below HC.out hbW8)
  clear HB7 hbW8
  have HR : Hid (OSns W8 0 (.slice (some ⟨W7.heap.size, 0, none⟩) 2 2) [(sA, .slice (some ⟨ga, 0, none⟩) 2 2), (sB, .slice (some ⟨W6.heap.size, 0, none⟩) 2 2)]) := osn_blk hsW8 (Nat.zero_le _) (by simp) (by
    intro x hx
    simp only [List.mem_cons, List.not_mem_nil, or_false] at hx
    rcases hx with rfl | rfl
    · exact HA.out
    · exact HC.out)
  clear hsW8
  go_wp2_with fail
  try rw [hwW8]
  obtain ⟨gs, hgs⟩ : ∃ z, W7.heap.size = z := ⟨_, rfl⟩
  obtain ⟨gc, hgc⟩ : ∃ z, W6.heap.size = z := ⟨_, rfl⟩
  rw [hgs, hgc] at HR
  rw [hgc] at HC
  try rw [hgs]
  try rw [hgc]
  clear hgs hgc hwW8 hwW7
  refine (lguid_any 2 1 W8).mono ?_
  rintro e W9 ⟨rfl, hbW9⟩
  have HB9 := Lib.hid (below_step HB8.out hbW9)
  replace HL := Lib.hid (oi_below HL.out hbW9)
  replace HA := Lib.hid (oi_below HA.out hbW9)
  replace HC := Lib.hid (oi_below HC.out hbW9)
  replace HR := Lib.hid (OSns.below HR.out hbW9)
  clear HB8 hbW9
  unfold gv
  dsimp only
  go_wp2_with fail
  refine (lguid_any 2 2 W9).mono ?_
  rintro e W10 ⟨rfl, hbW10⟩
  have HB10 := Lib.hid (below_step HB9.out hbW10)
  replace HL := Lib.hid (oi_below HL.out hbW10)
  replace HA := Lib.hid (oi_below HA.out hbW10)
  replace HC := Lib.hid (oi_below HC.out hbW10)
  replace HR := Lib.hid (OSns.below HR.out hbW10)
  clear HB9 hbW10
  unfold gv
  dsimp only
  have hbW11 := (Below.refl _ W10).alloc (Nat.le_refl _) (.cells #[.int .i64 302, .int .i64 301] 3)
  have hiW11 := Blk.new W10 3 (ncells [302, 301])
  obtain ⟨W11, hwW11⟩ : ∃ z, W10.alloc (.cells #[.int .i64 302, .int .i64 301] 3) = z := ⟨_, rfl⟩
  rw [show W10.alloc (.cells (ncells [302, 301]) 3) = W11 from hwW11] at hiW11
  rw [hwW11] at hbW11
  have HB11 := Lib.hid (below_step HB10.out hbW11)
  replace HL := Lib.hid (oi_below HL.out hbW11)
  replace HA := Lib.hid (oi_below HA.out hbW11)
  replace HC := Lib.hid (oi_below HC.out hbW11)
  replace HR := Lib.hid (OSns.below HR.out hbW11)
  clear HB10 hbW11
  have HT := Lib.hid (oi_blk hiW11 (B := 0) (Nat.zero_le _) (by decide))
  clear hiW11
  have hbW12 := (Below.refl _ W11).alloc (Nat.le_refl _) (.cells #[.slice (some ⟨gl, 0, none⟩) 2 2, .slice (some ⟨gs, 0, none⟩) 2 2, .int .u64 2, .int .u64 1, .int .u64 2, .int .u64 2, .int .i64 1, .int .i64 2, .slice (some ⟨W10.heap.size, 0, none⟩) 2 2] 30)
  have hxW12 := Blk.new W11 30 (mtC (some ⟨gl, 0, none⟩) (some ⟨gs, 0, none⟩) (some ⟨W10.heap.size, 0, none⟩) 2 2 2 mW)
  obtain ⟨W12, hwW12⟩ : ∃ z, W11.alloc (.cells #[.slice (some ⟨gl, 0, none⟩) 2 2, .slice (some ⟨gs, 0, none⟩) 2 2, .int .u64 2, .int .u64 1, .int .u64 2, .int .u64 2, .int .i64 1, .int .i64 2, .slice (some ⟨W10.heap.size, 0, none⟩) 2 2] 30) = z := ⟨_, rfl⟩
  rw [show W11.alloc (.cells (mtC (some ⟨gl, 0, none⟩) (some ⟨gs, 0, none⟩) (some ⟨W10.heap.size, 0, none⟩) 2 2 2 mW) 30) = W12 from hwW12] at hxW12
  rw [hwW12] at hbW12
  have HB12 := Lib.hid (below_step HB11.out hbW12)
  replace HL := Lib.hid (oi_below HL.out hbW12)
  replace HA := Lib.hid (oi_below HA.out hbW12)
  replace HC := Lib.hid (oi_below HC.out hbW12)
  replace HR := Lib.hid (OSns.below HR.out hbW12)
  replace HT := Lib.hid (oi_below HT.out hbW12)
  clear HB11 hbW12
  have HK : Hid (KW W12 W11.heap.size (some ⟨gl, 0, none⟩) (some ⟨gs, 0, none⟩) (some ⟨W10.heap.size, 0, none⟩) 2 2 2) := ⟨hxW12, mtat_of HL.out HR.out HT.out okW okTW⟩
  clear hxW12
  have henc := HH.out.enc _ mW W12 HK.out.2 (sz_q (by decide))
  rw [kn_w] at henc
  have HE := Lib.hid henc
  replace HE : Hid (Calls Try.prog 13 #[.agg #[.slice (some ⟨gl, 0, none⟩) 2 2, .slice (some ⟨gs, 0, none⟩) 2 2, .int .u64 2, .int .u64 1, .int .u64 2, .int .u64 2, .int .i64 1, .int .i64 2, .slice (some ⟨W10.heap.size, 0, none⟩) 2 2]] W12 (endS (bW, 0) W12)) := HE
  clear henc
  have b0 := HK.out.1.cell 0
  have b1 := HK.out.1.cell 1
  have b2 := HK.out.1.cell 2
  have b3 := HK.out.1.cell 3
  have b4 := HK.out.1.cell 4
  have b5 := HK.out.1.cell 5
  have b6 := HK.out.1.cell 6
  have b7 := HK.out.1.cell 7
  have b8 := HK.out.1.cell 8
  simp only [mtC, mW, tW, List.getElem?_toArray, List.getElem?_cons_zero, List.getElem?_cons_succ, List.length_cons, List.length_nil, Nat.zero_add, Nat.reduceAdd] at b0 b1 b2 b3 b4 b5 b6 b7 b8
  have bl := HK.out.1.lt
  clear HL HA HC HR HT
  go_wp2_with fail
  try rw [hwW12]
  obtain ⟨g3, hg3⟩ : ∃ z, W11.heap.size = z := ⟨_, rfl⟩
  obtain ⟨gt, hgt⟩ : ∃ z, W10.heap.size = z := ⟨_, rfl⟩
  rw [hg3, hgt] at HK
  rw [hgt] at HE
  try rw [hg3]
  try rw [hgt]
  clear b0 b1 b2 b3 b4 b5 b6 b7 b8 bl
  clear hg3 hgt hwW12 hwW11
  refine HE.out.mono ?_
  rintro e W13 ⟨rfl, hbW13⟩
  have HB13 := Lib.hid (below_step HB12.out hbW13)
  replace HK := Lib.hid (KW.below HK.out hbW13)
  clear HB12 hbW13
  obtain ⟨SW, hSW⟩ : ∃ z, str bW = z := ⟨_, rfl⟩
  rw [hSW]
  clear HE
  have hdec := HH.out.dec SW W13 (by rw [← hSW, str_size]; have := kn_wl; omega)
  rw [← hSW, bl_str, enc_back HK.out.2.mB kn_w, hSW] at hdec
  have HD := Lib.hid hdec
  clear hdec hSW
  dsimp only
  go_wp2_with fail
  refine HD.out.mono ?_
  rintro e W14 ⟨v5, rfl, ⟨D0, D1, D2, d0, d1, d2, rfl, hml⟩, hbW14⟩
  have HB14 := Lib.hid (below_step HB13.out hbW14)
  replace HK := Lib.hid (KW.below HK.out hbW14)
  clear HB13 hbW14
  clear HD
  have hbW15 := (Below.refl _ W14).alloc (Nat.le_refl _) (.cells #[.slice D0 2 d0, .slice D1 2 d1, .int .u64 2, .int .u64 1, .int .u64 2, .int .u64 2, .int .i64 1, .int .i64 2, .slice D2 2 d2] 30)
  have hxW15 := Blk.new W14 30 (mtC D0 D1 D2 d0 d1 d2 mW)
  have hvW15 : MtL (W14.alloc (.cells #[.slice D0 2 d0, .slice D1 2 d1, .int .u64 2, .int .u64 1, .int .u64 2, .int .u64 2, .int .i64 1, .int .i64 2, .slice D2 2 d2] 30)) D0 D1 D2 d0 d1 d2 mW := hml.below hbW15
  obtain ⟨W15, hwW15⟩ : ∃ z, W14.alloc (.cells #[.slice D0 2 d0, .slice D1 2 d1, .int .u64 2, .int .u64 1, .int .u64 2, .int .u64 2, .int .i64 1, .int .i64 2, .slice D2 2 d2] 30) = z := ⟨_, rfl⟩
  rw [show W14.alloc (.cells (mtC D0 D1 D2 d0 d1 d2 mW) 30) = W15 from hwW15] at hxW15
  rw [hwW15] at hbW15 hvW15
  have HB15 := Lib.hid (below_step HB14.out hbW15)
  replace HK := Lib.hid (KW.below HK.out hbW15)
  clear HB14 hbW15
  have HX : Hid (Blk W15 W14.heap.size 30 (mtC D0 D1 D2 d0 d1 d2 mW)) := hxW15
  have HM := Lib.hid hvW15
  clear hxW15 hvW15 hml
  replace HX : Hid (Blk W15 W14.heap.size 30 (mtC D0 D1 D2 d0 d1 d2 mW)) := HX
  have hsm := HH.out.same (.agg (mtC D0 D1 D2 d0 d1 d2 mW)) _ mW mW W15 ⟨D0, D1, D2, d0, d1, d2, rfl, HM.out⟩ HK.out.2 (sz_q (by decide)) (sz_q (by decide))
  rw [decide_eq_true (rfl : mW = mW)] at hsm
  have HSM : Hid (Calls Try.prog 15 #[.agg #[.slice D0 2 d0, .slice D1 2 d1, .int .u64 2, .int .u64 1, .int .u64 2, .int .u64 2, .int .i64 1, .int .i64 2, .slice D2 2 d2], .agg #[.slice (some ⟨gl, 0, none⟩) 2 2, .slice (some ⟨gs, 0, none⟩) 2 2, .int .u64 2, .int .u64 1, .int .u64 2, .int .u64 2, .int .i64 1, .int .i64 2, .slice (some ⟨gt, 0, none⟩) 2 2]] W15 (endB true W15)) := hsm
  clear hsm
  have b0 := HK.out.1.cell 0
  have b1 := HK.out.1.cell 1
  have b2 := HK.out.1.cell 2
  have b3 := HK.out.1.cell 3
  have b4 := HK.out.1.cell 4
  have b5 := HK.out.1.cell 5
  have b6 := HK.out.1.cell 6
  have b7 := HK.out.1.cell 7
  have b8 := HK.out.1.cell 8
  simp only [mtC, mW, tW, List.getElem?_toArray, List.getElem?_cons_zero, List.getElem?_cons_succ, List.length_cons, List.length_nil, Nat.zero_add, Nat.reduceAdd] at b0 b1 b2 b3 b4 b5 b6 b7 b8
  have bl := HK.out.1.lt
  have a0 := HX.out.cell 0
  have a1 := HX.out.cell 1
  have a2 := HX.out.cell 2
  have a3 := HX.out.cell 3
  have a4 := HX.out.cell 4
  have a5 := HX.out.cell 5
  have a6 := HX.out.cell 6
  have a7 := HX.out.cell 7
  have a8 := HX.out.cell 8
  simp only [mtC, mW, tW, List.getElem?_toArray, List.getElem?_cons_zero, List.getElem?_cons_succ, List.length_cons, List.length_nil, Nat.zero_add, Nat.reduceAdd] at a0 a1 a2 a3 a4 a5 a6 a7 a8
  have al := HX.out.lt
  rw [show mtC D0 D1 D2 d0 d1 d2 (mW, (0 : Int)).1 = #[.slice D0 2 d0, .slice D1 2 d1, .int .u64 2, .int .u64 1, .int .u64 2, .int .u64 2, .int .i64 1, .int .i64 2, .slice D2 2 d2] from rfl]
  dsimp only
  go_wp2_with fail
  try rw [hwW15]
  obtain ⟨g5, hg5⟩ : ∃ z, W14.heap.size = z := ⟨_, rfl⟩
  rw [hg5] at HX
  try rw [hg5]
  clear a0 a1 a2 a3 a4 a5 a6 a7 a8 al
  clear b0 b1 b2 b3 b4 b5 b6 b7 b8 bl
  clear hwW15 hg5
  refine HSM.out.mono ?_
  rintro e W16 ⟨rfl, hbW16⟩
  have HB16 := Lib.hid (below_step HB15.out hbW16)
  replace HK := Lib.hid (KW.below HK.out hbW16)
  replace HM := Lib.hid (MtL.below HM.out hbW16)
  replace HX := Lib.hid (Blk.below HX.out hbW16)
  clear HB15 hbW16
  clear HSM
  obtain ⟨xb, xo, XB, xc, rfl, hxl, hx0, hx1, hx2, hx3, -, -⟩ := HM.out.snaps 0 (by decide)
  obtain ⟨yb, yo, rfl, hyl, hy0, -⟩ := HM.out.img.ints 0 (by decide)
  simp only [mW, tW, sA, List.getElem_cons_zero, Nat.zero_mul, Nat.add_zero] at hx0 hx1 hx2 hx3 hy0
  have hck := HH.out.check _ mW 2 303 W16 HK.out.2 (sz_q (by decide)) (by unfold i64B; omega) (by unfold i64B; omega)
  rw [kn_c.1] at hck
  have HC : Hid (Calls Try.prog 10 #[.agg #[.slice (some ⟨gl, 0, none⟩) 2 2, .slice (some ⟨gs, 0, none⟩) 2 2, .int .u64 2, .int .u64 1, .int .u64 2, .int .u64 2, .int .i64 1, .int .i64 2, .slice (some ⟨gt, 0, none⟩) 2 2], .int .i64 2, .int .i64 303] W16 (endI 0 W16)) := hck
  clear hck
  have b0 := HK.out.1.cell 0
  have b1 := HK.out.1.cell 1
  have b2 := HK.out.1.cell 2
  have b3 := HK.out.1.cell 3
  have b4 := HK.out.1.cell 4
  have b5 := HK.out.1.cell 5
  have b6 := HK.out.1.cell 6
  have b7 := HK.out.1.cell 7
  have b8 := HK.out.1.cell 8
  simp only [mtC, mW, tW, List.getElem?_toArray, List.getElem?_cons_zero, List.getElem?_cons_succ, List.length_cons, List.length_nil, Nat.zero_add, Nat.reduceAdd] at b0 b1 b2 b3 b4 b5 b6 b7 b8
  have bl := HK.out.1.lt
  have a0 := HX.out.cell 0
  have a1 := HX.out.cell 1
  have a2 := HX.out.cell 2
  have a3 := HX.out.cell 3
  have a4 := HX.out.cell 4
  have a5 := HX.out.cell 5
  have a6 := HX.out.cell 6
  have a7 := HX.out.cell 7
  have a8 := HX.out.cell 8
  simp only [mtC, mW, tW, List.getElem?_toArray, List.getElem?_cons_zero, List.getElem?_cons_succ, List.length_cons, List.length_nil, Nat.zero_add, Nat.reduceAdd] at a0 a1 a2 a3 a4 a5 a6 a7 a8
  have al := HX.out.lt
  go_wp2_with fail
  clear a0 a1 a2 a3 a4 a5 a6 a7 a8 al
  clear b0 b1 b2 b3 b4 b5 b6 b7 b8 bl
  clear hx0 hx1 hx2 hx3 hy0 hxl hyl
  refine HC.out.mono ?_
  rintro e W17 ⟨rfl, hbW17⟩
  have HB17 := Lib.hid (below_step HB16.out hbW17)
  replace HK := Lib.hid (KW.below HK.out hbW17)
  replace HM := Lib.hid (MtL.below HM.out hbW17)
  replace HX := Lib.hid (Blk.below HX.out hbW17)
  clear HB16 hbW17
  clear HC
  have hck := HH.out.check _ mW 2 302 W17 HK.out.2 (sz_q (by decide)) (by unfold i64B; omega) (by unfold i64B; omega)
  rw [kn_c.2.1] at hck
  have HC : Hid (Calls Try.prog 10 #[.agg #[.slice (some ⟨gl, 0, none⟩) 2 2, .slice (some ⟨gs, 0, none⟩) 2 2, .int .u64 2, .int .u64 1, .int .u64 2, .int .u64 2, .int .i64 1, .int .i64 2, .slice (some ⟨gt, 0, none⟩) 2 2], .int .i64 2, .int .i64 302] W17 (endI 2 W17)) := hck
  clear hck
  have b0 := HK.out.1.cell 0
  have b1 := HK.out.1.cell 1
  have b2 := HK.out.1.cell 2
  have b3 := HK.out.1.cell 3
  have b4 := HK.out.1.cell 4
  have b5 := HK.out.1.cell 5
  have b6 := HK.out.1.cell 6
  have b7 := HK.out.1.cell 7
  have b8 := HK.out.1.cell 8
  simp only [mtC, mW, tW, List.getElem?_toArray, List.getElem?_cons_zero, List.getElem?_cons_succ, List.length_cons, List.length_nil, Nat.zero_add, Nat.reduceAdd] at b0 b1 b2 b3 b4 b5 b6 b7 b8
  have bl := HK.out.1.lt
  go_wp2_with fail
  clear b0 b1 b2 b3 b4 b5 b6 b7 b8 bl
  refine HC.out.mono ?_
  rintro e W18 ⟨rfl, hbW18⟩
  have HB18 := Lib.hid (below_step HB17.out hbW18)
  replace HK := Lib.hid (KW.below HK.out hbW18)
  replace HM := Lib.hid (MtL.below HM.out hbW18)
  replace HX := Lib.hid (Blk.below HX.out hbW18)
  clear HB17 hbW18
  clear HC
  have hck := HH.out.check _ mW 1 400 W18 HK.out.2 (sz_q (by decide)) (by unfold i64B; omega) (by unfold i64B; omega)
  rw [kn_c.2.2] at hck
  have HC : Hid (Calls Try.prog 10 #[.agg #[.slice (some ⟨gl, 0, none⟩) 2 2, .slice (some ⟨gs, 0, none⟩) 2 2, .int .u64 2, .int .u64 1, .int .u64 2, .int .u64 2, .int .i64 1, .int .i64 2, .slice (some ⟨gt, 0, none⟩) 2 2], .int .i64 1, .int .i64 400] W18 (endI 2 W18)) := hck
  clear hck
  have b0 := HK.out.1.cell 0
  have b1 := HK.out.1.cell 1
  have b2 := HK.out.1.cell 2
  have b3 := HK.out.1.cell 3
  have b4 := HK.out.1.cell 4
  have b5 := HK.out.1.cell 5
  have b6 := HK.out.1.cell 6
  have b7 := HK.out.1.cell 7
  have b8 := HK.out.1.cell 8
  simp only [mtC, mW, tW, List.getElem?_toArray, List.getElem?_cons_zero, List.getElem?_cons_succ, List.length_cons, List.length_nil, Nat.zero_add, Nat.reduceAdd] at b0 b1 b2 b3 b4 b5 b6 b7 b8
  have bl := HK.out.1.lt
  go_wp2_with fail
  clear b0 b1 b2 b3 b4 b5 b6 b7 b8 bl
  refine HC.out.mono ?_
  rintro e W19 ⟨rfl, hbW19⟩
  have HB19 := Lib.hid (below_step HB18.out hbW19)
  replace HK := Lib.hid (KW.below HK.out hbW19)
  replace HM := Lib.hid (MtL.below HM.out hbW19)
  replace HX := Lib.hid (Blk.below HX.out hbW19)
  clear HB18 hbW19
  clear HC
  clear HM HX
  go_wp2_with fail
  refine (with_any do1 (fun a W => by go_simp) g3 (some ⟨gl, 0, none⟩) (some ⟨gs, 0, none⟩) (some ⟨gt, 0, none⟩) 2 2 2 W19 HK.out.1 HK.out.2).mono ?_
  rintro e W20 ⟨v, rfl, hmW20, hbW20⟩
  have HB20 := Lib.hid (below_step HB19.out hbW20)
  replace HK := Lib.hid (KW.below HK.out hbW20)
  clear HB19 hbW20
  obtain ⟨z1, rfl⟩ := mtat_fn hmW20
  have HM1 := Lib.hid hmW20
  clear hmW20
  go_wp2_with fail
  refine (with_any do2 (fun a W => by go_simp) g3 (some ⟨gl, 0, none⟩) (some ⟨gs, 0, none⟩) (some ⟨gt, 0, none⟩) 2 2 2 W20 HK.out.1 HK.out.2).mono ?_
  rintro e W21 ⟨v, rfl, hmW21, hbW21⟩
  have HB21 := Lib.hid (below_step HB20.out hbW21)
  replace HK := Lib.hid (KW.below HK.out hbW21)
  replace HM1 := Lib.hid (MtAt.below HM1.out hbW21)
  clear HB20 hbW21
  obtain ⟨z2, rfl⟩ := mtat_fn hmW21
  have HM2 := Lib.hid hmW21
  clear hmW21
  go_wp2_with fail
  refine (with_any do3 (fun a W => by go_simp) g3 (some ⟨gl, 0, none⟩) (some ⟨gs, 0, none⟩) (some ⟨gt, 0, none⟩) 2 2 2 W21 HK.out.1 HK.out.2).mono ?_
  rintro e W22 ⟨v, rfl, hmW22, hbW22⟩
  have HB22 := Lib.hid (below_step HB21.out hbW22)
  replace HK := Lib.hid (KW.below HK.out hbW22)
  replace HM1 := Lib.hid (MtAt.below HM1.out hbW22)
  replace HM2 := Lib.hid (MtAt.below HM2.out hbW22)
  clear HB21 hbW22
  obtain ⟨z3, rfl⟩ := mtat_fn hmW22
  have HM3 := Lib.hid hmW22
  clear hmW22
  go_wp2_with fail
  refine (with_any do4 (fun a W => by go_simp) g3 (some ⟨gl, 0, none⟩) (some ⟨gs, 0, none⟩) (some ⟨gt, 0, none⟩) 2 2 2 W22 HK.out.1 HK.out.2).mono ?_
  rintro e W23 ⟨v, rfl, hmW23, hbW23⟩
  have HB23 := Lib.hid (below_step HB22.out hbW23)
  replace HK := Lib.hid (KW.below HK.out hbW23)
  replace HM1 := Lib.hid (MtAt.below HM1.out hbW23)
  replace HM2 := Lib.hid (MtAt.below HM2.out hbW23)
  replace HM3 := Lib.hid (MtAt.below HM3.out hbW23)
  clear HB22 hbW23
  obtain ⟨z4, rfl⟩ := mtat_fn hmW23
  have HM4 := Lib.hid hmW23
  clear hmW23
  go_wp2_with fail
  refine (with_any do5 (fun a W => by go_simp) g3 (some ⟨gl, 0, none⟩) (some ⟨gs, 0, none⟩) (some ⟨gt, 0, none⟩) 2 2 2 W23 HK.out.1 HK.out.2).mono ?_
  rintro e W24 ⟨v, rfl, hmW24, hbW24⟩
  have HB24 := Lib.hid (below_step HB23.out hbW24)
  replace HK := Lib.hid (KW.below HK.out hbW24)
  replace HM1 := Lib.hid (MtAt.below HM1.out hbW24)
  replace HM2 := Lib.hid (MtAt.below HM2.out hbW24)
  replace HM3 := Lib.hid (MtAt.below HM3.out hbW24)
  replace HM4 := Lib.hid (MtAt.below HM4.out hbW24)
  clear HB23 hbW24
  obtain ⟨z5, rfl⟩ := mtat_fn hmW24
  have HM5 := Lib.hid hmW24
  clear hmW24
  go_wp2_with fail
  refine (with_any do6 (fun a W => by go_simp) g3 (some ⟨gl, 0, none⟩) (some ⟨gs, 0, none⟩) (some ⟨gt, 0, none⟩) 2 2 2 W24 HK.out.1 HK.out.2).mono ?_
  rintro e W25 ⟨v, rfl, hmW25, hbW25⟩
  have HB25 := Lib.hid (below_step HB24.out hbW25)
  replace HK := Lib.hid (KW.below HK.out hbW25)
  replace HM1 := Lib.hid (MtAt.below HM1.out hbW25)
  replace HM2 := Lib.hid (MtAt.below HM2.out hbW25)
  replace HM3 := Lib.hid (MtAt.below HM3.out hbW25)
  replace HM4 := Lib.hid (MtAt.below HM4.out hbW25)
  replace HM5 := Lib.hid (MtAt.below HM5.out hbW25)
  clear HB24 hbW25
  obtain ⟨z6, rfl⟩ := mtat_fn hmW25
  have HM6 := Lib.hid hmW25
  clear hmW25
  go_wp2_with fail
  refine (with_any do7 (fun a W => by go_simp) g3 (some ⟨gl, 0, none⟩) (some ⟨gs, 0, none⟩) (some ⟨gt, 0, none⟩) 2 2 2 W25 HK.out.1 HK.out.2).mono ?_
  rintro e W26 ⟨v, rfl, hmW26, hbW26⟩
  have HB26 := Lib.hid (below_step HB25.out hbW26)
  replace HK := Lib.hid (KW.below HK.out hbW26)
  replace HM1 := Lib.hid (MtAt.below HM1.out hbW26)
  replace HM2 := Lib.hid (MtAt.below HM2.out hbW26)
  replace HM3 := Lib.hid (MtAt.below HM3.out hbW26)
  replace HM4 := Lib.hid (MtAt.below HM4.out hbW26)
  replace HM5 := Lib.hid (MtAt.below HM5.out hbW26)
  replace HM6 := Lib.hid (MtAt.below HM6.out hbW26)
  clear HB25 hbW26
  obtain ⟨z7, rfl⟩ := mtat_fn hmW26
  have HM7 := Lib.hid hmW26
  clear hmW26
  go_wp2_with fail
  refine (with_any do8 (fun a W => by go_simp) g3 (some ⟨gl, 0, none⟩) (some ⟨gs, 0, none⟩) (some ⟨gt, 0, none⟩) 2 2 2 W26 HK.out.1 HK.out.2).mono ?_
  rintro e W27 ⟨v, rfl, hmW27, hbW27⟩
  have HB27 := Lib.hid (below_step HB26.out hbW27)
  replace HK := Lib.hid (KW.below HK.out hbW27)
  replace HM1 := Lib.hid (MtAt.below HM1.out hbW27)
  replace HM2 := Lib.hid (MtAt.below HM2.out hbW27)
  replace HM3 := Lib.hid (MtAt.below HM3.out hbW27)
  replace HM4 := Lib.hid (MtAt.below HM4.out hbW27)
  replace HM5 := Lib.hid (MtAt.below HM5.out hbW27)
  replace HM6 := Lib.hid (MtAt.below HM6.out hbW27)
  replace HM7 := Lib.hid (MtAt.below HM7.out hbW27)
  clear HB26 hbW27
  obtain ⟨z8, rfl⟩ := mtat_fn hmW27
  have HM8 := Lib.hid hmW27
  clear hmW27
  go_wp2_with fail
  refine (with_any do9 (fun a W => by go_simp) g3 (some ⟨gl, 0, none⟩) (some ⟨gs, 0, none⟩) (some ⟨gt, 0, none⟩) 2 2 2 W27 HK.out.1 HK.out.2).mono ?_
  rintro e W28 ⟨v, rfl, hmW28, hbW28⟩
  have HB28 := Lib.hid (below_step HB27.out hbW28)
  replace HK := Lib.hid (KW.below HK.out hbW28)
  replace HM1 := Lib.hid (MtAt.below HM1.out hbW28)
  replace HM2 := Lib.hid (MtAt.below HM2.out hbW28)
  replace HM3 := Lib.hid (MtAt.below HM3.out hbW28)
  replace HM4 := Lib.hid (MtAt.below HM4.out hbW28)
  replace HM5 := Lib.hid (MtAt.below HM5.out hbW28)
  replace HM6 := Lib.hid (MtAt.below HM6.out hbW28)
  replace HM7 := Lib.hid (MtAt.below HM7.out hbW28)
  replace HM8 := Lib.hid (MtAt.below HM8.out hbW28)
  clear HB27 hbW28
  obtain ⟨z9, rfl⟩ := mtat_fn hmW28
  have HM9 := Lib.hid hmW28
  clear hmW28
  go_wp2_with fail
  refine (with_any do10 (fun a W => by go_simp) g3 (some ⟨gl, 0, none⟩) (some ⟨gs, 0, none⟩) (some ⟨gt, 0, none⟩) 2 2 2 W28 HK.out.1 HK.out.2).mono ?_
  rintro e W29 ⟨v, rfl, hmW29, hbW29⟩
  have HB29 := Lib.hid (below_step HB28.out hbW29)
  replace HK := Lib.hid (KW.below HK.out hbW29)
  replace HM1 := Lib.hid (MtAt.below HM1.out hbW29)
  replace HM2 := Lib.hid (MtAt.below HM2.out hbW29)
  replace HM3 := Lib.hid (MtAt.below HM3.out hbW29)
  replace HM4 := Lib.hid (MtAt.below HM4.out hbW29)
  replace HM5 := Lib.hid (MtAt.below HM5.out hbW29)
  replace HM6 := Lib.hid (MtAt.below HM6.out hbW29)
  replace HM7 := Lib.hid (MtAt.below HM7.out hbW29)
  replace HM8 := Lib.hid (MtAt.below HM8.out hbW29)
  replace HM9 := Lib.hid (MtAt.below HM9.out hbW29)
  clear HB28 hbW29
  obtain ⟨z10, rfl⟩ := mtat_fn hmW29
  have HM10 := Lib.hid hmW29
  clear hmW29
  go_wp2_with fail
  refine (with_any do11 (fun a W => by go_simp) g3 (some ⟨gl, 0, none⟩) (some ⟨gs, 0, none⟩) (some ⟨gt, 0, none⟩) 2 2 2 W29 HK.out.1 HK.out.2).mono ?_
  rintro e W30 ⟨v, rfl, hmW30, hbW30⟩
  have HB30 := Lib.hid (below_step HB29.out hbW30)
  replace HK := Lib.hid (KW.below HK.out hbW30)
  replace HM1 := Lib.hid (MtAt.below HM1.out hbW30)
  replace HM2 := Lib.hid (MtAt.below HM2.out hbW30)
  replace HM3 := Lib.hid (MtAt.below HM3.out hbW30)
  replace HM4 := Lib.hid (MtAt.below HM4.out hbW30)
  replace HM5 := Lib.hid (MtAt.below HM5.out hbW30)
  replace HM6 := Lib.hid (MtAt.below HM6.out hbW30)
  replace HM7 := Lib.hid (MtAt.below HM7.out hbW30)
  replace HM8 := Lib.hid (MtAt.below HM8.out hbW30)
  replace HM9 := Lib.hid (MtAt.below HM9.out hbW30)
  replace HM10 := Lib.hid (MtAt.below HM10.out hbW30)
  clear HB29 hbW30
  obtain ⟨z11, rfl⟩ := mtat_fn hmW30
  have HM11 := Lib.hid hmW30
  clear hmW30
  go_wp2_with fail
  refine (with_any do12 (fun a W => by go_simp) g3 (some ⟨gl, 0, none⟩) (some ⟨gs, 0, none⟩) (some ⟨gt, 0, none⟩) 2 2 2 W30 HK.out.1 HK.out.2).mono ?_
  rintro e W31 ⟨v, rfl, hmW31, hbW31⟩
  have HB31 := Lib.hid (below_step HB30.out hbW31)
  replace HK := Lib.hid (KW.below HK.out hbW31)
  replace HM1 := Lib.hid (MtAt.below HM1.out hbW31)
  replace HM2 := Lib.hid (MtAt.below HM2.out hbW31)
  replace HM3 := Lib.hid (MtAt.below HM3.out hbW31)
  replace HM4 := Lib.hid (MtAt.below HM4.out hbW31)
  replace HM5 := Lib.hid (MtAt.below HM5.out hbW31)
  replace HM6 := Lib.hid (MtAt.below HM6.out hbW31)
  replace HM7 := Lib.hid (MtAt.below HM7.out hbW31)
  replace HM8 := Lib.hid (MtAt.below HM8.out hbW31)
  replace HM9 := Lib.hid (MtAt.below HM9.out hbW31)
  replace HM10 := Lib.hid (MtAt.below HM10.out hbW31)
  replace HM11 := Lib.hid (MtAt.below HM11.out hbW31)
  clear HB30 hbW31
  obtain ⟨z12, rfl⟩ := mtat_fn hmW31
  have HM12 := Lib.hid hmW31
  clear hmW31
  go_wp2_with fail
  refine (with_any do13 (fun a W => by go_simp) g3 (some ⟨gl, 0, none⟩) (some ⟨gs, 0, none⟩) (some ⟨gt, 0, none⟩) 2 2 2 W31 HK.out.1 HK.out.2).mono ?_
  rintro e W32 ⟨v, rfl, hmW32, hbW32⟩
  have HB32 := Lib.hid (below_step HB31.out hbW32)
  replace HK := Lib.hid (KW.below HK.out hbW32)
  replace HM1 := Lib.hid (MtAt.below HM1.out hbW32)
  replace HM2 := Lib.hid (MtAt.below HM2.out hbW32)
  replace HM3 := Lib.hid (MtAt.below HM3.out hbW32)
  replace HM4 := Lib.hid (MtAt.below HM4.out hbW32)
  replace HM5 := Lib.hid (MtAt.below HM5.out hbW32)
  replace HM6 := Lib.hid (MtAt.below HM6.out hbW32)
  replace HM7 := Lib.hid (MtAt.below HM7.out hbW32)
  replace HM8 := Lib.hid (MtAt.below HM8.out hbW32)
  replace HM9 := Lib.hid (MtAt.below HM9.out hbW32)
  replace HM10 := Lib.hid (MtAt.below HM10.out hbW32)
  replace HM11 := Lib.hid (MtAt.below HM11.out hbW32)
  replace HM12 := Lib.hid (MtAt.below HM12.out hbW32)
  clear HB31 hbW32
  obtain ⟨z13, rfl⟩ := mtat_fn hmW32
  have HM13 := Lib.hid hmW32
  clear hmW32
  go_wp2_with fail
  refine (with_any do14 (fun a W => by go_simp) g3 (some ⟨gl, 0, none⟩) (some ⟨gs, 0, none⟩) (some ⟨gt, 0, none⟩) 2 2 2 W32 HK.out.1 HK.out.2).mono ?_
  rintro e W33 ⟨v, rfl, hmW33, hbW33⟩
  have HB33 := Lib.hid (below_step HB32.out hbW33)
  replace HK := Lib.hid (KW.below HK.out hbW33)
  replace HM1 := Lib.hid (MtAt.below HM1.out hbW33)
  replace HM2 := Lib.hid (MtAt.below HM2.out hbW33)
  replace HM3 := Lib.hid (MtAt.below HM3.out hbW33)
  replace HM4 := Lib.hid (MtAt.below HM4.out hbW33)
  replace HM5 := Lib.hid (MtAt.below HM5.out hbW33)
  replace HM6 := Lib.hid (MtAt.below HM6.out hbW33)
  replace HM7 := Lib.hid (MtAt.below HM7.out hbW33)
  replace HM8 := Lib.hid (MtAt.below HM8.out hbW33)
  replace HM9 := Lib.hid (MtAt.below HM9.out hbW33)
  replace HM10 := Lib.hid (MtAt.below HM10.out hbW33)
  replace HM11 := Lib.hid (MtAt.below HM11.out hbW33)
  replace HM12 := Lib.hid (MtAt.below HM12.out hbW33)
  replace HM13 := Lib.hid (MtAt.below HM13.out hbW33)
  clear HB32 hbW33
  obtain ⟨z14, rfl⟩ := mtat_fn hmW33
  have HM14 := Lib.hid hmW33
  clear hmW33
  go_wp2_with fail
  refine (with_any do15 (fun a W => by go_simp) g3 (some ⟨gl, 0, none⟩) (some ⟨gs, 0, none⟩) (some ⟨gt, 0, none⟩) 2 2 2 W33 HK.out.1 HK.out.2).mono ?_
  rintro e W34 ⟨v, rfl, hmW34, hbW34⟩
  have HB34 := Lib.hid (below_step HB33.out hbW34)
  replace HK := Lib.hid (KW.below HK.out hbW34)
  replace HM1 := Lib.hid (MtAt.below HM1.out hbW34)
  replace HM2 := Lib.hid (MtAt.below HM2.out hbW34)
  replace HM3 := Lib.hid (MtAt.below HM3.out hbW34)
  replace HM4 := Lib.hid (MtAt.below HM4.out hbW34)
  replace HM5 := Lib.hid (MtAt.below HM5.out hbW34)
  replace HM6 := Lib.hid (MtAt.below HM6.out hbW34)
  replace HM7 := Lib.hid (MtAt.below HM7.out hbW34)
  replace HM8 := Lib.hid (MtAt.below HM8.out hbW34)
  replace HM9 := Lib.hid (MtAt.below HM9.out hbW34)
  replace HM10 := Lib.hid (MtAt.below HM10.out hbW34)
  replace HM11 := Lib.hid (MtAt.below HM11.out hbW34)
  replace HM12 := Lib.hid (MtAt.below HM12.out hbW34)
  replace HM13 := Lib.hid (MtAt.below HM13.out hbW34)
  replace HM14 := Lib.hid (MtAt.below HM14.out hbW34)
  clear HB33 hbW34
  obtain ⟨z15, rfl⟩ := mtat_fn hmW34
  have HM15 := Lib.hid hmW34
  clear hmW34
  go_wp2_with fail
  refine (with_any do16 (fun a W => by go_simp) g3 (some ⟨gl, 0, none⟩) (some ⟨gs, 0, none⟩) (some ⟨gt, 0, none⟩) 2 2 2 W34 HK.out.1 HK.out.2).mono ?_
  rintro e W35 ⟨v, rfl, hmW35, hbW35⟩
  have HB35 := Lib.hid (below_step HB34.out hbW35)
  replace HK := Lib.hid (KW.below HK.out hbW35)
  replace HM1 := Lib.hid (MtAt.below HM1.out hbW35)
  replace HM2 := Lib.hid (MtAt.below HM2.out hbW35)
  replace HM3 := Lib.hid (MtAt.below HM3.out hbW35)
  replace HM4 := Lib.hid (MtAt.below HM4.out hbW35)
  replace HM5 := Lib.hid (MtAt.below HM5.out hbW35)
  replace HM6 := Lib.hid (MtAt.below HM6.out hbW35)
  replace HM7 := Lib.hid (MtAt.below HM7.out hbW35)
  replace HM8 := Lib.hid (MtAt.below HM8.out hbW35)
  replace HM9 := Lib.hid (MtAt.below HM9.out hbW35)
  replace HM10 := Lib.hid (MtAt.below HM10.out hbW35)
  replace HM11 := Lib.hid (MtAt.below HM11.out hbW35)
  replace HM12 := Lib.hid (MtAt.below HM12.out hbW35)
  replace HM13 := Lib.hid (MtAt.below HM13.out hbW35)
  replace HM14 := Lib.hid (MtAt.below HM14.out hbW35)
  replace HM15 := Lib.hid (MtAt.below HM15.out hbW35)
  clear HB34 hbW35
  obtain ⟨z16, rfl⟩ := mtat_fn hmW35
  have HM16 := Lib.hid hmW35
  clear hmW35
  go_wp2_with fail
  refine (with_any do17 (fun a W => by go_simp) g3 (some ⟨gl, 0, none⟩) (some ⟨gs, 0, none⟩) (some ⟨gt, 0, none⟩) 2 2 2 W35 HK.out.1 HK.out.2).mono ?_
  rintro e W36 ⟨v, rfl, hmW36, hbW36⟩
  have HB36 := Lib.hid (below_step HB35.out hbW36)
  replace HK := Lib.hid (KW.below HK.out hbW36)
  replace HM1 := Lib.hid (MtAt.below HM1.out hbW36)
  replace HM2 := Lib.hid (MtAt.below HM2.out hbW36)
  replace HM3 := Lib.hid (MtAt.below HM3.out hbW36)
  replace HM4 := Lib.hid (MtAt.below HM4.out hbW36)
  replace HM5 := Lib.hid (MtAt.below HM5.out hbW36)
  replace HM6 := Lib.hid (MtAt.below HM6.out hbW36)
  replace HM7 := Lib.hid (MtAt.below HM7.out hbW36)
  replace HM8 := Lib.hid (MtAt.below HM8.out hbW36)
  replace HM9 := Lib.hid (MtAt.below HM9.out hbW36)
  replace HM10 := Lib.hid (MtAt.below HM10.out hbW36)
  replace HM11 := Lib.hid (MtAt.below HM11.out hbW36)
  replace HM12 := Lib.hid (MtAt.below HM12.out hbW36)
  replace HM13 := Lib.hid (MtAt.below HM13.out hbW36)
  replace HM14 := Lib.hid (MtAt.below HM14.out hbW36)
  replace HM15 := Lib.hid (MtAt.below HM15.out hbW36)
  replace HM16 := Lib.hid (MtAt.below HM16.out hbW36)
  clear HB35 hbW36
  obtain ⟨z17, rfl⟩ := mtat_fn hmW36
  have HM17 := Lib.hid hmW36
  clear hmW36
  go_wp2_with fail
  refine (with_any do18 (fun a W => by go_simp) g3 (some ⟨gl, 0, none⟩) (some ⟨gs, 0, none⟩) (some ⟨gt, 0, none⟩) 2 2 2 W36 HK.out.1 HK.out.2).mono ?_
  rintro e W37 ⟨v, rfl, hmW37, hbW37⟩
  have HB37 := Lib.hid (below_step HB36.out hbW37)
  replace HK := Lib.hid (KW.below HK.out hbW37)
  replace HM1 := Lib.hid (MtAt.below HM1.out hbW37)
  replace HM2 := Lib.hid (MtAt.below HM2.out hbW37)
  replace HM3 := Lib.hid (MtAt.below HM3.out hbW37)
  replace HM4 := Lib.hid (MtAt.below HM4.out hbW37)
  replace HM5 := Lib.hid (MtAt.below HM5.out hbW37)
  replace HM6 := Lib.hid (MtAt.below HM6.out hbW37)
  replace HM7 := Lib.hid (MtAt.below HM7.out hbW37)
  replace HM8 := Lib.hid (MtAt.below HM8.out hbW37)
  replace HM9 := Lib.hid (MtAt.below HM9.out hbW37)
  replace HM10 := Lib.hid (MtAt.below HM10.out hbW37)
  replace HM11 := Lib.hid (MtAt.below HM11.out hbW37)
  replace HM12 := Lib.hid (MtAt.below HM12.out hbW37)
  replace HM13 := Lib.hid (MtAt.below HM13.out hbW37)
  replace HM14 := Lib.hid (MtAt.below HM14.out hbW37)
  replace HM15 := Lib.hid (MtAt.below HM15.out hbW37)
  replace HM16 := Lib.hid (MtAt.below HM16.out hbW37)
  replace HM17 := Lib.hid (MtAt.below HM17.out hbW37)
  clear HB36 hbW37
  obtain ⟨z18, rfl⟩ := mtat_fn hmW37
  have HM18 := Lib.hid hmW37
  clear hmW37
  go_wp2_with fail
  obtain ⟨i0, hi, hz0, hz1, hz2⟩ := info_parts infoRow
  obtain ⟨items, hitems⟩ : ∃ l : List It, [(z1, 16), (z2, 2), (z3, 2), (z4, 16), (z5, 2), (z6, 2), (z7, 2), (z8, 2), (z9, 2), (z10, 2), (z11, 16), (z12, 2), (z13, 2), (z14, 0), (z15, 0), (z16, 0), (z17, 3), (z18, 2)] = l := ⟨_, rfl⟩
  refine wp_buildSlice 53 52 18 _ rfl ((items.map itV).flatMap fun v => v.cells.toList).toArray i0 _ Try.underlying53 hi hz0 (by rw [hz1]; decide) (by rw [hz1]; decide) ?_ ?_
  · rw [hz1, ← hitems]
    refine Eq.trans (congrArg (Instr.fill _ _) ?_) (fill_whole (s := 10) (by decide) (([(z1, 16), (z2, 2), (z3, 2), (z4, 16), (z5, 2), (z6, 2), (z7, 2), (z8, 2), (z9, 2), (z10, 2), (z11, 16), (z12, 2), (z13, 2), (z14, 0), (z15, 0), (z16, 0), (z17, 3), (z18, 2)] : List It).map itV) _ (fun v hv => by obtain ⟨x, _, rfl⟩ := List.mem_map.1 hv; rfl) ?_)
    · first | kernel_rfl | rfl
    · simp
  have hbW38 := (Below.refl _ W37).alloc (Nat.le_refl _) (.cells ((items.map itV).flatMap fun v => v.cells.toList).toArray 52)
  have hxW38 := Blk.new W37 52 ((items.map itV).flatMap fun v => v.cells.toList).toArray
  obtain ⟨W38, hwW38⟩ : ∃ z, W37.alloc (.cells ((items.map itV).flatMap fun v => v.cells.toList).toArray 52) = z := ⟨_, rfl⟩
  rw [hwW38] at hbW38 hxW38
  have HB38 := Lib.hid (below_step HB37.out hbW38)
  replace HK := Lib.hid (KW.below HK.out hbW38)
  replace HM1 := Lib.hid (MtAt.below HM1.out hbW38)
  replace HM2 := Lib.hid (MtAt.below HM2.out hbW38)
  replace HM3 := Lib.hid (MtAt.below HM3.out hbW38)
  replace HM4 := Lib.hid (MtAt.below HM4.out hbW38)
  replace HM5 := Lib.hid (MtAt.below HM5.out hbW38)
  replace HM6 := Lib.hid (MtAt.below HM6.out hbW38)
  replace HM7 := Lib.hid (MtAt.below HM7.out hbW38)
  replace HM8 := Lib.hid (MtAt.below HM8.out hbW38)
  replace HM9 := Lib.hid (MtAt.below HM9.out hbW38)
  replace HM10 := Lib.hid (MtAt.below HM10.out hbW38)
  replace HM11 := Lib.hid (MtAt.below HM11.out hbW38)
  replace HM12 := Lib.hid (MtAt.below HM12.out hbW38)
  replace HM13 := Lib.hid (MtAt.below HM13.out hbW38)
  replace HM14 := Lib.hid (MtAt.below HM14.out hbW38)
  replace HM15 := Lib.hid (MtAt.below HM15.out hbW38)
  replace HM16 := Lib.hid (MtAt.below HM16.out hbW38)
  replace HM17 := Lib.hid (MtAt.below HM17.out hbW38)
  replace HM18 := Lib.hid (MtAt.below HM18.out hbW38)
  clear HB37 hbW38
  have HT : Hid (TabAt W38 items) := by
    intro k hk
    rw [← hitems]
    rcases k with _ | _ | _ | _ | _ | _ | _ | _ | _ | _ | _ | _ | _ | _ | _ | _ | _ | _ | k
    · exact ⟨_, _, rfl, rfl, HM1.out⟩
    · exact ⟨_, _, rfl, rfl, HM2.out⟩
    · exact ⟨_, _, rfl, rfl, HM3.out⟩
    · exact ⟨_, _, rfl, rfl, HM4.out⟩
    · exact ⟨_, _, rfl, rfl, HM5.out⟩
    · exact ⟨_, _, rfl, rfl, HM6.out⟩
    · exact ⟨_, _, rfl, rfl, HM7.out⟩
    · exact ⟨_, _, rfl, rfl, HM8.out⟩
    · exact ⟨_, _, rfl, rfl, HM9.out⟩
    · exact ⟨_, _, rfl, rfl, HM10.out⟩
    · exact ⟨_, _, rfl, rfl, HM11.out⟩
    · exact ⟨_, _, rfl, rfl, HM12.out⟩
    · exact ⟨_, _, rfl, rfl, HM13.out⟩
    · exact ⟨_, _, rfl, rfl, HM14.out⟩
    · exact ⟨_, _, rfl, rfl, HM15.out⟩
    · exact ⟨_, _, rfl, rfl, HM16.out⟩
    · exact ⟨_, _, rfl, rfl, HM17.out⟩
    · exact ⟨_, _, rfl, rfl, HM18.out⟩
    · omega
  have HI : Hid (items.length = 18 ∧ ∀ k (h : k < 18), items[k]?.map (·.2) = knL[k]?.map (·.2)) := by
    rw [← hitems]
    refine ⟨rfl, fun k hk => ?_⟩
    rcases k with _ | _ | _ | _ | _ | _ | _ | _ | _ | _ | _ | _ | _ | _ | _ | _ | _ | _ | k
    all_goals first | rfl | omega
  have HXT := Lib.hid hxW38
  obtain ⟨gb, hgb⟩ : ∃ z, W37.heap.size = z := ⟨_, rfl⟩
  rw [hgb] at HXT
  clear hxW38 hitems HM1 HM2 HM3 HM4 HM5 HM6 HM7 HM8 HM9 HM10 HM11 HM12 HM13 HM14 HM15 HM16 HM17 HM18
  dsimp only
  try rw [hgb]
  try rw [hwW38]
  clear hwW38 hgb
  go_wp2_with fail
  go_loopw [8, 9, 158] (fun _ _ i wr => KnR 18 W38 i wr) (fun _ _ i _ => 18 - (intOf i).toNat)
  case atStart => exact ⟨0, by omega, rfl, Below.refl _ _⟩
  case round =>
    obtain ⟨k, hk, rfl, hbr⟩ := hrel
    have HBR := Lib.hid hbr
    clear hbr
    by_cases hlt : k < 18
    · have hki : (k : Int) < 18 := by omega
      obtain ⟨x, y, hx, hy, hat⟩ := HT.out k hlt
      have hw2 : x.2 = y.2 := by
        have := HI.out.2 k hlt
        rw [hx, hy] at this
        simpa using this
      have hym := List.mem_of_getElem? hy
      have hck : mCheck y.1 2 400 = x.2 := by rw [hw2]; exact knL_chk y hym
      have hsz := knL_sz y hym
      have hbx := HXT.out.below HBR.out
      have hcell := tab_cell hbx hx
      have t0 := hcell 0 (by decide)
      have t1 := hcell 1 (by decide)
      have t2 := hcell 2 (by decide)
      have t3 := hcell 3 (by decide)
      have t4 := hcell 4 (by decide)
      have t5 := hcell 5 (by decide)
      have t6 := hcell 6 (by decide)
      have t7 := hcell 7 (by decide)
      have t8 := hcell 8 (by decide)
      have t9 := hcell 9 (by decide)
      simp only [itV, Value.cells, List.getElem?_toArray, List.getElem?_cons_zero, List.getElem?_cons_succ, Nat.add_zero] at t0 t1 t2 t3 t4 t5 t6 t7 t8 t9
      have hlb := hbx.lt
      obtain ⟨A0, A1, A2, c0, c1, c2, hv, hml⟩ := hat
      simp only [agN, mtC, Value.agg.injEq, Array.mk.injEq, List.cons.injEq, and_true] at hv
      obtain ⟨e0, e1, e2, e3, e4, e5, e6, e7, e8⟩ := hv
      rw [e0] at t0
      rw [e1] at t1
      rw [e2] at t2
      rw [e3] at t3
      rw [e4] at t4
      rw [e5] at t5
      rw [e6] at t6
      rw [e7] at t7
      rw [e8] at t8
      obtain ⟨my, hmy⟩ : ∃ z, y.1 = z := ⟨_, rfl⟩
      obtain ⟨r, hr⟩ : ∃ z, x.2 = z := ⟨_, rfl⟩
      rw [hmy] at t0 t1 t2 t3 t4 t5 t6 t7 t8 hml hck hsz
      rw [hr] at t9 hck
      clear hmy hr e0 e1 e2 e3 e4 e5 e6 e7 e8
      have hb9 := (Below.refl _ wr).alloc (Nat.le_refl _) (.cells #[.slice A0 my.live.length c0, .slice A1 my.snaps.length c1, .int .u64 (my.tok.base.1 : Int), .int .u64 (my.tok.base.2 : Int), .int .u64 (my.tok.target.1 : Int), .int .u64 (my.tok.target.2 : Int), .int .i64 my.tok.next, .int .i64 my.tok.all, .slice A2 my.tok.img.length c2, .int .i64 r] 52)
      have hx9 := Blk.new wr 52 #[.slice A0 my.live.length c0, .slice A1 my.snaps.length c1, .int .u64 (my.tok.base.1 : Int), .int .u64 (my.tok.base.2 : Int), .int .u64 (my.tok.target.1 : Int), .int .u64 (my.tok.target.2 : Int), .int .i64 my.tok.next, .int .i64 my.tok.all, .slice A2 my.tok.img.length c2, .int .i64 r]
      obtain ⟨W9, hW9⟩ : ∃ z, wr.alloc (.cells #[.slice A0 my.live.length c0, .slice A1 my.snaps.length c1, .int .u64 (my.tok.base.1 : Int), .int .u64 (my.tok.base.2 : Int), .int .u64 (my.tok.target.1 : Int), .int .u64 (my.tok.target.2 : Int), .int .i64 my.tok.next, .int .i64 my.tok.all, .slice A2 my.tok.img.length c2, .int .i64 r] 52) = z := ⟨_, rfl⟩
      rw [hW9] at hb9 hx9
      have hml9 := hml.below (below_step HBR.out hb9)
      have HB9 := Lib.hid (below_step HBR.out hb9)
      have HX9 := Lib.hid hx9
      have HC9 : Hid (∀ W, Below W9.heap.size W9 W → Calls Try.prog 10 #[.agg #[.slice A0 my.live.length c0, .slice A1 my.snaps.length c1, .int .u64 (my.tok.base.1 : Int), .int .u64 (my.tok.base.2 : Int), .int .u64 (my.tok.target.1 : Int), .int .u64 (my.tok.target.2 : Int), .int .i64 my.tok.next, .int .i64 my.tok.all, .slice A2 my.tok.img.length c2], .int .i64 2, .int .i64 400] W (endI r W)) := fun W hb => by
        have := HH.out.check (.agg #[.slice A0 my.live.length c0, .slice A1 my.snaps.length c1, .int .u64 (my.tok.base.1 : Int), .int .u64 (my.tok.base.2 : Int), .int .u64 (my.tok.target.1 : Int), .int .u64 (my.tok.target.2 : Int), .int .i64 my.tok.next, .int .i64 my.tok.all, .slice A2 my.tok.img.length c2]) my 2 400 W ⟨A0, A1, A2, c0, c1, c2, rfl, hml9.below hb⟩ hsz (by unfold i64B; omega) (by unfold i64B; omega)
        rw [hck] at this
        exact this
      clear hx hy hml hw2 hym hck hbx hcell hb9 hx9 hml9 hsz
      go_wp2_with fail
      try rw [hW9]
      obtain ⟨g9, hg9⟩ : ∃ z, wr.heap.size = z := ⟨_, rfl⟩
      rw [hg9] at HX9
      try rw [hg9]
      clear hW9 hg9 t0 t1 t2 t3 t4 t5 t6 t7 t8 t9 hlb
      refine wp_region_inv (by kernel_rfl) [163, 164, 165, 166, 167, 168] (by kernel_rfl) (fun L vs W => Below W9.heap.size W9 W ∧ ∀ i, L i = true → i < 6 → K13G g9 A0 A1 A2 c0 c1 c2 my r i (vs i) W) ⟨(Below.refl _ _).drew, fun i hi => by cases hi⟩ ?_ ?_ ?_
      · intro i o L vs ρ W ho hli haft hρ hgd hI
        obtain ⟨hb, hG'⟩ := hI
        have hG : ∀ j, L j = true → K13G g9 A0 A1 A2 c0 c1 c2 my r j (vs j) W := fun j hj => by
          by_cases h51 : j < 6
          · exact hG' j hj h51
          · match j, h51 with
            | j + 6, _ => exact trivial
        have hi51 : i < 6 := (Array.getElem?_eq_some_iff.1 ho).1
        have hc := hρ.const
        have hfn := hρ.fn
        have next : ∀ v W', Below W.heap.size W W' → K13G g9 A0 A1 A2 c0 c1 c2 my r i v W' → Below W9.heap.size W9 W' ∧ ∀ j, updB L i j = true → j < 6 → K13G g9 A0 A1 A2 c0 c1 c2 my r j (updV vs i v j) W' := fun v W' h1 h2 => by
          refine ⟨below_step hb h1, fun j hj h51 => ?_⟩
          by_cases hji : j = i
          · subst hji
            simpa [updV] using h2
          · simp only [updB, if_neg hji] at hj
            simpa [updV, hji] using K13G_mono g9 A0 A1 A2 c0 c1 c2 my r j _ W W' h51 (hG' j hj h51) h1
        have y0 := (HX9.out.below hb).cell 0
        have y1 := (HX9.out.below hb).cell 1
        have y2 := (HX9.out.below hb).cell 2
        have y3 := (HX9.out.below hb).cell 3
        have y4 := (HX9.out.below hb).cell 4
        have y5 := (HX9.out.below hb).cell 5
        have y6 := (HX9.out.below hb).cell 6
        have y7 := (HX9.out.below hb).cell 7
        have y8 := (HX9.out.below hb).cell 8
        have y9 := (HX9.out.below hb).cell 9
        have hly := (HX9.out.below hb).lt
        simp only [List.getElem?_toArray, List.getElem?_cons_zero, List.getElem?_cons_succ] at y0 y1 y2 y3 y4 y5 y6 y7 y8 y9
        rcases i with _ | _ | _ | _ | _ | _ | i
        all_goals (first | omega | skip)
        all_goals simp only [List.getElem?_toArray, List.getElem?_cons_zero, List.getElem?_cons_succ, Option.some.injEq] at ho
        all_goals subst ho
        · have o9 : ρ (.tmp 9) = .pointer (some ⟨g9, 0, none⟩) := hρ.out 9 rfl
          exact stepTo_value (w' := W) (by unfold execOp; simp only [o9, hc]; go_simp) (next _ _ (Below.refl _ _) rfl)
        · have g163 : K13G g9 A0 A1 A2 c0 c1 c2 my r 0 (vs 0) W := hG 0 (haft 0 (by kernel_rfl))
          have s163 : ρ (.tmp 163) = .pointer (some ⟨g9, 0, none⟩) := (hρ.at_ 163 0 rfl).trans g163
          exact stepTo_value (w' := W) (by unfold execOp; simp only [s163, hc]; go_simp) (next _ _ (Below.refl _ _) rfl)
        · have g164 : K13G g9 A0 A1 A2 c0 c1 c2 my r 1 (vs 1) W := hG 1 (haft 1 (by kernel_rfl))
          have s164 : ρ (.tmp 164) = .agg #[.slice A0 my.live.length c0, .slice A1 my.snaps.length c1, .int .u64 (my.tok.base.1 : Int), .int .u64 (my.tok.base.2 : Int), .int .u64 (my.tok.target.1 : Int), .int .u64 (my.tok.target.2 : Int), .int .i64 my.tok.next, .int .i64 my.tok.all, .slice A2 my.tok.img.length c2] := (hρ.at_ 164 1 rfl).trans g164
          refine stepTo_enter (f := 10) (args := #[.agg #[.slice A0 my.live.length c0, .slice A1 my.snaps.length c1, .int .u64 (my.tok.base.1 : Int), .int .u64 (my.tok.base.2 : Int), .int .u64 (my.tok.target.1 : Int), .int .u64 (my.tok.target.2 : Int), .int .i64 my.tok.next, .int .i64 my.tok.all, .slice A2 my.tok.img.length c2], .int .i64 2, .int .i64 400]) (w' := W) (by unfold execOp; simp only [hfn, s164]; go_simp) ((HC9.out W hb).mono ?_)
          rintro x W' ⟨rfl, hb'⟩
          exact ⟨_, rfl, next _ _ hb' rfl⟩
        · have o9 : ρ (.tmp 9) = .pointer (some ⟨g9, 0, none⟩) := hρ.out 9 rfl
          exact stepTo_value (w' := W) (by unfold execOp; simp only [o9, hc]; go_simp) (next _ _ (Below.refl _ _) rfl)
        · have g166 : K13G g9 A0 A1 A2 c0 c1 c2 my r 3 (vs 3) W := hG 3 (haft 3 (by kernel_rfl))
          have s166 : ρ (.tmp 166) = .pointer (some ⟨g9, 9, none⟩) := (hρ.at_ 166 3 rfl).trans g166
          exact stepTo_value (w' := W) (by unfold execOp; simp only [s166, hc]; go_simp) (next _ _ (Below.refl _ _) rfl)
        · have g165 : K13G g9 A0 A1 A2 c0 c1 c2 my r 2 (vs 2) W := hG 2 (haft 2 (by kernel_rfl))
          have s165 : ρ (.tmp 165) = .int .i64 r := (hρ.at_ 165 2 rfl).trans g165
          have g167 : K13G g9 A0 A1 A2 c0 c1 c2 my r 4 (vs 4) W := hG 4 (haft 4 (by kernel_rfl))
          have s167 : ρ (.tmp 167) = .int .i64 r := (hρ.at_ 167 4 rfl).trans g167
          exact stepTo_value (w' := W) (by unfold execOp; simp only [s165, s167, hc]; go_simp) (next _ _ (Below.refl _ _) rfl)
      · intro i o L vs W j want ho hli haft hg hv hI
        obtain ⟨hb, hG'⟩ := hI
        have hG : ∀ j, L j = true → K13G g9 A0 A1 A2 c0 c1 c2 my r j (vs j) W := fun j hj => by
          by_cases h51 : j < 6
          · exact hG' j hj h51
          · match j, h51 with
            | j + 6, _ => exact trivial
        have hi51 : i < 6 := (Array.getElem?_eq_some_iff.1 ho).1
        rcases i with _ | _ | _ | _ | _ | _ | i
        all_goals (first | omega | skip)
        all_goals simp only [List.getElem?_toArray, List.getElem?_cons_zero, List.getElem?_cons_succ, Option.some.injEq] at ho
        all_goals subst ho
        all_goals simp only [reduceCtorEq, Option.some.injEq, Prod.mk.injEq] at hg
      · intro vs W hI
        have g5 : vs 5 = .bool false := hI.2 5 (by decide) (by decide)
        have HBW := Lib.hid (below_step HB9.out hI.1)
        clear hI
        simp only [putList, putSel, if_true]
        rw [g5]
        generalize vs 0 = e0
        generalize vs 1 = e1
        generalize vs 2 = e2
        generalize vs 3 = e3
        generalize vs 4 = e4
        clear g5
        simp only [Act.put, List.setIfInBounds_toArray, List.set_cons_succ, List.set_cons_zero]
        go_wp2_with fail
        go_roundw
        case rel => exact ⟨k + 1, by omega, by go_num, HBW.out⟩
        case measure => simp [intOf]; omega
    · have hki : ¬ (k : Int) < 18 := by omega
      have HBwr := Lib.hid (below_step HB38.out HBR.out)
      replace HK := Lib.hid (KW.below HK.out HBR.out)
      clear HB38 HBR HT HXT HI
      have hbq := (Below.refl _ wr).alloc (Nat.le_refl _) (.cells #[.string ⟨#[]⟩, .string ⟨#[0]⟩, .string ⟨#[1, 1, 0, 0]⟩, .string ⟨#[1, 1, 0, 0, 1, 2]⟩, .string ⟨#[1, 1, 1, 192, 0, 0]⟩, .string ⟨#[1, 9, 0, 0, 0, 0, 0, 0, 0, 0, 0, 0, 0]⟩, .string ⟨#[1, 1, 1, 193, 1, 1, 1, 1, 1, 2, 1, 2, 1, 193, 0]⟩, .string ⟨#[1, 1, 8, 255, 255, 255, 255, 255, 255, 255, 255, 0, 0]⟩] 9)
      have hxq := Blk.new wr 9 (knS.map Value.string).toArray
      obtain ⟨X1, hX1⟩ : ∃ z, wr.alloc (.cells #[.string ⟨#[]⟩, .string ⟨#[0]⟩, .string ⟨#[1, 1, 0, 0]⟩, .string ⟨#[1, 1, 0, 0, 1, 2]⟩, .string ⟨#[1, 1, 1, 192, 0, 0]⟩, .string ⟨#[1, 9, 0, 0, 0, 0, 0, 0, 0, 0, 0, 0, 0]⟩, .string ⟨#[1, 1, 1, 193, 1, 1, 1, 1, 1, 2, 1, 2, 1, 193, 0]⟩, .string ⟨#[1, 1, 8, 255, 255, 255, 255, 255, 255, 255, 255, 0, 0]⟩] 9) = z := ⟨_, rfl⟩
      rw [show wr.alloc (.cells (knS.map Value.string).toArray 9) = X1 from hX1] at hxq
      rw [hX1] at hbq
      have HBX1 := Lib.hid (below_step HBwr.out hbq)
      replace HK := Lib.hid (KW.below HK.out hbq)
      have HQ := Lib.hid hxq
      clear hbq hxq HBwr
      go_wp2_with fail
      try rw [hX1]
      obtain ⟨gq, hgq⟩ : ∃ z, wr.heap.size = z := ⟨_, rfl⟩
      rw [hgq] at HQ
      try rw [hgq]
      clear hX1 hgq
      obtain ⟨X0, hX0⟩ : ∃ z, X1 = z := ⟨_, rfl⟩
      subst hX0
      go_loopw [11, 12, 13, 174] (fun _ _ _ i wr => KnR 8 X1 i wr) (fun _ _ _ i _ => 8 - (intOf i).toNat)
      case atStart => exact ⟨0, by omega, rfl, Below.refl _ _⟩
      case round =>
        obtain ⟨k2, hk2, rfl, hbr⟩ := hrel
        have HBR := Lib.hid hbr
        clear hbr
        by_cases hlt : k2 < 8
        · have hki : (k2 : Int) < 8 := by omega
          have hkl : k2 < knS.length := hlt
          have hbx := HQ.out.below HBR.out
          have t0 : wr.cell? ⟨gq, k2, none⟩ = some (.string knS[k2]) := by
            rw [hbx.cell k2]
            simp [hkl]
          have hlb := hbx.lt
          have hdec := HH.out.dec knS[k2] wr ((by decide : ∀ s ∈ knS, s.size ≤ 100000) _ (List.getElem_mem hkl))
          rw [knS_dec _ (List.getElem_mem hkl)] at hdec
          obtain ⟨sk, hsk⟩ : ∃ z, knS[k2] = z := ⟨_, rfl⟩
          rw [hsk] at t0 hdec
          have HD := Lib.hid hdec
          clear hdec hsk hbx
          go_wp2_with fail
          clear t0 hlb
          refine HD.out.mono ?_
          rintro e Y1 ⟨v, rfl, ⟨D0, D1, D2, d0, d1, d2, rfl, -⟩, hbY⟩
          have hbZ := (Below.refl _ Y1).alloc (Nat.le_refl _) (.cells #[.slice D0 0 d0, .slice D1 0 d1, .int .u64 0, .int .u64 0, .int .u64 0, .int .u64 0, .int .i64 0, .int .i64 0, .slice D2 0 d2] 30)
          have hxZ := Blk.new Y1 30 #[.slice D0 0 d0, .slice D1 0 d1, .int .u64 0, .int .u64 0, .int .u64 0, .int .u64 0, .int .i64 0, .int .i64 0, .slice D2 0 d2]
          obtain ⟨Y2, hY2⟩ : ∃ z, Y1.alloc (.cells #[.slice D0 0 d0, .slice D1 0 d1, .int .u64 0, .int .u64 0, .int .u64 0, .int .u64 0, .int .i64 0, .int .i64 0, .slice D2 0 d2] 30) = z := ⟨_, rfl⟩
          rw [hY2] at hbZ hxZ
          have HBZ := Lib.hid (below_step (below_step HBR.out hbY) hbZ)
          have z0 := hxZ.cell 0
          simp only [List.getElem?_toArray, List.getElem?_cons_zero] at z0
          have hlz := hxZ.lt
          clear hbY hbZ hxZ HD HBR
          rw [show mtC D0 D1 D2 d0 d1 d2 (mt0, (4 : Int)).1 = #[.slice D0 0 d0, .slice D1 0 d1, .int .u64 0, .int .u64 0, .int .u64 0, .int .u64 0, .int .i64 0, .int .i64 0, .slice D2 0 d2] from rfl]
          dsimp only
          go_wp2_with fail
          try rw [hY2]
          go_roundw
          case rel => exact ⟨k2 + 1, by omega, by go_num, HBZ.out⟩
          case measure => simp [intOf]; omega
        · have hki : ¬ (k2 : Int) < 8 := by omega
          have HBX2 := Lib.hid (below_step HBX1.out HBR.out)
          replace HK := Lib.hid (KW.below HK.out HBR.out)
          clear HBX1 HBR HQ
          obtain ⟨E, hE⟩ : ∃ x, x = wr := ⟨_, rfl⟩
          subst hE
          have hbz := (Below.refl _ E).alloc (Nat.le_refl _) (.cells #[.slice none 0 0, .slice none 0 0, .int .u64 0, .int .u64 0, .int .u64 0, .int .u64 0, .int .i64 0, .int .i64 0, .slice none 0 0] 30)
          have hxz : Blk _ E.heap.size 30 (mC nlS nlS nlS tk0) := Blk.new E 30 #[.slice none 0 0, .slice none 0 0, .int .u64 0, .int .u64 0, .int .u64 0, .int .u64 0, .int .i64 0, .int .i64 0, .slice none 0 0]
          obtain ⟨Z1, hZ1⟩ : ∃ z, E.alloc (.cells #[.slice none 0 0, .slice none 0 0, .int .u64 0, .int .u64 0, .int .u64 0, .int .u64 0, .int .i64 0, .int .i64 0, .slice none 0 0] 30) = z := ⟨_, rfl⟩
          rw [hZ1] at hbz hxz
          have HST : Hid (MoR E E.heap.size (.int .i64 0) Z1) := ⟨0, nlS, by omega, rfl, hbz, hxz, oi_nil _ _⟩
          obtain ⟨gm, hgm⟩ : ∃ z, E.heap.size = z := ⟨_, rfl⟩
          have HGM := Lib.hid hgm
          clear hbz hxz
          go_wp2_with fail
          try rw [hZ1]
          try rw [hgm]
          rw [hgm] at HST
          clear hZ1 hgm
          go_loopw [15] (fun i wr => MoR E gm i wr) (fun i _ => 8 - (intOf i).toNat)
          case atStart => exact HST.out
          case round =>
            obtain ⟨k3, v0, hk3, rfl, hb3, hx3, ho3⟩ := hrel
            obtain ⟨A, c, rfl⟩ := own_form ho3
            have HB3 := Lib.hid hb3
            have HX3 := Lib.hid hx3
            have HO3 := Lib.hid ho3
            clear ho3
            by_cases hlt : k3 < 8
            · have hki : (k3 : Int) < 8 := by omega
              have x0 := hx3.cell 0
              have xf0 := hx3.frozen 0
              simp only [mC, List.getElem?_toArray, List.getElem?_cons_zero] at x0
              have hlx := hx3.lt
              have hbn := (Below.refl _ wr).alloc (Nat.le_refl _) (.cells #[.int .i64 (500 + (k3 : Int))] 3)
              have hnn := Blk.new wr 3 #[.int .i64 (500 + (k3 : Int))]
              obtain ⟨V1, hV1⟩ : ∃ z, wr.alloc (.cells #[.int .i64 (500 + (k3 : Int))] 3) = z := ⟨_, rfl⟩
              rw [hV1] at hbn hnn
              have hx4 := hx3.below hbn
              have x0' := hx4.cell 0
              have xf0' := hx4.frozen 0
              simp only [mC, List.getElem?_toArray, List.getElem?_cons_zero] at x0'
              have hlx' := hx4.lt
              have HB4 := Lib.hid (below_step hb3 hbn)
              have HX4 := Lib.hid hx4
              have HO4 := Lib.hid (oi_below HO3.out hbn)
              have HNW : Hid (∀ (j : Nat) (u : Value), ([.int .i64 (500 + (k3 : Int))] : List Value)[j]? = some u → V1.cell? ((⟨wr.heap.size, 0, none⟩ : Addr).add j) = some u) := by
                intro j u hj
                match j, hj with
                | 0, hj =>
                  simp at hj
                  subst hj
                  rw [addr_add]
                  exact hnn.cell 0
              have HLN : Hid ((mosL k3).length = k3) := by unfold Hid mosL; simp
              obtain ⟨i1, hi1, hy0, hy1, hy2⟩ := info_parts infoInt
              clear hbn hnn hx3 hx4 hb3 HX3 HB3 HO3
              go_wp2_with (at_builtin; refine wpList_append_own _ rfl (.tmp 197) (.tmp 200) 22 rfl E.heap.size 3 i1 (.int .i64 0) 1 8 Try.underlying22 hi1 hy0 hy1 hy2 rfl (by decide) _ (mosL k3).length _ rfl HO4.out ⟨wr.heap.size, 0, none⟩ 1 1 [.int .i64 (500 + (k3 : Int))] rfl rfl HNW.out (int_one _) ?_ ?_ HB4.out.size ?_)
              · have := HLN.out; unfold maxLen; omega
              · have := HLN.out; omega
              · intro v' w1 hown hgrow _
                obtain ⟨A', c', rfl⟩ := own_form hown
                have hk := Kp.of_grown hgrow HO4.out
                have hxm := hk _ _ _ (by decide) HX4.out
                have x1 := hxm.cell 0
                have xf1 := hxm.frozen 0
                simp only [mC, List.getElem?_toArray, List.getElem?_cons_zero] at x1
                have hl1 := hxm.lt
                have hgE := HGM.out
                have hlo : ∀ j, (Value.slice A (mosL k3).length c).ownBlock = some j → E.heap.size ≤ j := fun j hj => (HO4.out.lt j hj).1
                have hb5 : Below E.heap.size E w1 := HB4.out.trans ((but_grow (S := fun j => (Value.slice A (mosL k3).length c).ownBlock = some j) (But.refl _ V1) hgrow (fun k hk => .inl hk)).below hlo HB4.out.size)
                have HREL : Hid (MoR E gm (.int .i64 ((k3 + 1 : Nat) : Int)) (w1.setCell ⟨gm, 0, none⟩ (.slice A' ((mosL k3).length + 1) c'))) := by
                  refine ⟨k3 + 1, .slice A' ((mosL k3).length + 1) c', by omega, rfl, hb5.setCell (p := ⟨gm, 0, none⟩) (Nat.le_of_eq hgE) _, hxm.set_ 0 _, ?_⟩
                  have h6 : OInts w1 E.heap.size (.slice A' ((mosL k3).length + 1) c') (mosL (k3 + 1)) := by
                    unfold OInts
                    rw [mosL_snoc, List.length_append, List.map_append]
                    exact hown
                  exact oi_kp h6 (Kp.of_set 0 _ hxm) (by decide)
                clear hown hgrow hk hxm hlo hb5 x0 xf0 x0' xf0' hlx hlx' hV1 HO4 HX4 HB4 HNW
                go_wp2_with fail
                go_roundw
                case rel =>
                  have h7 := HREL.out
                  rw [show ((k3 + 1 : Nat) : Int) = (k3 : Int) + 1 from by omega] at h7
                  exact h7
                case measure => simp [intOf]; omega
            · have hki : ¬ (k3 : Int) < 8 := by omega
              obtain rfl : k3 = 8 := by omega
              have h8 : (mosL 8).length = 8 := rfl
              have HST4 : Hid (Mo4 E gm (.slice A 8 c) (.int .i64 0) wr) := ⟨0, nlS, [], by omega, rfl, HB3.out, HX3.out, HO3.out, OSns.nil _ _, rfl⟩
              have HLM : Hid ((mosL 8).length = 8) := h8
              clear HB3 HX3 HO3 hb3 hx3 h8 HST
              go_wp2_with fail
              go_loopw [16] (fun i wr => Mo4 E gm (.slice A 8 c) i wr) (fun i _ => 20 - (intOf i).toNat)
              case atStart => exact HST4.out
              case round =>
                obtain ⟨k4, v1, xs, hk4, rfl, hb4, hx4, ho4, hr4, hxs⟩ := hrel
                obtain ⟨A1, c1, rfl⟩ := own_form hr4.1
                have HB4 := Lib.hid hb4
                have HX4 := Lib.hid hx4
                have HO4 := Lib.hid ho4
                have HR4 := Lib.hid hr4
                have HXS := Lib.hid hxs
                have HXL : Hid (xs.length = k4) := by unfold Hid; rw [hxs]; simp [mosA]
                clear hb4 hx4 ho4 hr4 hxs
                by_cases hlt : k4 < 20
                · have hki : (k4 : Int) < 20 := by omega
                  have hcast : ((9223372036854775808 + k4 : Nat) : Int) = 9223372036854775808 + (k4 : Int) := by omega
                  have HG : Hid (∀ W, Calls Try.prog 19 #[.int .u64 9223372036854775808, .int .u64 (9223372036854775808 + (k4 : Int))] W fun x w' => x = .returned (.agg #[.int .u64 9223372036854775808, .int .u64 (9223372036854775808 + (k4 : Int))]) ∧ Below W.heap.size W w') := fun W => by
                    have := lguid_any 9223372036854775808 (9223372036854775808 + k4) W
                    unfold gv at this
                    dsimp only at this
                    rw [hcast] at this
                    exact this
                  have hwr1 : IntKind.u64.wrap (k4 : Int) = (k4 : Int) := by simp [IntKind.wrap, IntKind.bits, IntKind.signed]; omega
                  have hwr2 : IntKind.u64.wrap (9223372036854775808 + (k4 : Int)) = 9223372036854775808 + (k4 : Int) := by simp [IntKind.wrap, IntKind.bits, IntKind.signed]; omega
                  clear hcast
                  go_wp2_with fail
                  refine wp_region_pre (by kernel_rfl) 10 [207, 208, 209, 210, 211, 212, 213, 214, 215, 216] (by kernel_rfl) (fun L vs W => Below wr.heap.size wr W ∧ ∀ i, L i = true → i < 10 → K31G gm A A1 c c1 xs.length k4 i (vs i) W) ⟨(Below.refl _ _).drew, fun i hi => by cases hi⟩ ?_ ?_
                  · intro i o L vs ρ W hi51 ho hli haft hρ hI
                    obtain ⟨hb, hG'⟩ := hI
                    have hG : ∀ j, L j = true → K31G gm A A1 c c1 xs.length k4 j (vs j) W := fun j hj => by
                      by_cases h51 : j < 10
                      · exact hG' j hj h51
                      · match j, h51 with
                        | j + 10, _ => exact trivial
                    have hc := hρ.const
                    have hfn := hρ.fn
                    have next : ∀ v W', Below W.heap.size W W' → K31G gm A A1 c c1 xs.length k4 i v W' → Below wr.heap.size wr W' ∧ ∀ j, updB L i j = true → j < 10 → K31G gm A A1 c c1 xs.length k4 j (updV vs i v j) W' := fun v W' h1 h2 => by
                      refine ⟨below_step hb h1, fun j hj h51 => ?_⟩
                      by_cases hji : j = i
                      · subst hji
                        simpa [updV] using h2
                      · simp only [updB, if_neg hji] at hj
                        simpa [updV, hji] using K31G_mono gm A A1 c c1 xs.length k4 j _ W W' h51 (hG' j hj h51) h1
                    have hX := HX4.out.below hb
                    have y0 := hX.cell 0
                    have y1 := hX.cell 1
                    have hly := hX.lt
                    simp only [mC, List.getElem?_toArray, List.getElem?_cons_zero, List.getElem?_cons_succ] at y0 y1
                    rcases i with _ | _ | _ | _ | _ | _ | _ | _ | _ | _ | i
                    all_goals (first | omega | skip)
                    all_goals simp only [List.getElem?_toArray, List.getElem?_cons_zero, List.getElem?_cons_succ, Option.some.injEq] at ho
                    all_goals subst ho
                    · have o14 : ρ (.tmp 14) = .pointer (some ⟨gm, 0, none⟩) := hρ.out 14 rfl
                      exact stepTo_value (w' := W) (by unfold execOp; simp only [o14, hc]; go_simp) (next _ _ (Below.refl _ _) rfl)
                    · have g207 : K31G gm A A1 c c1 xs.length k4 0 (vs 0) W := hG 0 (haft 0 (by kernel_rfl))
                      have s207 : ρ (.tmp 207) = .pointer (some ⟨gm, 1, none⟩) := (hρ.at_ 207 0 rfl).trans g207
                      exact stepTo_value (w' := W) (by unfold execOp; simp only [s207, hc]; go_simp) (next _ _ (Below.refl _ _) rfl)
                    · have o16 : ρ (.tmp 16) = .int .i64 (k4 : Int) := hρ.out 16 rfl
                      exact stepTo_value (w' := W) (by unfold execOp; simp only [o16, hc]; go_simp) (next _ _ (Below.refl _ _) rfl)
                    · have g209 : K31G gm A A1 c c1 xs.length k4 2 (vs 2) W := hG 2 (haft 2 (by kernel_rfl))
                      have s209 : ρ (.tmp 209) = .int .i64 (k4 : Int) := (hρ.at_ 209 2 rfl).trans g209
                      exact stepTo_value (w' := W) (by unfold execOp; simp only [s209, hc]; go_simp) (next _ _ (Below.refl _ _) rfl)
                    · have g210 : K31G gm A A1 c c1 xs.length k4 3 (vs 3) W := hG 3 (haft 3 (by kernel_rfl))
                      have s210 : ρ (.tmp 210) = .int .u64 (k4 : Int) := (hρ.at_ 210 3 rfl).trans g210
                      exact stepTo_value (w' := W) (by unfold execOp; simp only [s210, hc]; go_simp) (next _ _ (Below.refl _ _) rfl)
                    · have g211 : K31G gm A A1 c c1 xs.length k4 4 (vs 4) W := hG 4 (haft 4 (by kernel_rfl))
                      have s211 : ρ (.tmp 211) = .int .u64 (9223372036854775808 + (k4 : Int)) := (hρ.at_ 211 4 rfl).trans g211
                      refine stepTo_enter (f := 19) (args := #[.int .u64 9223372036854775808, .int .u64 (9223372036854775808 + (k4 : Int))]) (w' := W) (by unfold execOp; simp only [hfn, s211]; go_simp) ((HG.out W).mono ?_)
                      rintro x W' ⟨rfl, hb'⟩
                      exact ⟨_, rfl, next _ _ hb' rfl⟩
                    · have o14 : ρ (.tmp 14) = .pointer (some ⟨gm, 0, none⟩) := hρ.out 14 rfl
                      exact stepTo_value (w' := W) (by unfold execOp; simp only [o14, hc]; go_simp) (next _ _ (Below.refl _ _) rfl)
                    · have g213 : K31G gm A A1 c c1 xs.length k4 6 (vs 6) W := hG 6 (haft 6 (by kernel_rfl))
                      have s213 : ρ (.tmp 213) = .pointer (some ⟨gm, 0, none⟩) := (hρ.at_ 213 6 rfl).trans g213
                      exact stepTo_value (w' := W) (by unfold execOp; simp only [s213, hc]; go_simp) (next _ _ (Below.refl _ _) rfl)
                    · have g212 : K31G gm A A1 c c1 xs.length k4 5 (vs 5) W := hG 5 (haft 5 (by kernel_rfl))
                      have s212 : ρ (.tmp 212) = .agg #[.int .u64 9223372036854775808, .int .u64 (9223372036854775808 + (k4 : Int))] := (hρ.at_ 212 5 rfl).trans g212
                      have g214 : K31G gm A A1 c c1 xs.length k4 7 (vs 7) W := hG 7 (haft 7 (by kernel_rfl))
                      have s214 : ρ (.tmp 214) = .slice A 8 c := (hρ.at_ 214 7 rfl).trans g214
                      exact stepTo_value (w' := W) (by unfold execOp; simp only [s212, s214, hc]; go_simp) (next _ _ (Below.refl _ _) rfl)
                    · have g215 : K31G gm A A1 c c1 xs.length k4 8 (vs 8) W := hG 8 (haft 8 (by kernel_rfl))
                      have s215 : ρ (.tmp 215) = .agg #[.int .u64 9223372036854775808, .int .u64 (9223372036854775808 + (k4 : Int)), .slice A 8 c, .bool false] := (hρ.at_ 215 8 rfl).trans g215
                      exact stepTo_value (v := .slice (some ⟨W.heap.size, 0, none⟩) 1 1) (w' := W.alloc (.cells #[.int .u64 9223372036854775808, .int .u64 (9223372036854775808 + (k4 : Int)), .slice A 8 c, .bool false] 48)) (by unfold execOp; simp only [s215, hc]; go_simp) (next _ _ ((Below.refl _ W).alloc (Nat.le_refl _) (.cells #[.int .u64 9223372036854775808, .int .u64 (9223372036854775808 + (k4 : Int)), .slice A 8 c, .bool false] 48)) ⟨W.heap.size, rfl, Blk.new _ _ _⟩)
                  · intro L vs W hL hI
                    obtain ⟨hb, hG⟩ := hI
                    have g1 : vs 1 = .slice A1 xs.length c1 := hG 1 (hL 1 (by decide)) (by decide)
                    obtain ⟨bb, g9, hsn⟩ : ∃ bb, vs 9 = .slice (some ⟨bb, 0, none⟩) 1 1 ∧ Blk W bb 48 #[.int .u64 9223372036854775808, .int .u64 (9223372036854775808 + (k4 : Int)), .slice A 8 c, .bool false] := hG 9 (hL 9 (by decide)) (by decide)
                    have HBW := Lib.hid (below_step HB4.out hb)
                    have HXW := Lib.hid (HX4.out.below hb)
                    have HOW := Lib.hid (oi_below HO4.out hb)
                    have HRW := Lib.hid (HR4.out.below hb)
                    have HNW := Lib.hid (news4 hsn)
                    have HON : Hid (∀ u ∈ ([.int .u64 9223372036854775808, .int .u64 (9223372036854775808 + (k4 : Int)), .slice A 8 c, .bool false] : List Value), u.oneCell' = true) := by
                      intro u hu
                      simp only [List.mem_cons, List.not_mem_nil, or_false] at hu
                      rcases hu with rfl | rfl | rfl | rfl <;> rfl
                    obtain ⟨i1, hi1, hy0, hy1, hy2⟩ := info_parts infoSp
                    clear hL hG hb hsn HB4 HX4 HO4 HR4
                    simp only [putList, putSel, if_true]
                    rw [g1, g9]
                    generalize vs 0 = e0
                    generalize vs 2 = e2
                    generalize vs 3 = e3
                    generalize vs 4 = e4
                    generalize vs 5 = e5
                    generalize vs 6 = e6
                    generalize vs 7 = e7
                    generalize vs 8 = e8
                    clear g1 g9
                    simp only [Act.put, List.setIfInBounds_toArray, List.set_cons_succ, List.set_cons_zero]
                    refine wpAny_one (i := 10) (by kernel_rfl) rfl rfl ?_
                    refine wp_append_any (.tmp 208) (.tmp 216) 23 rfl E.heap.size 48 i1 (.agg #[.int .u64 0, .int .u64 0, .slice none 0 0, .bool false]) 4 48 Try.underlying23 hi1 hy0 hy1 hy2 rfl (by decide) _ xs.length _ rfl HRW.out.1 ⟨bb, 0, none⟩ 1 1 [.int .u64 9223372036854775808, .int .u64 (9223372036854775808 + (k4 : Int)), .slice A 8 c, .bool false] rfl rfl HNW.out HON.out (by have := HXL.out; unfold maxLen; omega) (by have := HXL.out; omega) HBW.out.size ?_
                    intro v' w1 hown hgrow hv
                    obtain ⟨A', c', rfl⟩ := own_form hown
                    have hk := Kp.of_grown hgrow HRW.out.1
                    have hxm := hk _ _ _ (by decide) HXW.out
                    have x1 := hxm.cell 1
                    have xf1 := hxm.frozen 1
                    simp only [mC, List.getElem?_toArray, List.getElem?_cons_zero, List.getElem?_cons_succ] at x1
                    have hl1 := hxm.lt
                    have hgE := HGM.out
                    have hlo : ∀ j, (Value.slice A1 xs.length c1).ownBlock = some j → E.heap.size ≤ j := fun j hj => (HRW.out.1.lt j hj).1
                    have hb5 : Below E.heap.size E w1 := HBW.out.trans ((but_grow (S := fun j => (Value.slice A1 xs.length c1).ownBlock = some j) (But.refl _ W) hgrow (fun k hk => .inl hk)).below hlo HBW.out.size)
                    have HREL : Hid (Mo4 E gm (.slice A 8 c) (.int .i64 ((k4 : Int) + 1)) (w1.setCell ⟨gm, 1, none⟩ (.slice A' (xs.length + 1) c'))) := by
                      have hk2 := Kp.of_set 1 (.slice A' (xs.length + 1) c') hxm
                      refine ⟨k4 + 1, .slice A' (xs.length + 1) c', xs ++ [((⟨(9223372036854775808, 9223372036854775808 + k4), mosL 8, false⟩ : Sp), .slice A 8 c)], by omega, by go_num, hb5.setCell (p := ⟨gm, 1, none⟩) (Nat.le_of_eq hgE) _, hxm.set_ 1 _, oi_kp (oi_kp HOW.out hk (by decide)) hk2 (by decide), ⟨?_, fun x hx => ?_⟩, ?_⟩
                      · rw [List.length_append, spRow_append, spRow_one]
                        unfold spV
                        dsimp only
                        rw [show ((9223372036854775808 + k4 : Nat) : Int) = 9223372036854775808 + (k4 : Int) from by omega]
                        exact hk2.row (by decide) hown
                      · rcases List.mem_append.1 hx with hx | hx
                        · exact oi_kp (oi_kp (HRW.out.2 x hx) hk (by decide)) hk2 (by decide)
                        · obtain rfl : x = _ := List.mem_singleton.1 hx
                          exact oi_kp (oi_kp HOW.out hk (by decide)) hk2 (by decide)
                      · rw [HXS.out]
                        unfold mosA
                        rw [List.range_succ, List.map_append, List.map_append]
                        rfl
                    clear hown hgrow hv hk hxm hlo hb5 HRW HOW HXW HNW HON
                    go_simp
                    refine wpAny_one (i := 11) (by kernel_rfl) rfl rfl ?_
                    go_simp
                    refine wpAny_one (i := 12) (by kernel_rfl) rfl rfl ?_
                    go_simp
                    refine ⟨by kernel_rfl, ?_⟩
                    go_wp2_with fail
                    go_roundw
                    case rel => exact HREL.out
                    case measure => simp [intOf]; omega
                · have hki : ¬ (k4 : Int) < 20 := by omega
                  obtain rfl : k4 = 20 := by omega
                  have hxs := HXS.out
                  have hmap : xs.map (·.1) = mosA 20 := by rw [hxs, List.map_map]; simp [Function.comp_def]
                  have hat : MtAt wr (.agg (mC (.slice A 8 c) (.slice A1 xs.length c1) nlS tk0)) mM := by
                    have h := mtat_of (t := tk0) HO4.out HR4.out (oi_nil wr E.heap.size) (by rw [hmap]; exact okM) okTk00
                    rw [hmap] at h
                    exact h
                  have henc := HH.out.enc _ mM wr hat (sz_q (by decide +kernel))
                  obtain ⟨r18, hr18⟩ : ∃ z, mEnc mM = z := ⟨_, rfl⟩
                  have h18 := kn_m.1
                  rw [hr18] at henc h18
                  obtain ⟨l18, er18⟩ := r18
                  dsimp only at h18
                  obtain ⟨js, cj, hv1, hjs, -, -⟩ := osn_open HR4.out (by have := HXL.out; omega)
                  simp only [Value.slice.injEq] at hv1
                  obtain ⟨rfl, -, rfl⟩ := hv1
                  have HL20 := Lib.hid HXL.out
                  rw [HXL.out] at HX4 HR4 henc
                  have HEN := Lib.hid henc
                  have H18 := Lib.hid h18
                  have b0 := HX4.out.cell 0
                  have b1 := HX4.out.cell 1
                  have b2 := HX4.out.cell 2
                  have b3 := HX4.out.cell 3
                  have b4 := HX4.out.cell 4
                  have b5 := HX4.out.cell 5
                  have b6 := HX4.out.cell 6
                  have b7 := HX4.out.cell 7
                  have b8 := HX4.out.cell 8
                  simp only [mC, nlS, tk0, List.getElem?_toArray, List.getElem?_cons_zero, List.getElem?_cons_succ] at b0 b1 b2 b3 b4 b5 b6 b7 b8
                  have hlb := HX4.out.lt
                  unfold mC nlS tk0 at HEN
                  clear hat henc hr18 h18 hmap hxs
                  go_wp2_with fail
                  clear b0 b1 b2 b3 b4 b5 b6 b7 b8 hlb
                  refine HEN.out.mono ?_
                  rintro e U1 ⟨rfl, hbU⟩
                  have HST5 : Hid (Mo5 E gm js c1 (.slice A 8 c) (.int .i64 0) U1) := by
                    refine ⟨0, by omega, rfl, below_step HB4.out hbU, HX4.out.below hbU, oi_below HO4.out hbU, ?_⟩
                    have h := HR4.out.below hbU
                    rw [HXS.out] at h
                    exact h
                  clear HEN HX4 HR4 HO4 HB4 hbU
                  dsimp only
                  go_wp2_with fail
                  go_loopw [19] (fun i wr => Mo5 E gm js c1 (.slice A 8 c) i wr) (fun i _ => 20 - (intOf i).toNat)
                  case atStart => exact HST5.out
                  case round =>
                    obtain ⟨k5, hk5, rfl, hb5, hx5, ho5, hr5⟩ := hrel
                    have HB5 := Lib.hid hb5
                    have HX5 := Lib.hid hx5
                    have HO5 := Lib.hid ho5
                    have HR5 := Lib.hid hr5
                    clear hb5 hx5 ho5 hr5
                    by_cases hlt : k5 < 20
                    · have hki : (k5 : Int) < 20 := by omega
                      have hwr1 : IntKind.u64.wrap (k5 : Int) = (k5 : Int) := by simp [IntKind.wrap, IntKind.bits, IntKind.signed]; omega
                      have hwr2 : IntKind.u64.wrap (100000 + (k5 : Int)) = 100000 + (k5 : Int) := by simp [IntKind.wrap, IntKind.bits, IntKind.signed]; omega
                      have HG : Hid (∀ W, Calls Try.prog 19 #[.int .u64 100000, .int .u64 (100000 + (k5 : Int))] W fun x w' => x = .returned (.agg #[.int .u64 100000, .int .u64 (100000 + (k5 : Int))]) ∧ Below W.heap.size W w') := fun W => by
                        have := lguid_any 100000 (100000 + k5) W
                        unfold gv at this
                        dsimp only at this
                        rw [show ((100000 + k5 : Nat) : Int) = 100000 + (k5 : Int) from by omega] at this
                        exact this
                      have hl5 : (mosB k5).length = 20 := (by decide +kernel : ∀ k < 20, (mosB k).length = 20) k5 hlt
                      obtain ⟨js2, cj2, hv2, hjs2, ⟨css, hcss⟩, hrow⟩ := osn_open HR5.out (by rw [List.length_map, hl5]; omega)
                      simp only [Value.slice.injEq, Option.some.injEq, Addr.mk.injEq, and_true] at hv2
                      obtain ⟨rfl, -, rfl⟩ := hv2
                      have hg0 := spRow_get ((mosB k5).map fun s => (s, Value.slice A 8 c)) k5 (by rw [List.length_map, hl5]; exact hlt) 0 (by omega)
                      have hg1 := spRow_get ((mosB k5).map fun s => (s, Value.slice A 8 c)) k5 (by rw [List.length_map, hl5]; exact hlt) 1 (by omega)
                      simp only [spV, List.getElem?_cons_zero, List.getElem?_cons_succ, Nat.add_zero] at hg0 hg1
                      have HC0 := Lib.hid (hrow _ _ hg0)
                      have HC1 := Lib.hid (hrow _ _ hg1)
                      have HCS := Lib.hid hcss
                      have HJS := Lib.hid hjs2
                      have HL5 := Lib.hid hl5
                      clear hg0 hg1 hrow hcss hjs2
                      go_wp2_with fail
                      refine wp_region_pre (by kernel_rfl) 9 [228, 229, 230, 231, 232, 233, 234, 235, 236] (by kernel_rfl) (fun L vs W => Below wr.heap.size wr W ∧ ∀ i, L i = true → i < 9 → K36G gm js c1 k5 i (vs i) W) ⟨(Below.refl _ _).drew, fun i hi => by cases hi⟩ ?_ ?_
                      · intro i o L vs ρ W hi51 ho hli haft hρ hI
                        obtain ⟨hb, hG'⟩ := hI
                        have hG : ∀ j, L j = true → K36G gm js c1 k5 j (vs j) W := fun j hj => by
                          by_cases h51 : j < 9
                          · exact hG' j hj h51
                          · match j, h51 with
                            | j + 9, _ => exact trivial
                        have hc := hρ.const
                        have hfn := hρ.fn
                        have next : ∀ v W', Below W.heap.size W W' → K36G gm js c1 k5 i v W' → Below wr.heap.size wr W' ∧ ∀ j, updB L i j = true → j < 9 → K36G gm js c1 k5 j (updV vs i v j) W' := fun v W' h1 h2 => by
                          refine ⟨below_step hb h1, fun j hj h51 => ?_⟩
                          by_cases hji : j = i
                          · subst hji
                            simpa [updV] using h2
                          · simp only [updB, if_neg hji] at hj
                            simpa [updV, hji] using K36G_mono gm js c1 k5 j _ W W' h51 (hG' j hj h51) h1
                        have hX := HX5.out.below hb
                        have y1 := hX.cell 1
                        have hly := hX.lt
                        simp only [mC, List.getElem?_toArray, List.getElem?_cons_zero, List.getElem?_cons_succ] at y1
                        have hc0 := (Below.cell hb (p := ⟨js, k5 * 4, none⟩) HCS.out.lt).trans HC0.out.1
                        have hlj := (HCS.out.below hb).lt
                        rcases i with _ | _ | _ | _ | _ | _ | _ | _ | _ | i
                        all_goals (first | omega | skip)
                        all_goals simp only [List.getElem?_toArray, List.getElem?_cons_zero, List.getElem?_cons_succ, Option.some.injEq] at ho
                        all_goals subst ho
                        · have o14 : ρ (.tmp 14) = .pointer (some ⟨gm, 0, none⟩) := hρ.out 14 rfl
                          exact stepTo_value (w' := W) (by unfold execOp; simp only [o14, hc]; go_simp) (next _ _ (Below.refl _ _) rfl)
                        · have g228 : K36G gm js c1 k5 0 (vs 0) W := hG 0 (haft 0 (by kernel_rfl))
                          have s228 : ρ (.tmp 228) = .pointer (some ⟨gm, 1, none⟩) := (hρ.at_ 228 0 rfl).trans g228
                          exact stepTo_value (w' := W) (by unfold execOp; simp only [s228, hc]; go_simp) (next _ _ (Below.refl _ _) rfl)
                        · have o19 : ρ (.tmp 19) = .int .i64 (k5 : Int) := hρ.out 19 rfl
                          exact stepTo_value (w' := W) (by unfold execOp; simp only [o19, hc]; go_simp) (next _ _ (Below.refl _ _) rfl)
                        · have o19 : ρ (.tmp 19) = .int .i64 (k5 : Int) := hρ.out 19 rfl
                          exact stepTo_value (w' := W) (by unfold execOp; simp only [o19, hc]; go_simp) (next _ _ (Below.refl _ _) rfl)
                        · have g231 : K36G gm js c1 k5 3 (vs 3) W := hG 3 (haft 3 (by kernel_rfl))
                          have s231 : ρ (.tmp 231) = .int .i64 (k5 : Int) := (hρ.at_ 231 3 rfl).trans g231
                          exact stepTo_value (w' := W) (by unfold execOp; simp only [s231, hc]; go_simp) (next _ _ (Below.refl _ _) rfl)
                        · have g232 : K36G gm js c1 k5 4 (vs 4) W := hG 4 (haft 4 (by kernel_rfl))
                          have s232 : ρ (.tmp 232) = .int .u64 (k5 : Int) := (hρ.at_ 232 4 rfl).trans g232
                          exact stepTo_value (w' := W) (by unfold execOp; simp only [s232, hc]; go_simp) (next _ _ (Below.refl _ _) rfl)
                        · have g233 : K36G gm js c1 k5 5 (vs 5) W := hG 5 (haft 5 (by kernel_rfl))
                          have s233 : ρ (.tmp 233) = .int .u64 (100000 + (k5 : Int)) := (hρ.at_ 233 5 rfl).trans g233
                          refine stepTo_enter (f := 19) (args := #[.int .u64 100000, .int .u64 (100000 + (k5 : Int))]) (w' := W) (by unfold execOp; simp only [hfn, s233]; go_simp) ((HG.out W).mono ?_)
                          rintro x W' ⟨rfl, hb'⟩
                          exact ⟨_, rfl, next _ _ hb' rfl⟩
                        · have g229 : K36G gm js c1 k5 1 (vs 1) W := hG 1 (haft 1 (by kernel_rfl))
                          have s229 : ρ (.tmp 229) = .slice (some ⟨js, 0, none⟩) 20 c1 := (hρ.at_ 229 1 rfl).trans g229
                          have g230 : K36G gm js c1 k5 2 (vs 2) W := hG 2 (haft 2 (by kernel_rfl))
                          have s230 : ρ (.tmp 230) = .int .i64 (k5 : Int) := (hρ.at_ 230 2 rfl).trans g230
                          exact stepTo_value (w' := W) (by unfold execOp; simp only [s229, s230, hc]; go_simp) (next _ _ (Below.refl _ _) rfl)
                        · have g235 : K36G gm js c1 k5 7 (vs 7) W := hG 7 (haft 7 (by kernel_rfl))
                          have s235 : ρ (.tmp 235) = .pointer (some ⟨js, k5 * 4, none⟩) := (hρ.at_ 235 7 rfl).trans g235
                          exact stepTo_value (w' := W) (by unfold execOp; simp only [s235, hc]; go_simp) (next _ _ (Below.refl _ _) rfl)
                      · intro L vs W hL hI
                        obtain ⟨hb, hG⟩ := hI
                        have g6 : vs 6 = .agg #[.int .u64 100000, .int .u64 (100000 + (k5 : Int))] := hG 6 (hL 6 (by decide)) (by decide)
                        have g8 : vs 8 = .pointer (some ⟨js, k5 * 4, none⟩) := hG 8 (hL 8 (by decide)) (by decide)
                        have hcs := HCS.out.below hb
                        have r0 := (Below.cell hb (p := ⟨js, k5 * 4, none⟩) HCS.out.lt).trans HC0.out.1
                        have r1 := (Below.cell hb (p := ⟨js, k5 * 4 + 1, none⟩) HCS.out.lt).trans HC1.out.1
                        have rf0 := hcs.frozen (k5 * 4)
                        have rf1 := hcs.frozen (k5 * 4 + 1)
                        have hlc := hcs.lt
                        have hk := (Kp.of_set (k5 * 4) (.int .u64 100000) hcs).trans (Kp.of_set (k5 * 4 + 1) (.int .u64 (100000 + (k5 : Int))) (hcs.set_ (k5 * 4) (.int .u64 100000)))
                        have hs := HR5.out.below hb
                        have HREL : Hid (Mo5 E gm js c1 (.slice A 8 c) (.int .i64 ((k5 : Int) + 1)) ((W.setCell ⟨js, k5 * 4, none⟩ (.int .u64 100000)).setCell ⟨js, k5 * 4 + 1, none⟩ (.int .u64 (100000 + (k5 : Int))))) := by
                          refine ⟨k5 + 1, by omega, by go_num, ((below_step HB5.out hb).setCell (p := ⟨js, k5 * 4, none⟩) HJS.out _).setCell (p := ⟨js, k5 * 4 + 1, none⟩) HJS.out _, hk _ _ _ (by decide) (HX5.out.below hb), oi_kp (oi_below HO5.out hb) hk (by decide), ?_⟩
                          have hs1 := hs.1
                          rw [List.length_map, HL5.out] at hs1
                          have hrw := row_set (row_set hs1 (k5 * 4) (.int .u64 100000)) (k5 * 4 + 1) (.int .u64 (100000 + (k5 : Int)))
                          have he := mosB_set k5 hlt (.slice A 8 c)
                          refine ⟨?_, fun x hx => ?_⟩
                          · rw [he.1, he.2]
                            exact hrw
                          · obtain ⟨y, hy, rfl⟩ := List.mem_map.1 hx
                            have hi := mosB_img (k5 + 1) (by omega) y hy
                            dsimp only
                            rw [hi]
                            exact oi_kp (oi_below HO5.out hb) hk (by decide)
                        clear hL hG hk hs hb hcs HB5 HX5 HO5 HR5
                        simp only [putList, putSel, if_true]
                        rw [g6, g8]
                        generalize vs 0 = e0
                        generalize vs 1 = e1
                        generalize vs 2 = e2
                        generalize vs 3 = e3
                        generalize vs 4 = e4
                        generalize vs 5 = e5
                        generalize vs 7 = e7
                        clear g6 g8
                        simp only [Act.put, List.setIfInBounds_toArray, List.set_cons_succ, List.set_cons_zero]
                        refine wpAny_one (i := 9) (by kernel_rfl) rfl rfl ?_
                        go_simp
                        refine ⟨by kernel_rfl, ?_⟩
                        go_wp2_with fail
                        go_roundw
                        case rel => exact HREL.out
                        case measure => simp [intOf]; omega
                    · have hki : ¬ (k5 : Int) < 20 := by omega
                      obtain rfl : k5 = 20 := by omega
                      have hat : MtAt wr (.agg (mC (.slice A 8 c) (.slice (some ⟨js, 0, none⟩) 20 c1) nlS tk0)) mF := by
                        have hmap : ((mosB 20).map fun s => (s, Value.slice A 8 c)).map (·.1) = mosB 20 := by rw [List.map_map]; simp [Function.comp_def]
                        have h := mtat_of (t := tk0) HO5.out HR5.out (oi_nil wr E.heap.size) (by rw [hmap]; exact okF) okTk00
                        rw [hmap] at h
                        exact h
                      have henc := HH.out.enc _ mF wr hat (sz_q (by decide +kernel))
                      obtain ⟨r20, hr20⟩ : ∃ z, mEnc mF = z := ⟨_, rfl⟩
                      have h20 := kn_m.2
                      rw [hr20] at henc h20
                      obtain ⟨l20, er20⟩ := r20
                      dsimp only at h20
                      obtain ⟨rfl, hlen20⟩ := h20
                      have HEN := Lib.hid henc
                      unfold mC nlS tk0 at HEN
                      have b0 := HX5.out.cell 0
                      have b1 := HX5.out.cell 1
                      have b2 := HX5.out.cell 2
                      have b3 := HX5.out.cell 3
                      have b4 := HX5.out.cell 4
                      have b5 := HX5.out.cell 5
                      have b6 := HX5.out.cell 6
                      have b7 := HX5.out.cell 7
                      have b8 := HX5.out.cell 8
                      simp only [mC, mtC, mW, tW, nlS, tk0, List.getElem?_toArray, List.getElem?_cons_zero, List.getElem?_cons_succ, List.length_cons, List.length_nil, Nat.zero_add, Nat.reduceAdd] at b0 b1 b2 b3 b4 b5 b6 b7 b8
                      have bl := HX5.out.lt
                      clear hat henc hr20
                      go_wp2_with fail
                      clear b0 b1 b2 b3 b4 b5 b6 b7 b8 bl
                      refine HEN.out.mono ?_
                      rintro e U2 ⟨rfl, hbU⟩
                      obtain ⟨S20, hS20⟩ : ∃ z, str l20 = z := ⟨_, rfl⟩
                      have h600 : (600 : Int) < (S20.size : Int) := by rw [← hS20, str_size]; omega
                      have hbE := below_step HB5.out hbU
                      have hk2 := KW.below HK.out hbE
                      have HBU2 := Lib.hid (below_step HBX2.out hbE)
                      have HK2 := Lib.hid hk2
                      have hs := short_f _ mW U2 hk2.2 mtwW
                      rw [short_mW] at hs
                      have HS : Hid (Calls Try.prog 9 #[.agg #[.slice (some ⟨gl, 0, none⟩) 2 2, .slice (some ⟨gs, 0, none⟩) 2 2, .int .u64 2, .int .u64 1, .int .u64 2, .int .u64 2, .int .i64 1, .int .i64 2, .slice (some ⟨gt, 0, none⟩) 2 2]] U2 (endVF mW U2)) := hs
                      have b0 := hk2.1.cell 0
                      have b1 := hk2.1.cell 1
                      have b2 := hk2.1.cell 2
                      have b3 := hk2.1.cell 3
                      have b4 := hk2.1.cell 4
                      have b5 := hk2.1.cell 5
                      have b6 := hk2.1.cell 6
                      have b7 := hk2.1.cell 7
                      have b8 := hk2.1.cell 8
                      simp only [mC, mtC, mW, tW, nlS, tk0, List.getElem?_toArray, List.getElem?_cons_zero, List.getElem?_cons_succ, List.length_cons, List.length_nil, Nat.zero_add, Nat.reduceAdd] at b0 b1 b2 b3 b4 b5 b6 b7 b8
                      have bl := hk2.1.lt
                      rw [hS20]
                      clear HEN hbU hbE hk2 hs HB5 HX5 HO5 HR5 HK hlen20 hS20 HBX2
                      dsimp only
                      go_wp2_with fail
                      clear b0 b1 b2 b3 b4 b5 b6 b7 b8 bl
                      refine HS.out.mono ?_
                      rintro e U3 ⟨v, rfl, ⟨v0, v1, v2, ys, rfl, g0, g1, gx, g2, gbd, -⟩, hb3⟩
                      obtain ⟨u0, u1, rfl⟩ := two_of gx
                      obtain ⟨B0, e0, rfl⟩ := own_form g0
                      obtain ⟨B1, e1, rfl⟩ := own_form g1.1
                      obtain ⟨B2, e2, rfl⟩ := own_form g2
                      have hk3 := KW.below HK2.out hb3
                      have HBU3 := Lib.hid (below_step HBU2.out hb3)
                      have hb4 := (Below.refl _ U3).alloc (Nat.le_refl _) (.cells #[.slice B0 2 e0, .slice B1 2 e1, .int .u64 2, .int .u64 1, .int .u64 2, .int .u64 2, .int .i64 1, .int .i64 2, .slice B2 2 e2] 30)
                      have hx4 := Blk.new U3 30 #[.slice B0 2 e0, .slice B1 2 e1, .int .u64 2, .int .u64 1, .int .u64 2, .int .u64 2, .int .i64 1, .int .i64 2, .slice B2 2 e2]
                      have hr6 := hx4.cell 6
                      have hf6 := hx4.frozen 6
                      simp only [List.getElem?_toArray, List.getElem?_cons_zero, List.getElem?_cons_succ] at hr6
                      have hl4 := hx4.lt
                      obtain ⟨U4, hU4⟩ : ∃ z, U3.alloc (.cells #[.slice B0 2 e0, .slice B1 2 e1, .int .u64 2, .int .u64 1, .int .u64 2, .int .u64 2, .int .i64 1, .int .i64 2, .slice B2 2 e2] 30) = z := ⟨_, rfl⟩
                      rw [hU4] at hb4 hx4 hr6 hf6 hl4
                      have hx5 := hx4.set_ 6 (.int .i64 0)
                      simp only [List.setIfInBounds_toArray, List.set_cons_succ, List.set_cons_zero] at hx5
                      have hk45 := Kp.of_set 6 (.int .i64 0) hx4
                      have hb5 : Below U3.heap.size U3 (U4.setCell ⟨U3.heap.size, 6, none⟩ (.int .i64 0)) := hb4.setCell (p := ⟨U3.heap.size, 6, none⟩) (Nat.le_refl _) _
                      have hato : MtAt (U4.setCell ⟨U3.heap.size, 6, none⟩ (.int .i64 0)) (.agg #[.slice B0 2 e0, .slice B1 2 e1, .int .u64 2, .int .u64 1, .int .u64 2, .int .u64 2, .int .i64 0, .int .i64 2, .slice B2 2 e2]) mO := MtO.at_ (B := U2.heap.size) ⟨.slice B0 2 e0, .slice B1 2 e1, .slice B2 2 e2, [(sA, u0), (sB, u1)], rfl, oi_kp (oi_below g0 hb4) hk45 (by decide), (g1.below hb4).kp hk45 (by decide) (by decide), rfl, oi_kp (oi_below g2 hb4) hk45 (by decide), bd_of (by decide +kernel)⟩
                      obtain ⟨U5, hU5⟩ : ∃ z, U4.setCell ⟨U3.heap.size, 6, none⟩ (.int .i64 0) = z := ⟨_, rfl⟩
                      rw [hU5] at hx5 hb5 hato
                      have hk5 := KW.below hk3 hb5
                      have hsm := HH.out.same _ _ mO mW U5 hato hk5.2 (sz_q (by decide)) (sz_q (by decide))
                      rw [kn_o] at hsm
                      have HSM : Hid (Calls Try.prog 15 #[.agg #[.slice B0 2 e0, .slice B1 2 e1, .int .u64 2, .int .u64 1, .int .u64 2, .int .u64 2, .int .i64 0, .int .i64 2, .slice B2 2 e2], .agg #[.slice (some ⟨gl, 0, none⟩) 2 2, .slice (some ⟨gs, 0, none⟩) 2 2, .int .u64 2, .int .u64 1, .int .u64 2, .int .u64 2, .int .i64 1, .int .i64 2, .slice (some ⟨gt, 0, none⟩) 2 2]] U5 (endB false U5)) := hsm
                      have HBU5 := Lib.hid (below_step HBU3.out hb5)
                      have b0 := hk5.1.cell 0
                      have b1 := hk5.1.cell 1
                      have b2 := hk5.1.cell 2
                      have b3 := hk5.1.cell 3
                      have b4 := hk5.1.cell 4
                      have b5 := hk5.1.cell 5
                      have b6 := hk5.1.cell 6
                      have b7 := hk5.1.cell 7
                      have b8 := hk5.1.cell 8
                      simp only [mC, mtC, mW, tW, nlS, tk0, List.getElem?_toArray, List.getElem?_cons_zero, List.getElem?_cons_succ, List.length_cons, List.length_nil, Nat.zero_add, Nat.reduceAdd] at b0 b1 b2 b3 b4 b5 b6 b7 b8
                      have bl := hk5.1.lt
                      have a0 := hx5.cell 0
                      have a1 := hx5.cell 1
                      have a2 := hx5.cell 2
                      have a3 := hx5.cell 3
                      have a4 := hx5.cell 4
                      have a5 := hx5.cell 5
                      have a6 := hx5.cell 6
                      have a7 := hx5.cell 7
                      have a8 := hx5.cell 8
                      simp only [mC, mtC, mW, tW, nlS, tk0, List.getElem?_toArray, List.getElem?_cons_zero, List.getElem?_cons_succ, List.length_cons, List.length_nil, Nat.zero_add, Nat.reduceAdd] at a0 a1 a2 a3 a4 a5 a6 a7 a8
                      have al := hx5.lt
                      clear g0 g1 gx g2 gbd hb3 hb4 hx4 hk45 hb5 hato hk3 hk5 hx5 hsm HS HK2 HBU2 HBU3
                      rw [show mC (.slice B0 mW.live.length e0) (.slice B1 [(sA, u0), (sB, u1)].length e1) (.slice B2 mW.tok.img.length e2) mW.tok = #[.slice B0 2 e0, .slice B1 2 e1, .int .u64 2, .int .u64 1, .int .u64 2, .int .u64 2, .int .i64 1, .int .i64 2, .slice B2 2 e2] from rfl]
                      dsimp only
                      have h18 := H18.out
                      rcases h18 with rfl | rfl
                      all_goals
                        go_wp2_with fail
                        refine HSM.out.mono ?_
                        rintro e U6 ⟨rfl, hb6⟩
                        have HBU6 := Lib.hid (below_step HBU5.out hb6)
                        clear hb6 a0 a1 a2 a3 a4 a5 a6 a7 a8 al b0 b1 b2 b3 b4 b5 b6 b7 b8 bl hr6 hf6 hl4
                        go_wp2_with fail
                        refine (works_any HH.out U6).mono ?_
                        rintro e U7 ⟨rfl, hb7⟩
                        have HBU7 := Lib.hid (below_step HBU6.out hb7)
                        clear hb7
                        go_wp2_with fail
                        go_ret
                        exact ⟨rfl, HBU7.out⟩
end Go.Proofs.Ytklmgdiaianlbaa.mt


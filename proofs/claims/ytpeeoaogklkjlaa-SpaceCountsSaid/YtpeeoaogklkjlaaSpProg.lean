/- How often sectors are held: what the program's Counts does. -/
import Derived.Test.YtpeeoaogklkjlaaSpPlaces
import Derived.Test.YtpeeoaogklkjlaaSpTake
import Derived.Test.YtpeeoaogklkjlaaSpCellR
namespace Go.Proofs.Ytpeeoaogklkjlaa.sp
open Go Go.RowKit Go.Shelf Go.Proofs.Ytpeeoaogklkjlaa.ib
set_option maxRecDepth 100000

attribute [local go_sem] Oper.semAt_some

theorem but_of_grown {S : Nat → Prop} {w w' : World} {row : Option Nat} (h : w.grownBy w' row) (hs : ∀ k, row = some k → S k) : But S w w' :=
  ⟨h.os, h.tape, h.output, h.size, fun k hk hn => h.block k hk (fun e => hn (hs k e.symm))⟩
theorem but_grown {S : Nat → Prop} {a w w' : World} {row : Option Nat} (h : But S a w) (hg : w.grownBy w' row) (hs : ∀ k, row = some k → S k ∨ a.heap.size ≤ k) : But S a w' :=
  h.trans (S' := fun k => row = some k) (but_of_grown hg (fun _ e => e)) hs

/-- The number, and the two results. -/
structure Three (w W : World) (n e : Int) : Prop where
  num : Blk W w.heap.size 3 #[.int .i64 n]
  one : Blk W (w.heap.size + 1) 23 #[.slice none 0 0]
  two : Blk W (w.heap.size + 1 + 1) 24 #[.int .i64 e]
  below : Below w.heap.size w W
  size : W.heap.size = w.heap.size + 1 + 1 + 1
theorem three (w : World) (n e : Int) : Three w (((w.alloc (.cells #[.int .i64 n] 3)).alloc (.cells #[.slice none 0 0] 23)).alloc (.cells #[.int .i64 e] 24)) n e := by
  have s1 : (w.alloc (.cells #[.int .i64 n] 3)).heap.size = w.heap.size + 1 := by simp
  have s2 : ((w.alloc (.cells #[.int .i64 n] 3)).alloc (.cells #[.slice none 0 0] 23)).heap.size = w.heap.size + 1 + 1 := by simp
  have k1 := Blk.new w 3 #[.int .i64 n]
  have k2 := Blk.new (w.alloc (.cells #[.int .i64 n] 3)) 23 #[.slice none 0 0]
  have k3 := Blk.new ((w.alloc (.cells #[.int .i64 n] 3)).alloc (.cells #[.slice none 0 0] 23)) 24 #[.int .i64 e]
  refine ⟨(k1.of_block (Below.heap_alloc _ _ _ k1.lt)).of_block (Below.heap_alloc _ _ _ ?_), ?_, ?_, ?_, by simp⟩
  · rw [s2]; omega
  · rw [← s1]
    exact k2.of_block (Below.heap_alloc _ _ _ k2.lt)
  · rw [← s2]
    exact k3
  · exact (((Below.refl w.heap.size w).alloc (Nat.le_refl _) _).alloc (by simp) _).alloc (by simp; omega) _

theorem pair_of {fn : Func} {w W : World} {n e : Int} (h : Three w W n e) (hf : fn.results = #[.cell 4 23, .cell 5 24]) (tmps : Array Value)
    (h4 : tmps.getD 4 undef = .pointer (some ⟨w.heap.size + 1, 0, none⟩)) (h5 : tmps.getD 5 undef = .pointer (some ⟨w.heap.size + 1 + 1, 0, none⟩)) :
    (results fn tmps).run Try.prog W = .ok (.tuple #[.slice none 0 0, .int .i64 e]) W :=
  results_cell2 hf _ _ _ _ _ _ _ h4 h5 (load_one (agg_slice _) (h.one.cell 0)) (load_one (agg_errno _) (h.two.cell 0))

/-- .. and the counts, where they are, and the images. -/
structure Six (w W : World) (m : Nat) (A : Option Addr) (l c : Nat) : Prop where
  num : Blk W w.heap.size 3 #[.int .i64 (m : Int)]
  one : Blk W (w.heap.size + 1) 23 #[.slice none 0 0]
  two : Blk W (w.heap.size + 1 + 1) 24 #[.int .i64 0]
  cnt : Blk W (w.heap.size + 1 + 1 + 1) 3 (icells (List.replicate m 0))
  box : Blk W (w.heap.size + 1 + 1 + 1 + 1) 23 #[.slice (some ⟨w.heap.size + 1 + 1 + 1, 0, none⟩) m m]
  ims : Blk W (w.heap.size + 1 + 1 + 1 + 1 + 1) 22 #[.slice A l c]
  below : Below w.heap.size w W
  size : W.heap.size = w.heap.size + 1 + 1 + 1 + 1 + 1 + 1
theorem six {w W0 : World} {m : Nat} (h : Three w W0 m 0) (A : Option Addr) (l c : Nat) :
    Six w (((W0.alloc (.cells (icells (List.replicate m 0)) 3)).alloc (.cells #[.slice (some ⟨w.heap.size + 1 + 1 + 1, 0, none⟩) m m] 23)).alloc (.cells #[.slice A l c] 22)) m A l c := by
  obtain ⟨h1, h2, h3, h4, h5⟩ := h
  have k4 := Blk.new W0 3 (icells (List.replicate m 0))
  have b4 := (Below.refl W0.heap.size W0).alloc (Nat.le_refl _) (.cells (icells (List.replicate m 0)) 3)
  have s4 : (W0.alloc (.cells (icells (List.replicate m 0)) 3)).heap.size = w.heap.size + 1 + 1 + 1 + 1 := by simp [h5]
  generalize W0.alloc (.cells (icells (List.replicate m 0)) 3) = W4 at *
  have k5 := Blk.new W4 23 #[.slice (some ⟨w.heap.size + 1 + 1 + 1, 0, none⟩) m m]
  have b5 := (Below.refl W4.heap.size W4).alloc (Nat.le_refl _) (.cells #[.slice (some ⟨w.heap.size + 1 + 1 + 1, 0, none⟩) m m] 23)
  have s5 : (W4.alloc (.cells #[.slice (some ⟨w.heap.size + 1 + 1 + 1, 0, none⟩) m m] 23)).heap.size = w.heap.size + 1 + 1 + 1 + 1 + 1 := by simp [s4]
  generalize W4.alloc (.cells #[.slice (some ⟨w.heap.size + 1 + 1 + 1, 0, none⟩) m m] 23) = W5 at *
  have k6 := Blk.new W5 22 #[.slice A l c]
  have b6 := (Below.refl W5.heap.size W5).alloc (Nat.le_refl _) (.cells #[.slice A l c] 22)
  have s6 : (W5.alloc (.cells #[.slice A l c] 22)).heap.size = w.heap.size + 1 + 1 + 1 + 1 + 1 + 1 := by simp [s5]
  generalize W5.alloc (.cells #[.slice A l c] 22) = W6 at *
  rw [h5] at k4
  rw [s4] at k5
  rw [s5] at k6
  exact ⟨((h1.below b4).below b5).below b6, ((h2.below b4).below b5).below b6, ((h3.below b4).below b5).below b6, (k4.below b5).below b6, k5.below b6, k6, below_step (below_step (below_step h4 b4) b5) b6, s6⟩

/-- What the rounds keep: all but the counts. -/
def CI (m : Nat) (g : Nat) (W0 : World) (pre : List I64) (W : World) : Prop :=
  ∃ cs, cnts (m : Int) (List.replicate m 0) (pre.map fun x => x.1) = some cs ∧ Blk W g 3 (icells cs) ∧ But (fun k => k = g) W0 W
def CX (m : Nat) (g b : Nat) (W0 : World) (c : Code) (pre : List I64) (W : World) : Prop :=
  c = .ret ∧ cnts (m : Int) (List.replicate m 0) (pre.map fun x => x.1) = none ∧ Blk W b 23 #[.slice none 0 0] ∧ Blk W (b + 1) 24 #[.int .i64 2] ∧ But (fun k => k = g ∨ k = b ∨ k = b + 1) W0 W

theorem flat_plain (L : List (List I64)) : (Plain L).flatten = L.flatten.map fun x => x.1 := by
  rw [List.map_flatten]

set_option maxHeartbeats 6400000 in
theorem hCounts : HCounts := by
  intro A c zss n w hp hl hn
  have HP := Lib.hid hp
  obtain ⟨res, hres⟩ : ∃ r, sCounts zss n = r := ⟨_, rfl⟩
  rw [hres]
  by_cases h0 : n < 0
  · have hr : res = ([], 2) := by rw [← hres]; unfold sCounts; rw [if_pos (.inl h0)]
    subst hr
    clear hp hres
    refine (callsIn_wide (n := 9)).1 (callsIn_of_wp_marks Try.func8 rfl trivial ?_ rfl)
    refine wpIn_wide.2 ?_
    simp only [Try.ntmps8, List.size_toArray, List.length_cons, List.length_nil, Nat.reduceAdd, Nat.reduceSub, Array.replicate_succ, Array.replicate_zero, List.push_toArray, List.append_toArray, List.nil_append, List.cons_append]
    go_wp2_with fail
    exact ⟨_, pair_of (three w n 2) rfl _ rfl rfl, okL_nil (three w n 2).below⟩
  by_cases h1 : 1024 < n
  · have hr : res = ([], 2) := by rw [← hres]; unfold sCounts; rw [if_pos (.inr h1)]
    subst hr
    clear hp hres
    refine (callsIn_wide (n := 9)).1 (callsIn_of_wp_marks Try.func8 rfl trivial ?_ rfl)
    refine wpIn_wide.2 ?_
    simp only [Try.ntmps8, List.size_toArray, List.length_cons, List.length_nil, Nat.reduceAdd, Nat.reduceSub, Array.replicate_succ, Array.replicate_zero, List.push_toArray, List.append_toArray, List.nil_append, List.cons_append]
    go_wp2_with fail
    exact ⟨_, pair_of (three w n 2) rfl _ rfl rfl, okL_nil (three w n 2).below⟩
  have hmk := make_ints n (by omega) (by omega)
  obtain ⟨m, rfl⟩ := Int.eq_ofNat_of_zero_le (show 0 ≤ n by omega)
  rw [Int.toNat_natCast] at hmk
  have hm : m ≤ 1024 := by omega
  have HRES := Lib.hid hres
  obtain ⟨L, rfl⟩ := lift64 zss (fun l hl' z hz => by
    obtain ⟨i, hi, rfl⟩ := List.getElem_of_mem hl'
    obtain ⟨_, _, _, _, _, _, _, h5, _⟩ := hp i hi
    exact h5.mem z hz)
  have HT := Lib.hid (three w m 0)
  rw [List.length_map] at hl ⊢
  clear hp hres
  refine (callsIn_wide (n := 9)).1 (callsIn_of_wp_marks Try.func8 rfl trivial ?_ rfl)
  refine wpIn_wide.2 ?_
  simp only [Try.ntmps8, List.size_toArray, List.length_cons, List.length_nil, Nat.reduceAdd, Nat.reduceSub, Array.replicate_succ, Array.replicate_zero, List.push_toArray, List.append_toArray, List.nil_append, List.cons_append]
  go_wp2_with fail
  clear hmk
  obtain ⟨W0, hW0⟩ : ∃ x, ((w.alloc (.cells #[.int .i64 (m : Int)] 3)).alloc (.cells #[.slice none 0 0] 23)).alloc (.cells #[.int .i64 0] 24) = x := ⟨_, rfl⟩
  rw [hW0] at HT ⊢
  clear hW0
  refine (callsIn_wide (n := 9).1 (places_in Fence.wide 9 trivial rfl _ _ _ _)).mono ?_
  rintro e w' ⟨rfl, rfl⟩
  have hsz4 : ((W0.alloc (.cells (icells (List.replicate m 0)) 3)).alloc (.cells #[.slice (some ⟨w.heap.size + 1 + 1 + 1, 0, none⟩) m m] 23)).heap.size = w.heap.size + 1 + 1 + 1 + 1 + 1 := by simp [HT.out.size]
  rw [hsz4]
  have H6 := Lib.hid (six HT.out A L.length c)
  clear hsz4
  obtain ⟨W2, hW2⟩ : ∃ x, ((W0.alloc (.cells (icells (List.replicate m 0)) 3)).alloc (.cells #[.slice (some ⟨w.heap.size + 1 + 1 + 1, 0, none⟩) m m] 23)).alloc (.cells #[.slice A L.length c] 22) = x := ⟨_, rfl⟩
  rw [hW2] at H6 ⊢
  clear hW2 HT
  obtain ⟨q, hq⟩ : ∃ x, w.heap.size = x := ⟨_, rfl⟩
  obtain ⟨d1, d2, d3, d4, d5, d6, d7, d8⟩ := H6.out
  rw [hq] at d1 d2 d3 d4 d5 d6 d8 ⊢
  have HQ := Lib.hid hq
  have HST := Lib.hid (places_stops Fence.wide 8 trivial rfl (by decide) (q + 1 + 1 + 1 + 1 + 1) A c L w W2 HP.out hl d7 d6)
  clear hq
  go_wp2_with fail
  refine wpIn_wide.1 (wpIn_rangeFunc_ownF (F := Fence.wide) (n := 9) rfl (by decide) (gf := 18) (lb := #[.pointer (some ⟨q + 1 + 1 + 1 + 1 + 1, 0, none⟩)]) rfl trivial (enters_of Try.func18 (by kernel_rfl) rfl) HST.out
    belowK_t (belowK_b d7.size) (Below.refl _ _) (fun _ => rfl)
    (CI m (q + 1 + 1 + 1) W2) (CX m (q + 1 + 1 + 1) (q + 1) W2) ?hI ?hIx ⟨_, rfl, d4, But.refl _ _⟩
    (fun x => { tmps := #[.slice A L.length c, .int .i64 (m : Int), undef, .pointer (some ⟨q, 0, none⟩), .pointer (some ⟨q + 1, 0, none⟩), .pointer (some ⟨q + 1 + 1, 0, none⟩), .pointer (some ⟨q + 1 + 1 + 1 + 1, 0, none⟩), .int .i64 x.1, .int .i64 (m : Int), .bool false, .bool false, .int .i64 (m : Int), .bool false, .bool false, .int .i64 (m : Int), .slice (some ⟨q + 1 + 1 + 1, 0, none⟩) m m, .slice A L.length c, .func (.func 18) #[] #[.pointer (some ⟨q + 1 + 1 + 1 + 1 + 1, 0, none⟩)], .int .i64 x.1, undef, undef, undef, undef, undef, undef, undef, undef, undef, undef, undef, undef, undef, undef, undef, undef, undef, undef], defers := [] })
    ?assign ?body ?done ?stop)
  case hI =>
    intro pre W W' row ⟨cs, h1, h2, h3⟩ hg hr
    refine ⟨cs, h1, h2.of_block (hg.block _ h2.lt (fun e => ?_)), but_grown h3 hg (fun k e => .inr (hr k e).1)⟩
    have := (hr _ e.symm).1
    omega
  case hIx =>
    intro cc pre W W' row ⟨h0, h1, h2, h2', h3⟩ hg hr
    refine ⟨h0, h1, h2.of_block (hg.block _ h2.lt (fun e => ?_)), h2'.of_block (hg.block _ h2'.lt (fun e => ?_)), but_grown h3 hg (fun k e => .inr (hr k e).1)⟩
    all_goals
      have := (hr _ e.symm).1
      omega
  case assign =>
    intro l x W K hK
    gi_wp2
    exact hK
  case body =>
    rintro l pre x W ⟨cs, hcs, hbk, hbut⟩ _
    have hsz := hbut.size
    have e1 : Blk W q 3 _ := d1.of_block (hbut.block _ d1.lt (by omega))
    have e2 : Blk W (q + 1) 23 _ := d2.of_block (hbut.block _ d2.lt (by omega))
    have e3 : Blk W (q + 1 + 1) 24 _ := d3.of_block (hbut.block _ d3.lt (by omega))
    have e5 : Blk W (q + 1 + 1 + 1 + 1) 23 _ := d5.of_block (hbut.block _ d5.lt (by omega))
    have hpost : ∀ cs', cnts (m : Int) (List.replicate m 0) ((pre ++ [x]).map fun x => x.1) = some cs' → ∀ W', Blk W' (q + 1 + 1 + 1) 3 (icells cs') → But (fun k => k = q + 1 + 1 + 1) W W' → CI m (q + 1 + 1 + 1) W2 (pre ++ [x]) W' :=
      fun cs' h1 W' h2 h3 => ⟨cs', h1, h2, hbut.trans h3 (fun i e => .inl e)⟩
    have hbl : ∀ W', But (fun k => k = q + 1 + 1 + 1) W W' → Below w.heap.size W W' := fun W' h => h.below (fun i e => by rw [e, HQ.out]; omega) (by rw [HQ.out]; omega)
    have hsn := cnts_snoc hcs x.1
    rw [show pre.map (fun x => x.1) ++ [x.1] = (pre ++ [x]).map (fun x => x.1) by simp] at hsn
    have kn : W.cell? ⟨q, 0, none⟩ = some (.int .i64 (m : Int)) := e1.cell 0
    have kb : W.cell? ⟨q + 1 + 1 + 1 + 1, 0, none⟩ = some (.slice (some ⟨q + 1 + 1 + 1, 0, none⟩) m m) := e5.cell 0
    have ko : W.cell? ⟨q + 1, 0, none⟩ = some (.slice none 0 0) := e2.cell 0
    have kt : W.cell? ⟨q + 1 + 1, 0, none⟩ = some (.int .i64 0) := e3.cell 0
    have ln := e1.lt
    have lo := e2.lt
    have lt := e3.lt
    have lb := e5.lt
    have fo := e2.frozen 0
    have ft := e3.frozen 0
    have HPO := Lib.hid hpost
    have HBL := Lib.hid hbl
    have HSN := Lib.hid hsn
    have HBK := Lib.hid hbk
    have HBUT := Lib.hid hbut
    have HCS := Lib.hid hcs
    have E2 := Lib.hid e2
    have E3 := Lib.hid e3
    have hx64 := x.2
    clear hpost hbl hsn hbk hbut hcs e1 e2 e3 e5 hsz d1 d2 d3 d4 d5 d6 d7 d8
    generalize x.1 = y at *
    by_cases hy0 : y = 0
    · subst hy0
      have hs := HSN.out
      rw [if_pos rfl] at hs
      have HS2 := Lib.hid hs
      clear hs
      gi_wp2
      exact ⟨KeepsOthers.refl _, Below.refl _ _, HPO.out _ HS2.out _ HBK.out (But.refl _ _)⟩
    · have hy0b : (y == 0) = false := by simpa using hy0
      by_cases hbad : y < 193 ∨ (m : Int) ≤ y
      · have hs := HSN.out
        rw [if_neg hy0, if_pos hbad] at hs
        have HS2 := Lib.hid hs
        clear hs
        have hfin : Hid (KeepsOthers W ((W.setCell ⟨q + 1, 0, none⟩ (.slice none 0 0)).setCell ⟨q + 1 + 1, 0, none⟩ (.int .i64 2)) ∧ CX m (q + 1 + 1 + 1) (q + 1) W2 .ret (pre ++ [x]) ((W.setCell ⟨q + 1, 0, none⟩ (.slice none 0 0)).setCell ⟨q + 1 + 1, 0, none⟩ (.int .i64 2))) := by
          have b1 : But (fun k => k = q + 1) W (W.setCell ⟨q + 1, 0, none⟩ (.slice none 0 0)) := (But.refl _ _).setCell ⟨q + 1, 0, none⟩ _ (.inl rfl)
          have b2 : But (fun k => k = q + 1 + 1) (W.setCell ⟨q + 1, 0, none⟩ (.slice none 0 0)) ((W.setCell ⟨q + 1, 0, none⟩ (.slice none 0 0)).setCell ⟨q + 1 + 1, 0, none⟩ (.int .i64 2)) := (But.refl _ _).setCell ⟨q + 1 + 1, 0, none⟩ _ (.inl rfl)
          have k1 := E2.out.set_ 0 (.slice none 0 0)
          have k2 := (E3.out.of_block (b1.block _ E3.out.lt (by omega))).set_ 0 (.int .i64 2)
          refine ⟨(KeepsOthers.setCell _ _ _).trans (KeepsOthers.setCell _ _ _), rfl, HS2.out, k1.of_block (b2.block _ k1.lt (by omega)), k2, ?_⟩
          have b3 : But (fun k => k = q + 1 ∨ k = q + 1 + 1) W _ := (b1.mono (S' := fun k => k = q + 1 ∨ k = q + 1 + 1) (fun i e => .inl e)).trans b2 (fun i e => .inl (.inr e))
          exact (HBUT.out.mono (S' := fun k => k = q + 1 + 1 + 1 ∨ k = q + 1 ∨ k = q + 1 + 1) (fun i e => .inl e)).trans b3 (fun i e => .inl (.inr e))
        by_cases hlow : y < 193
        · gi_wp2
          exact hfin.out
        · have hge : (m : Int) ≤ y := by omega
          gi_wp2
          exact hfin.out
      · have hs := HSN.out
        rw [if_neg hy0, if_neg hbad] at hs
        have hlow : ¬ y < 193 := fun h => hbad (.inl h)
        have hge : ¬ (m : Int) ≤ y := fun h => hbad (.inr h)
        obtain ⟨t, rfl⟩ := Int.eq_ofNat_of_zero_le (show 0 ≤ y by omega)
        rw [Int.toNat_natCast] at hs
        have htm : t < m := by omega
        have hti : (t : Int) < (m : Int) := by omega
        have hcl : cs.length = m := by rw [cnts_len HCS.out, List.length_replicate]
        have htd : t < cs.length := by rw [hcl]; exact htm
        have HSN2 := Lib.hid hs
        have hq' := HBK.out.cell t
        rw [icells_at cs t htd] at hq'
        have hfz := HBK.out.frozen t
        have hgl := HBK.out.lt
        have hgd : cs.getD t 0 = cs[t] := by simp [List.getD, htd]
        have hset := icells_set cs t (wrap64 (cs[t] + 1))
        have hbk2 := HBK.out.set_ t (.int .i64 (wrap64 (cs[t] + 1)))
        rw [hset, ← hgd] at hbk2
        have HBK2 : Hid (Blk (W.setCell ⟨q + 1 + 1 + 1, t, none⟩ (.int .i64 (wrap64 (cs.getD t 0 + 1)))) (q + 1 + 1 + 1) 3 (icells (bump cs t))) := hbk2
        have HB2 : Hid (But (fun k => k = q + 1 + 1 + 1) W (W.setCell ⟨q + 1 + 1 + 1, t, none⟩ (.int .i64 (wrap64 (cs.getD t 0 + 1))))) := (But.refl _ _).setCell ⟨q + 1 + 1 + 1, t, none⟩ _ (.inl rfl)
        rw [hgd] at HBK2 HB2
        have hv := cnts_i64 HCS.out (zeros_i64 _) cs[t] (List.getElem_mem htd)
        unfold i64B at hv
        clear hs hgd hset hbk2 hcl
        generalize cs[t] = v at *
        gi_wp2
        exact ⟨KeepsOthers.setCell _ _ _, HBL.out _ HB2.out, HPO.out _ HSN2.out _ HBK2.out HB2.out⟩
  case stop =>
    rintro D cc pre W hD hpre ⟨rfl, hx, h1, h2, h3⟩ hK
    have hr : res = ([], 2) := by
      rw [← HRES.out]
      refine sCounts_bad ?_
      obtain ⟨r, hr⟩ := hpre
      rw [flat_plain, ← hr, List.map_append]
      exact cnts_none hx _
    subst hr
    gi_wp2
    refine ⟨by simp, .inl ⟨_, _, rfl, run_takeDeferred hK, ?_⟩⟩
    have p1 : Blk (W.putObj D (.deferred none)) (q + 1) 23 _ := h1.of_block (World.putObj_heap_other (by omega))
    have p2 : Blk (W.putObj D (.deferred none)) (q + 1 + 1) 24 _ := h2.of_block (World.putObj_heap_other (by omega))
    have hb1 : Below w.heap.size w W := d7.trans (h3.below (fun i e => by rw [HQ.out]; omega) d7.size)
    have hb2 : Below w.heap.size w (W.putObj D (.deferred none)) := hb1.grown (grownBy_putObj' W D _) hb1.size (fun k e => by cases e; rw [HQ.out]; omega)
    exact ⟨_, results_cell2 rfl _ _ _ ⟨q + 1, 0, none⟩ ⟨q + 1 + 1, 0, none⟩ _ _ rfl rfl (load_one (agg_slice _) (p1.cell 0)) (load_one (agg_errno _) (p2.cell 0)), okL_nil hb2⟩
  case done =>
    rintro D ys W hD rfl ⟨cs, hcs, hbk, hbut⟩ hK
    have hr : res = (cs, 0) := by
      rw [← HRES.out]
      refine sCounts_ok (by omega) (by omega) ?_
      rw [flat_plain, Int.toNat_natCast]
      exact hcs
    have hcl : cs.length = m := by rw [cnts_len hcs, List.length_replicate]
    have hz := cnts_i64 hcs (zeros_i64 _)
    have hsz := hbut.size
    have e2 : Blk W (q + 1) 23 _ := d2.of_block (hbut.block _ d2.lt (by omega))
    have e3 : Blk W (q + 1 + 1) 24 _ := d3.of_block (hbut.block _ d3.lt (by omega))
    have e5 : Blk W (q + 1 + 1 + 1 + 1) 23 _ := d5.of_block (hbut.block _ d5.lt (by omega))
    have hb1 : Below w.heap.size w W := d7.trans (hbut.below (fun i e => by rw [e, HQ.out]; omega) d7.size)
    have kb : W.cell? ⟨q + 1 + 1 + 1 + 1, 0, none⟩ = some (.slice (some ⟨q + 1 + 1 + 1, 0, none⟩) m m) := e5.cell 0
    have ko : W.cell? ⟨q + 1, 0, none⟩ = some (.slice none 0 0) := e2.cell 0
    have kt : W.cell? ⟨q + 1 + 1, 0, none⟩ = some (.int .i64 0) := e3.cell 0
    have lo := e2.lt
    have lt := e3.lt
    have lb := e5.lt
    have fo := e2.frozen 0
    have ft := e3.frozen 0
    have HR := Lib.hid hr
    have HCL := Lib.hid hcl
    have HZ := Lib.hid hz
    have E2 := Lib.hid e2
    have E3 := Lib.hid e3
    have HBK := Lib.hid hbk
    have HB1 := Lib.hid hb1
    have HK := Lib.hid hK
    clear hr hcl hz hsz e2 e3 e5 hbk hb1 hcs hbut hK d1 d2 d3 d4 d5 d6 d7
    go_wp2_with fail
    have b1 : But (fun k => k = q + 1) W (W.setCell ⟨q + 1, 0, none⟩ (.slice (some ⟨q + 1 + 1 + 1, 0, none⟩) m m)) := (But.refl _ _).setCell ⟨q + 1, 0, none⟩ _ (.inl rfl)
    have b2 : But (fun k => k = q + 1 + 1) (W.setCell ⟨q + 1, 0, none⟩ (.slice (some ⟨q + 1 + 1 + 1, 0, none⟩) m m)) ((W.setCell ⟨q + 1, 0, none⟩ (.slice (some ⟨q + 1 + 1 + 1, 0, none⟩) m m)).setCell ⟨q + 1 + 1, 0, none⟩ (.int .i64 0)) := (But.refl _ _).setCell ⟨q + 1 + 1, 0, none⟩ _ (.inl rfl)
    have k1 := E2.out.set_ 0 (.slice (some ⟨q + 1 + 1 + 1, 0, none⟩) m m)
    have k2 := (E3.out.of_block (b1.block _ E3.out.lt (by omega))).set_ 0 (.int .i64 0)
    have k1' := k1.of_block (b2.block _ k1.lt (by omega))
    have b3 : But (fun k => k = q + 1 ∨ k = q + 1 + 1) W _ := (b1.mono (S' := fun k => k = q + 1 ∨ k = q + 1 + 1) (fun i e => .inl e)).trans b2 (fun i e => .inl (.inr e))
    generalize (W.setCell ⟨q + 1, 0, none⟩ (.slice (some ⟨q + 1 + 1 + 1, 0, none⟩) m m)).setCell ⟨q + 1 + 1, 0, none⟩ (.int .i64 0) = W' at *
    have hKD : W'.heap[D]? = some (.deferred (some [])) := (b3.block D (Array.getElem?_eq_some_iff.1 HK.out).1 (by omega)).trans HK.out
    refine ⟨by simp, .inl ⟨_, _, rfl, run_takeDeferred hKD, ?_⟩⟩
    have p1 : Blk (W'.putObj D (.deferred none)) (q + 1) 23 _ := k1'.of_block (World.putObj_heap_other (by omega))
    have p2 : Blk (W'.putObj D (.deferred none)) (q + 1 + 1) 24 _ := k2.of_block (World.putObj_heap_other (by omega))
    have p3 : Blk (W'.putObj D (.deferred none)) (q + 1 + 1 + 1) 3 _ := (HBK.out.of_block (b3.block _ HBK.out.lt (by omega))).of_block (World.putObj_heap_other (by omega))
    have hw1 : Below w.heap.size w W' := HB1.out.trans (b3.below (fun i e => by rw [HQ.out]; omega) HB1.out.size)
    have hw2 : Below w.heap.size w (W'.putObj D (.deferred none)) := hw1.grown (grownBy_putObj' W' D _) hw1.size (fun k e => by cases e; rw [HQ.out]; omega)
    exact ⟨_, results_cell2 rfl _ _ _ ⟨q + 1, 0, none⟩ ⟨q + 1 + 1, 0, none⟩ _ _ rfl rfl (load_one (agg_slice _) (p1.cell 0)) (load_one (agg_errno _) (p2.cell 0)), okL_blk p3 hw2 (by rw [HQ.out]; omega) HCL.out (Nat.le_refl _) HZ.out HR.out⟩
end Go.Proofs.Ytpeeoaogklkjlaa.sp

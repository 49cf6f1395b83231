/- ImVol2, ImChk, MgTk. -/
import Derived.Test.YtklmgdiaianlbaaQ6
import Derived.Maps.OwnSet
import Derived.WalkKit
import Derived.Deep.DeepCutAuto
set_option linter.unusedVariables false
set_option linter.unusedSimpArgs false
/- Volumes compared; the places of one below a number; two alike. -/
namespace Go.Proofs.Ytklmgdiaianlbaa.im
open Go Go.RowKit Go.Proofs.Ytklmgdiaianlbaa.ib
set_option maxRecDepth 100000

/-! ### Two volumes compared -/
theorem all_range_nums : ∀ (xs ys : List Int), xs.length = ys.length → ((List.range xs.length).all fun i => xs.getD i 0 == ys.getD i 0) = decide (xs = ys)
  | [], [], _ => rfl
  | x :: xs, y :: ys, h => by
    have ih := all_range_nums xs ys (by simpa using h)
    rw [List.length_cons, List.range_succ_eq_map, List.all_cons, List.all_map]
    simp only [List.getD_cons_zero, Function.comp_def, List.getD_cons_succ, ih]
    rw [Bool.eq_iff_iff]
    simp
  | [], _ :: _, h => by simp at h
  | _ :: _, [], h => by simp at h

theorem ncells_getD (V : List Int) (i : Nat) (h : i < V.length) : (ncells V)[i]? = some (.int .i64 (V.getD i 0)) := by
  rw [ncells_at V i h]
  simp [List.getD, h]
theorem run_eql_vol (U V : List Int) (hu : U.length = 8) (hv : V.length = 8) (w : World) : (binOp .eql 82 (.agg (ncells U)) (.agg (ncells V))).run Try.prog w = .ok (.bool (decide (U = V))) w := by
  have u3 := Try.underlying3
  obtain ⟨i0, hi, -, hz1, -⟩ := info_parts infoInt
  have hc : Try.prog.cellsOf 3 = 1 := by kernel_rfl
  rw [run_eql_struct, show (10000 : Nat) = 9999 + 1 from rfl, run_equalIn_array w 9999 _ _ Try.underlying82 hi, hc, ← all_range_nums U V (by rw [hu, hv]), hu]
  have hl : ∀ i ∈ List.range 8, i < 8 := fun i hi => List.mem_range.1 hi
  generalize List.range 8 = is at hl
  have hgo : (Op.eqItems 9999 3 1 (ncells U) (ncells V) is).run Try.prog w = .ok (is.all fun i => U.getD i 0 == V.getD i 0) w := by
    induction is with
    | nil => simp [Op.eqItems]
    | cons i l ih =>
      have hi : i < 8 := hl i (by simp)
      have px : (part 3 (ncells U) (i * 1)).run Try.prog w = .ok (.int .i64 (U.getD i 0)) w := by
        rw [Nat.mul_one]
        simp [part, isAgg, run_underlying u3, ncells_getD U i (by omega)]
      have py : (part 3 (ncells V) (i * 1)).run Try.prog w = .ok (.int .i64 (V.getD i 0)) w := by
        rw [Nat.mul_one]
        simp [part, isAgg, run_underlying u3, ncells_getD V i (by omega)]
      have pe : (Op.equalIn 9999 3 (.int .i64 (U.getD i 0)) (.int .i64 (V.getD i 0))).run Try.prog w = .ok (U.getD i 0 == V.getD i 0) w := run_equalIn_int w 9998 3 .i64 .i64 _ _ u3
      simp only [Op.eqItems, Sem.run_bind, px, py, pe, Result.andThen_ok, List.all_cons]
      cases hb : (U.getD i 0 == V.getD i 0)
      · simp
      · simp only [Bool.not_true, Bool.false_eq_true, if_false, Bool.true_and]
        exact ih fun j hj => hl j (by simp [hj])
  rw [hgo]
  rfl

/-! ### Places below a number -/
def LieRel (V : List Int) (n : Int) (w : World) (i : Value) (wr : World) : Prop := ∃ k : Nat, k ≤ 8 ∧ i = .int .i64 (k : Int) ∧ (V.take k).any (badP n) = false ∧ Blk wr w.heap.size 82 (ncells V) ∧ Below w.heap.size w wr

set_option maxHeartbeats 3200000 in
theorem lieBelow_any (V : List Int) (hv : V.length = 8) (n : Int) (w : World) : Calls Try.prog 62 #[.agg (ncells V), .int .i64 n] w (endB (!V.any (badP n)) w) := by
  obtain ⟨res, hres⟩ : ∃ r, V.any (badP n) = r := ⟨_, rfl⟩
  rw [hres]
  have HRES := Lib.hid hres
  have HV := Lib.hid hv
  clear hv hres
  have K0 := Lib.hid (Blk.new w 82 (ncells V))
  have B0 := Lib.hid ((Below.refl w.heap.size w).alloc (Nat.le_refl _) (.cells (ncells V) 82))
  go_enter Try.func62, Try.ntmps62
  go_wp2_with fail
  go_loopw [7] (fun i wr => LieRel V n w i wr) (fun i _ => 8 - (intOf i).toNat)
  case atStart => exact ⟨0, by omega, rfl, by simp, K0.out, B0.out⟩
  case round =>
    clear K0 B0
    obtain ⟨k, hk, rfl, ha, hb, hw⟩ := hrel
    have HA := Lib.hid ha
    have HB := Lib.hid hb
    have HW := Lib.hid hw
    clear ha hb hw
    by_cases h8 : k < 8
    · have h8i : (k : Int) < 8 := by omega
      have hkv : k < V.length := by rw [HV.out]; exact h8
      have HS := Lib.hid (any_snoc hkv (badP n))
      have HT := Lib.hid (fun h => any_at (p := badP n) hkv h)
      have e0 : wr.cell? ⟨w.heap.size, k, none⟩ = some (.int .i64 V[k]) := by rw [HB.out.cell k]; exact ncells_at _ _ _
      have l0 := HB.out.lt
      generalize V[k] = x at *
      clear hkv
      by_cases hx : x = 0
      · subst hx
        have HS2 : Hid ((V.take (k + 1)).any (badP n) = false) := by unfold Hid; rw [HS.out, HA.out]; rfl
        go_wp2_with fail
        go_roundw
        case rel => exact ⟨k + 1, by omega, by go_num, HS2.out, HB.out, HW.out⟩
        case measure => simp [intOf]; omega
      · have hxb : (x != 0) = true := by simpa using hx
        by_cases hbad : x < 193 ∨ n ≤ x
        · have hbp : badP n x = true := by
            unfold badP
            rw [decide_eq_true hx, Bool.true_and]
            rcases hbad with h | h
            · rw [decide_eq_true h, Bool.true_or]
            · rw [decide_eq_true h, Bool.or_true]
          have hr : res = true := by rw [← HRES.out, HT.out hbp]
          subst hr
          by_cases hlow : x < 193
          · go_wp2_with fail
            go_ret
            exact ⟨rfl, HW.out⟩
          · have hge : n ≤ x := by omega
            go_wp2_with fail
            go_ret
            exact ⟨rfl, HW.out⟩
        · have hlow : ¬ x < 193 := fun h => hbad (.inl h)
          have hge : ¬ n ≤ x := fun h => hbad (.inr h)
          have HS2 : Hid ((V.take (k + 1)).any (badP n) = false) := by
            unfold Hid
            rw [HS.out, HA.out]
            unfold badP
            rw [decide_eq_false hlow, decide_eq_false hge, Bool.or_false, Bool.and_false, Bool.or_false]
          go_wp2_with fail
          go_roundw
          case rel => exact ⟨k + 1, by omega, by go_num, HS2.out, HB.out, HW.out⟩
          case measure => simp [intOf]; omega
    · have h8i : ¬ (k : Int) < 8 := by omega
      have hr : res = false := by
        have := HA.out
        rw [List.take_of_length_le (by rw [HV.out]; omega), HRES.out] at this
        exact this
      subst hr
      go_wp2_with fail
      go_ret
      exact ⟨rfl, HW.out⟩

/-! ### How often a place was met: a map in memory -/
abbrev D1 := DataW Unit
def nRead : Value → Option (D1 × List MemPlace)
  | .int k a => some (.lit (.int k a), [])
  | _ => none
theorem nRead_inv {x : Value} {a : Int} {ps : List MemPlace} (h : nRead x = some (.lit (.int .i64 a), ps)) : x = .int .i64 a := by
  cases x <;> simp [nRead] at h
  obtain ⟨⟨rfl, rfl⟩, _⟩ := h
  rfl
/-- Block m is the map of how often each number was met, of s at most. -/
def HeldIs (w : World) (m s : Nat) (f : Int → Int) : Prop :=
  ∃ D : D1, w.ownsMap Try.prog 3 nRead m (Maps.size D) D ∧ (∀ k : Int, D.atKey (.int .i64 k) (.lit (.int .i64 0)) = .lit (.int .i64 (f k))) ∧ Maps.size D ≤ s
theorem held_tight {w : World} {b n : Nat} {D : D1} {P : Program} {k : TypeId} {R : Value → Option (D1 × List MemPlace)} (h : w.ownsMap P k R b n D) : w.ownsMap P k R b (Maps.size D) D := by
  obtain ⟨es, clock, hb, F, _, rfl⟩ := h
  exact ⟨es, clock, hb, F, by simp [Maps.size, length_sorted], rfl⟩
theorem HeldIs.lt {w : World} {m s : Nat} {f : Int → Int} (h : HeldIs w m s f) : m < w.heap.size := by
  obtain ⟨D, h1, _⟩ := h
  exact h1.lt
theorem HeldIs.made (w : World) : HeldIs (w.alloc (.map #[] 0)) w.heap.size 0 (fun _ => 0) :=
  ⟨.map [], World.ownsMap_made w Try.prog 3 nRead, fun _ => rfl, by simp [Maps.size]⟩
theorem HeldIs.congr {w : World} {m s : Nat} {f g : Int → Int} (h : HeldIs w m s f) (e : ∀ z, f z = g z) : HeldIs w m s g := by
  obtain ⟨D, h1, h2, h3⟩ := h
  exact ⟨D, h1, fun k => by rw [h2, e], h3⟩
theorem HeldIs.more {w : World} {m s s' : Nat} {f : Int → Int} (h : HeldIs w m s f) (e : s ≤ s') : HeldIs w m s' f := by
  obtain ⟨D, h1, h2, h3⟩ := h
  exact ⟨D, h1, h2, Nat.le_trans h3 e⟩
abbrev ikeyed : Go.Maps.Keyed Try.prog 3 := Go.Maps.int_keyed Try.underlying3
theorem iwf (k : Int) (h : i64B k) : (Lit.int .i64 k).wf = true := WalkArith.wf_i64 (by unfold i64B at h; omega)
theorem HeldIs.find {w : World} {m s : Nat} {f : Int → Int} (h : HeldIs w m s f) (k : Int) (hk : i64B k) :
    (Instr.lookup 102 (.map (some m)) (.int .i64 k) false).run Try.prog w = .ok (.int .i64 (f k)) w := by
  obtain ⟨D, hown, ha, _⟩ := h
  have hkey := Go.Maps.keyOf_int_mk (P := Try.prog) (k := 3) Try.underlying3 (iwf k hk)
  obtain ⟨i0, hi, hz0, -, -⟩ := info_parts infoInt
  have hz : (zeroValue 3).run Try.prog w = .ok (.int .i64 0) w := by simp [zeroValue, typeInfo, hi, hz0]
  obtain ⟨v2, ps2, hrun2, hv2⟩ := hown.lookup ikeyed Try.underlying102 hz (rfl : nRead (.int .i64 0) = some (.lit (.int .i64 0), [])) hkey
  rw [ha] at hv2
  rw [nRead_inv hv2] at hrun2
  exact hrun2
theorem ikeyLit (k : Int) : WideAt.IsKeyLit (Lit.int .i64 k) := trivial
theorem ikey_ne {a b : Int} (h : a ≠ b) : (Lit.int .i64 a) ≠ Lit.int .i64 b := fun e => h (by injection e)
theorem HeldIs.store {w : World} {m s : Nat} {f : Int → Int} (h : HeldIs w m s f) (k v : Int) (hk : i64B k) (hs : s ≤ 1000) :
    ∃ w', (Instr.mapUpdate 102 (.map (some m)) (.int .i64 k) (.int .i64 v)).run Try.prog w = .ok () w' ∧ HeldIs w' m (s + 1) (fun z => if z = k then v else f z) ∧ w.mapTurned w' m := by
  obtain ⟨D, hown, ha, hc⟩ := h
  have hkey := Go.Maps.keyOf_int_mk (P := Try.prog) (k := 3) Try.underlying3 (iwf k hk)
  have hti := hown.tidy ikeyed
  obtain ⟨w', hrun, r1, r2⟩ := hown.store ikeyed Try.underlying102 (by unfold maxLen; omega) hkey (rfl : nRead (.int .i64 v) = some (.lit (.int .i64 v), []))
  refine ⟨w', hrun, ⟨_, held_tight r1, ?_, ?_⟩, r2⟩
  · intro j
    dsimp only
    by_cases e : j = k
    · subst e
      rw [if_pos rfl]
      exact Maps.atKey_put_same hti.isMap (ikeyLit _) _ _
    · rw [if_neg e, Maps.atKey_put_other (ikey_ne e)]
      exact ha j
  · rw [Maps.size_put hti]
    split <;> omega

theorem exec_held {ρ : Operand → Value} {o : Oper} {w : World} {b s : Nat} {f : Int → Int} (x y : Operand) (ho : o.op = .lookup 102 x y false) (hx : ρ x = .map (some b)) (h : HeldIs w b s f)
    (k : Int) (hy : ρ y = .int .i64 k) (hk : i64B k) : (execOp ρ o).run Try.prog w = .ok (.value (.int .i64 (f k))) w := by
  simp [execOp, ho, hx, hy, h.find k hk, Result.andThen]
theorem wpList_store_held {ops : Array Oper} {rest : List Oper} {o : Oper} {a : Act} {w : World} {Q : Exit → Act → World → Prop} {b s : Nat} {f : Int → Int} (hg : o.guard = none) (x y z : Operand) (ho : o.op = .mapUpdate 102 x y z) (hx : a.eval x = .map (some b)) (h : HeldIs w b s f)
    (k v : Int) (hy : a.eval y = .int .i64 k) (hz : a.eval z = .int .i64 v) (hk : i64B k) (hs : s ≤ 1000)
    (hK : ∀ w', HeldIs w' b (s + 1) (fun z => if z = k then v else f z) → w.mapTurned w' b → wpList Try.prog ops Q rest (a.put o.dst undef) w') : wpList Try.prog ops Q (o :: rest) a w := by
  refine wpList_plain hg fun K' hK' => ?_
  obtain ⟨w', hrun, r1, r2⟩ := h.store k v hk hs
  unfold Oper.wp
  simp [execOp, ho, hx, hy, hz, hrun, Result.andThen]
  exact hK' _ _ (hK w' r1 r2)

theorem turned_below {m : Nat} {w w' w2 : World} (h : Below w.heap.size w w') (ht : w'.mapTurned w2 m) (hm : w.heap.size ≤ m) : Below w.heap.size w w2 :=
  h.grown ht.grown h.size (fun k e => by injection e with e; omega)

/-! ### Is a place there twice -/
def hasTo (V : List Int) (k : Nat) (z : Int) : Bool := (List.range k).any fun j => decide (z = pl V j)
def hf (V : List Int) (k : Nat) (z : Int) : Int := if (decide (z ≠ 0) && hasTo V k z) = true then 1 else 0
theorem hasTo_succ (V : List Int) (k : Nat) (z : Int) : hasTo V (k + 1) z = (hasTo V k z || decide (z = pl V k)) := by
  unfold hasTo
  rw [List.range_succ, List.any_append, List.any_cons, List.any_nil, Bool.or_false]
theorem hf_zero (V : List Int) (z : Int) : hf V 0 z = 0 := by
  unfold hf hasTo
  simp
theorem hf_skip {V : List Int} {k : Nat} (h : pl V k = 0) (z : Int) : hf V k z = hf V (k + 1) z := by
  unfold hf
  rw [hasTo_succ, h]
  by_cases hz : z = 0
  · subst hz
    rfl
  · rw [decide_eq_false hz, Bool.or_false]
theorem hf_new {V : List Int} {k : Nat} (h : pl V k ≠ 0) (z : Int) : (if z = pl V k then 1 else hf V k z) = hf V (k + 1) z := by
  unfold hf
  rw [hasTo_succ]
  by_cases hz : z = pl V k
  · rw [if_pos hz, decide_eq_true hz, Bool.or_true, Bool.and_true, decide_eq_true (by rw [hz]; exact h), if_pos rfl]
  · rw [if_neg hz, decide_eq_false hz, Bool.or_false]
theorem hf_is {V : List Int} {k : Nat} (h : pl V k ≠ 0) : hf V k (pl V k) = if dupAt V k k = true then 1 else 0 := by
  unfold hf
  rw [decide_eq_true h, Bool.true_and]
  rfl
theorem dup_to {V : List Int} {k m : Nat} (h : pl V k ≠ 0) (hd : dupAt V k k = true) (hk : k < m) : dupTo V m = true := by
  unfold dupAt at hd
  rw [List.any_eq_true] at hd
  obtain ⟨j, hj, he⟩ := hd
  exact dupTo_true hk (List.mem_range.1 hj) h (of_decide_eq_true he)

def TwiceRel (V : List Int) (w : World) (i : Value) (wr : World) : Prop :=
  ∃ k : Nat, k ≤ 8 ∧ i = .int .i64 (k : Int) ∧ dupTo V k = false ∧ Blk wr w.heap.size 82 (ncells V) ∧ HeldIs wr (w.heap.size + 1) k (hf V k) ∧ Below w.heap.size w wr

set_option maxHeartbeats 3200000 in
theorem haveTwice_any (V : List Int) (hv : V.length = 8) (hz : ∀ z ∈ V, i64B z) (w : World) : Calls Try.prog 63 #[.agg (ncells V)] w (endB (dupTo V 8) w) := by
  obtain ⟨res, hres⟩ : ∃ r, dupTo V 8 = r := ⟨_, rfl⟩
  rw [hres]
  have HRES := Lib.hid hres
  have HV := Lib.hid hv
  have HZ := Lib.hid hz
  clear hv hres hz
  have hsz : (w.alloc (.cells (ncells V) 82)).heap.size = w.heap.size + 1 := by simp
  have k0 : Blk ((w.alloc (.cells (ncells V) 82)).alloc (.map #[] 0)) w.heap.size 82 (ncells V) := (Blk.new w 82 (ncells V)).of_block (Below.heap_alloc _ _ _ (by rw [hsz]; omega))
  have k1 : HeldIs ((w.alloc (.cells (ncells V) 82)).alloc (.map #[] 0)) (w.heap.size + 1) 0 (hf V 0) := by
    have := HeldIs.made (w.alloc (.cells (ncells V) 82))
    rw [hsz] at this
    exact this.congr fun z => (hf_zero V z).symm
  have b0 : Below w.heap.size w ((w.alloc (.cells (ncells V) 82)).alloc (.map #[] 0)) := ((Below.refl w.heap.size w).alloc (Nat.le_refl _) _).alloc (by simp) _
  have K0 := Lib.hid k0
  have K1 := Lib.hid k1
  have B0 := Lib.hid b0
  clear hsz k0 k1 b0
  have hmm := @run_makeMap Try.prog
  go_enter Try.func63, Try.ntmps63
  go_wp2_with fail
  go_loopw [7] (fun i wr => TwiceRel V w i wr) (fun i _ => 8 - (intOf i).toNat)
  case atStart => exact ⟨0, by omega, rfl, rfl, K0.out, K1.out, B0.out⟩
  case round =>
    clear K0 K1 B0
    obtain ⟨k, hk, rfl, ha, hb, hh, hw⟩ := hrel
    have HA := Lib.hid ha
    have HB := Lib.hid hb
    have HH := Lib.hid hh
    have HW := Lib.hid hw
    clear ha hb hh hw
    by_cases h8 : k < 8
    · have h8i : (k : Int) < 8 := by omega
      have hkv : k < V.length := by rw [HV.out]; exact h8
      have hpk : pl V k = V[k] := pl_at hkv
      have e0 : wr.cell? ⟨w.heap.size, k, none⟩ = some (.int .i64 V[k]) := by rw [HB.out.cell k]; exact ncells_at _ _ _
      have HX : Hid (i64B V[k]) := HZ.out _ (List.getElem_mem hkv)
      have l0 := HB.out.lt
      have HP := Lib.hid hpk
      clear hpk
      generalize V[k] = x at *
      clear hkv
      by_cases hx : x = 0
      · subst hx
        have HS2 : Hid (dupTo V (k + 1) = false) := by unfold Hid; rw [dupTo_succ, HA.out, HP.out]; rfl
        have HN : Hid (HeldIs wr (w.heap.size + 1) (k + 1) (hf V (k + 1))) := (HH.out.congr (hf_skip HP.out)).more (Nat.le_succ _)
        go_wp2_with fail
        go_roundw
        case rel => exact ⟨k + 1, by omega, by go_num, HS2.out, HB.out, HN.out, HW.out⟩
        case measure => simp [intOf]; omega
      · have hxb : (x == 0) = false := by simpa using hx
        have hpn : pl V k ≠ 0 := by rw [HP.out]; exact hx
        have HI := Lib.hid (hf_is hpn)
        by_cases hd : dupAt V k k = true
        · have hr : res = true := by rw [← HRES.out, dup_to hpn hd h8]
          subst hr
          have hf1 : hf V k x = 1 := by rw [← HP.out, HI.out, if_pos hd]
          have HF := Lib.hid hf1
          clear hf1 hd hpn
          go_wp2_with (first | (at_lookup; refine wpList_value rfl (exec_held _ _ rfl rfl HH.out x rfl HX.out) ?_; rw [HF.out]) | (refine wpList_store_held rfl (.tmp 15) (.tmp 16) (.tmp 18) rfl rfl HH.out x 2 rfl rfl HX.out (by omega) ?_; intro W hW hT; have HW1 := Lib.hid hW; have HT1 := Lib.hid hT; clear hW hT) | (at_lookup; refine wpList_value rfl (exec_held _ _ rfl rfl HW1.out x rfl HX.out) ?_; rw [if_pos rfl]))
          go_ret
          exact ⟨rfl, turned_below HW.out HT1.out (Nat.le_succ _)⟩
        · have hf1 : hf V k x = 0 := by rw [← HP.out, HI.out, if_neg hd]
          have HF := Lib.hid hf1
          have HS2 : Hid (dupTo V (k + 1) = false) := by
            unfold Hid
            rw [dupTo_succ, HA.out, Bool.not_eq_true _ |>.mp hd, Bool.and_false, Bool.or_false]
          have HN := Lib.hid (hf_new hpn)
          rw [HP.out] at HN
          clear hf1 hd hpn
          go_wp2_with (first | (at_lookup; refine wpList_value rfl (exec_held _ _ rfl rfl HH.out x rfl HX.out) ?_; rw [HF.out]) | (refine wpList_store_held rfl (.tmp 15) (.tmp 16) (.tmp 18) rfl rfl HH.out x 1 rfl rfl HX.out (by omega) ?_; intro W hW hT; have HW1 := Lib.hid hW; have HT1 := Lib.hid hT; clear hW hT) | (at_lookup; refine wpList_value rfl (exec_held _ _ rfl rfl HW1.out x rfl HX.out) ?_; rw [if_pos rfl]))
          go_roundw
          case rel => exact ⟨k + 1, by omega, by go_num, HS2.out, HB.out.of_block (HT1.out.grown.block _ HB.out.lt (by simp)), HW1.out.congr HN.out, turned_below HW.out HT1.out (Nat.le_succ _)⟩
          case measure => simp [intOf]; omega
    · have h8i : ¬ (k : Int) < 8 := by omega
      have hr : res = false := by
        have := HA.out
        rw [show k = 8 by omega, HRES.out] at this
        exact this
      subst hr
      go_wp2_with fail
      go_ret
      exact ⟨rfl, HW.out⟩
end Go.Proofs.Ytklmgdiaianlbaa.im

/- What the program's Check of an image does. -/
namespace Go.Proofs.Ytklmgdiaianlbaa.im
open Go Go.RowKit Go.Proofs.Ytklmgdiaianlbaa.ib
set_option maxRecDepth 100000

/-! ### Check -/
theorem vol_pl (l : List Int) (h : l.length ≤ 8) (j : Nat) : pl (vol l 0) j = pl l j := by
  by_cases hj : j < 8
  · rw [pl_at (by rw [vol_len]; exact hj), vol_get, Nat.zero_add]
  · rw [pl_out (by rw [vol_len]; omega), pl_out (by omega)]
theorem vol_bad (l : List Int) (h : l.length ≤ 8) (n : Int) : (vol l 0).any (badP n) = l.any (badP n) := by
  rw [Bool.eq_iff_iff, List.any_eq_true, List.any_eq_true]
  constructor
  · rintro ⟨z, hz, hb⟩
    obtain ⟨i, hi, rfl⟩ := List.getElem_of_mem hz
    rw [vol_get, Nat.zero_add] at hb
    by_cases hl : i < l.length
    · rw [pl_at hl] at hb
      exact ⟨_, List.getElem_mem hl, hb⟩
    · rw [pl_out (by omega)] at hb
      cases hb
  · rintro ⟨z, hz, hb⟩
    obtain ⟨i, hi, rfl⟩ := List.getElem_of_mem hz
    have h8 : i < (vol l 0).length := by rw [vol_len]; omega
    refine ⟨_, List.getElem_mem h8, ?_⟩
    rw [vol_get, Nat.zero_add, pl_at hi]
    exact hb
theorem vol_dup (l : List Int) (h : l.length ≤ 8) : dupTo (vol l 0) 8 = dupTo l l.length := by
  have e : ∀ i k, dupAt (vol l 0) i k = dupAt l i k := by
    intro i k
    unfold dupAt
    simp only [vol_pl l h]
  have e2 : ∀ k, dupTo (vol l 0) k = dupTo l k := by
    intro k
    unfold dupTo
    simp only [vol_pl l h, e]
  rw [e2]
  have e3 : ∀ m, dupTo l (l.length + m) = dupTo l l.length := by
    intro m
    induction m with
    | zero => rfl
    | succ m ih =>
      rw [← Nat.add_assoc, dupTo_succ, ih, pl_out (by omega)]
      simp
  have := e3 (8 - l.length)
  rw [show l.length + (8 - l.length) = 8 by omega] at this
  exact this

/-- A volume in a block of its own, that was made and then written. -/
theorem vol_put {w W : World} (hb : Below w.heap.size w W) (V : List Int) (hv : V.length = 8) :
    Blk (W.alloc (.cells #[.int .i64 0, .int .i64 0, .int .i64 0, .int .i64 0, .int .i64 0, .int .i64 0, .int .i64 0, .int .i64 0] 82)) W.heap.size 82 (ncells (List.replicate 8 0)) ∧
    (W.alloc (.cells #[.int .i64 0, .int .i64 0, .int .i64 0, .int .i64 0, .int .i64 0, .int .i64 0, .int .i64 0, .int .i64 0] 82)).setRow W.heap.size (ncells V) = W.alloc (.cells (ncells V) 82) ∧
    Blk (W.alloc (.cells (ncells V) 82)) W.heap.size 82 (ncells V) ∧ Below w.heap.size w (W.alloc (.cells (ncells V) 82)) :=
  ⟨Blk.new _ _ _, World.setRow_alloc_new _ _ _ _, Blk.new _ _ _, hb.alloc hb.size _⟩

set_option maxHeartbeats 3200000 in
theorem hcheck_any (A : Option Addr) (c : Nat) (l : List Int) (b n : Int) (w : World) (hs : SlAt w A l c) (hl : l.length ≤ 1000) (hb : i64B b) (hn : i64B n) :
    Calls Try.prog 40 #[.slice A l.length c, .int .i64 b, .int .i64 n] w (endI (iCheck l b n) w) := by
  have HP := Lib.hid hs.ints
  have HM := Lib.hid hs.ints.mem
  obtain ⟨res, hres⟩ : ∃ r, iCheck l b n = r := ⟨_, rfl⟩
  rw [hres]
  unfold iCheck at hres
  clear hs
  by_cases h0 : b < 1
  · rw [if_pos (.inl h0)] at hres
    subst hres
    go_enter Try.func40, Try.ntmps40
    go_wp2_with fail
    go_ret
    exact ⟨rfl, Below.refl _ _⟩
  by_cases h1 : 8 < b
  · rw [if_pos (.inr (.inl h1))] at hres
    subst hres
    go_enter Try.func40, Try.ntmps40
    go_wp2_with fail
    go_ret
    exact ⟨rfl, Below.refl _ _⟩
  by_cases h2 : (l.length : Int) = b
  · rw [if_neg (by omega)] at hres
    have hlb : ((l.length : Int) != b) = false := by rw [h2]; simp
    have h8 : l.length ≤ 8 := by omega
    rw [← vol_bad l h8 n, ← vol_dup l h8] at hres
    have HRES := Lib.hid hres
    have HV := Lib.hid (vol_len l 0)
    have HB := Lib.hid (vol_bound HM.out 0)
    have HC := Lib.hid (volumeAt_any A c l 0 w HP.out hl (by omega))
    obtain ⟨V, hV⟩ : ∃ x, vol l 0 = x := ⟨_, rfl⟩
    rw [hV] at HRES HV HB HC
    clear hres h2 hV
    go_enter Try.func40, Try.ntmps40
    go_wp2_with fail
    refine HC.out.mono ?_
    rintro e W ⟨rfl, hw⟩
    obtain ⟨k0, k1, k2, k3⟩ := vol_put hw V HV.out
    have K0 := Lib.hid k0
    have K1 := Lib.hid k1
    have K2 := Lib.hid k2
    have K3 := Lib.hid k3
    clear k0 k1 k2 k3 hw
    go_wp2_with (first | (refine wpList_skip rfl (exec_store_vol (.tmp 7) (.tmp 21) rfl rfl rfl K0.out (by decide) HV.out) ?_; rw [K1.out]) | (refine wpList_value rfl (exec_load_vol (.tmp 7) rfl rfl K2.out HV.out) ?_))
    obtain ⟨W2, hW2⟩ : ∃ x, W.alloc (.cells (ncells V) 82) = x := ⟨_, rfl⟩
    rw [hW2] at K2 K3 ⊢
    refine (lieBelow_any V HV.out n W2).mono ?_
    rintro e W3 ⟨rfl, hb3⟩
    have HB3 := Lib.hid (below_step K3.out hb3)
    have K4 := Lib.hid (K2.out.below hb3)
    clear hb3
    cases hbad : V.any (badP n)
    · have hres := HRES.out
      rw [hbad, if_neg (by decide)] at hres
      have HRES2 := Lib.hid hres
      clear hres hbad hW2
      go_wp2_with (refine wpList_value rfl (exec_load_vol (.tmp 7) rfl rfl K4.out HV.out) ?_)
      refine (haveTwice_any V HV.out HB.out W3).mono ?_
      rintro e W4 ⟨rfl, hb4⟩
      have HB4 := Lib.hid (below_step HB3.out hb4)
      clear hb4
      cases hd : dupTo V 8
      · have hres := HRES2.out
        rw [hd, if_neg (by decide)] at hres
        subst hres
        clear hd
        go_wp2_with fail
        go_ret
        exact ⟨rfl, HB4.out⟩
      · have hres := HRES2.out
        rw [hd, if_pos rfl] at hres
        subst hres
        clear hd
        go_wp2_with fail
        go_ret
        exact ⟨rfl, HB4.out⟩
    · have hres := HRES.out
      rw [hbad, if_pos rfl] at hres
      subst hres
      clear hbad hW2
      go_wp2_with fail
      go_ret
      exact ⟨rfl, HB3.out⟩
  · rw [if_pos (.inr (.inr h2))] at hres
    subst hres
    have hlb : ((l.length : Int) != b) = true := by simpa using h2
    clear h2
    go_enter Try.func40, Try.ntmps40
    go_wp2_with fail
    go_ret
    exact ⟨rfl, Below.refl _ _⟩
end Go.Proofs.Ytklmgdiaianlbaa.im

/- Two tokens, two snapshots: are they alike, as the program tells it; is a token none; may it be. -/
namespace Go.Proofs.Ytklmgdiaianlbaa.mt.pg
open Go Go.RowKit Go.Proofs.Ytklmgdiaianlbaa.ib Go.Proofs.Ytklmgdiaianlbaa.wi Go.Proofs.Ytklmgdiaianlbaa.im Go.Proofs.Ytklmgdiaianlbaa.mt
set_option maxRecDepth 100000

def snC (x : Sp) (A : Option Addr) (c : Nat) : Array Value := #[.int .u64 (x.g.1 : Int), .int .u64 (x.g.2 : Int), .slice A x.img.length c, .bool x.hid]
def tkC (x : Tk) (A : Option Addr) (c : Nat) : Array Value := #[.int .u64 (x.base.1 : Int), .int .u64 (x.base.2 : Int), .int .u64 (x.target.1 : Int), .int .u64 (x.target.2 : Int), .int .i64 x.next, .int .i64 x.all, .slice A x.img.length c]
theorem sp_eq (x y : Sp) : x = y ↔ x.g = y.g ∧ x.hid = y.hid ∧ x.img = y.img := by cases x; cases y; simp; intro _; exact and_comm
theorem tk_eq (x y : Tk) : x = y ↔ x.base = y.base ∧ x.target = y.target ∧ x.next = y.next ∧ x.all = y.all ∧ x.img = y.img := by cases x; cases y; simp
theorem gd_ne {x y : Gd} (h : x ≠ y) : (¬ x.1 = y.1) ∨ (x.1 = y.1 ∧ ¬ x.2 = y.2) := by
  by_cases e1 : x.1 = y.1
  · exact .inr ⟨e1, fun e2 => h (Prod.ext e1 e2)⟩
  · exact .inl e1
/-- Two values in blocks of their own. -/
theorem two_boxes (w : World) (t : TypeId) (X Y : Array Value) (W : World) (hW : (w.alloc (.cells X t)).alloc (.cells Y t) = W) : Blk W w.heap.size t X ∧ Blk W (w.heap.size + 1) t Y ∧ Below w.heap.size w W := by
  subst hW
  have h1 := (Below.refl _ w).alloc (Nat.le_refl _) (.cells X t)
  have h2 := (Below.refl _ (w.alloc (.cells X t))).alloc (Nat.le_refl _) (.cells Y t)
  have h3 := Blk.new (w.alloc (.cells X t)) t Y
  rw [show (w.alloc (.cells X t)).heap.size = w.heap.size + 1 from by simp] at h3
  exact ⟨(Blk.new w t X).below h2, h3, below_step h1 h2⟩

set_option maxHeartbeats 3200000 in
theorem sameToken_any (x y : Tk) (A B : Option Addr) (c d : Nat) (w : World) (hx : SlAt w A x.img c) (hy : SlAt w B y.img d) (hl : x.img.length ≤ 1000) :
    Calls Try.prog 54 #[.agg (tkC x A c), .agg (tkC y B d)] w (endB (decide (x = y)) w) := by
  obtain ⟨W, hW⟩ : ∃ z, (w.alloc (.cells (tkC x A c) 28)).alloc (.cells (tkC y B d) 28) = z := ⟨_, rfl⟩
  have htw := two_boxes w 28 (tkC x A c) (tkC y B d) W hW
  obtain ⟨hA, hB, hb⟩ := htw
  have HXI := Lib.hid (hx.below hb)
  have HYI := Lib.hid (hy.below hb)
  have HB := Lib.hid hb
  have HL := Lib.hid hl
  clear hx hy hl hb
  have x0 := hA.cell 0
  have x1 := hA.cell 1
  have x2 := hA.cell 2
  have x3 := hA.cell 3
  have x4 := hA.cell 4
  have x5 := hA.cell 5
  have x6 := hA.cell 6
  have y0 := hB.cell 0
  have y1 := hB.cell 1
  have y2 := hB.cell 2
  have y3 := hB.cell 3
  have y4 := hB.cell 4
  have y5 := hB.cell 5
  have y6 := hB.cell 6
  have hla := hA.lt
  have hlb := hB.lt
  clear hA hB
  unfold tkC at hW ⊢
  simp only [tkC, List.getElem?_toArray, List.getElem?_cons_zero, List.getElem?_cons_succ] at x0 x1 x2 x3 x4 x5 x6 y0 y1 y2 y3 y4 y5 y6
  obtain ⟨res, hres⟩ : ∃ r, decide (x = y) = r := ⟨_, rfl⟩
  rw [hres]
  have HTK : Hid (res = true ↔ x.base = y.base ∧ x.target = y.target ∧ x.next = y.next ∧ x.all = y.all ∧ x.img = y.img) := by unfold Hid; rw [← hres, decide_eq_true_iff, tk_eq]
  have HNO : Hid (¬ (x.base = y.base ∧ x.target = y.target ∧ x.next = y.next ∧ x.all = y.all ∧ x.img = y.img) → res = false) := fun hn => by
    cases hr : res with
    | false => rfl
    | true => exact absurd (HTK.out.1 hr) hn
  clear hres
  go_enter Try.func54, Try.ntmps54
  go_upto_region 1 with fail
  try rw [hW]
  clear hW
  by_cases hg : x.base = y.base
  case' neg =>
    have hr := HNO.out (fun e => hg e.1)
    have HR := Lib.hid hr
    have hgn := gd_ne hg
    clear hr hg
    rcases hgn with hgn | ⟨hgn, hgn2⟩
    · go_wp2_with fail
      go_ret
      exact ⟨by rw [HR.out]; rfl, HB.out⟩
    · go_wp2_with fail
      go_ret
      exact ⟨by rw [HR.out]; rfl, HB.out⟩
  rw [← hg] at y0 y1
  have HG0 := Lib.hid hg
  clear hg
  by_cases hg : x.target = y.target
  case' neg =>
    have hr := HNO.out (fun e => hg e.2.1)
    have HR := Lib.hid hr
    have hgn := gd_ne hg
    clear hr hg
    rcases hgn with hgn | ⟨hgn, hgn2⟩
    · go_wp2_with fail
      go_ret
      exact ⟨by rw [HR.out]; rfl, HB.out⟩
    · go_wp2_with fail
      go_ret
      exact ⟨by rw [HR.out]; rfl, HB.out⟩
  rw [← hg] at y2 y3
  have HG2 := Lib.hid hg
  clear hg
  by_cases hg : x.next = y.next
  case' neg =>
    have hr := HNO.out (fun e => hg e.2.2.1)
    have HR := Lib.hid hr
    clear hr
    go_wp2_with fail
    go_ret
    exact ⟨by rw [HR.out]; rfl, HB.out⟩
  rw [← hg] at y4
  have HG4 := Lib.hid hg
  clear hg
  by_cases hg : x.all = y.all
  case' neg =>
    have hr := HNO.out (fun e => hg e.2.2.2.1)
    have HR := Lib.hid hr
    clear hr
    go_wp2_with fail
    go_ret
    exact ⟨by rw [HR.out]; rfl, HB.out⟩
  rw [← hg] at y5
  have HG5 := Lib.hid hg
  clear hg
  go_wp2_with fail
  refine (equal_any A B c d x.img y.img W HXI.out.ints HYI.out.ints (by have := HL.out; omega)).mono ?_
  rintro e W9 ⟨rfl, hb9⟩
  have HB9 := Lib.hid (below_step HB.out hb9)
  have hr : decide (x.img = y.img) = res := by
    cases hr : res with
    | true => exact decide_eq_true (HTK.out.1 hr).2.2.2.2
    | false =>
      rw [decide_eq_false_iff_not]
      intro h
      rw [HTK.out.2 ⟨HG0.out, HG2.out, HG4.out, HG5.out, h⟩] at hr
      cases hr
  rw [hr]
  clear hr hb9
  go_wp2_with fail
  go_ret
  exact ⟨rfl, HB9.out⟩
end Go.Proofs.Ytklmgdiaianlbaa.mt.pg


/- MtOne, MtWkP, SlotsN. -/
import Derived.Test.YtklmgdiaianlbaaQ6
import Derived.Test.YtklmgdiaianlbaaQ9
import Derived.Great.BuildSlice
set_option linter.unusedVariables false
set_option linter.unusedSimpArgs false
/- The statements' own table, and what its memory is. -/
namespace Go.Proofs.Ytklmgdiaianlbaa.mt
open Go Go.RowKit Go.Proofs.Ytklmgdiaianlbaa.ib Go.Proofs.Ytklmgdiaianlbaa.wi
set_option maxRecDepth 100000

theorem oi_blk {w : World} {b B : Nat} {zs : List Int} (h : Blk w b 3 (ncells zs)) (hB : B ≤ b) (hl : zs.length ≤ 1000) : OInts w B (.slice (some ⟨b, 0, none⟩) zs.length zs.length) zs :=
  ⟨by simp, .inr ⟨b, zs.length, ncells zs, rfl, hB, h, Nat.le_refl _, by unfold maxLen; omega, by simp [ncells], by rw [List.take_of_length_le (by simp [ncells])]; rfl⟩⟩
theorem osn_blk {w : World} {b B : Nat} {xs : List OSn} (h : Blk w b 48 (spRow xs).toArray) (hB : B ≤ b) (hl : xs.length ≤ 1000) (hi : ∀ x ∈ xs, OInts w B x.2 x.1.img) : OSns w B (.slice (some ⟨b, 0, none⟩) xs.length xs.length) xs :=
  ⟨⟨spRow_len xs, .inr ⟨b, xs.length, (spRow xs).toArray, rfl, hB, h, Nat.le_refl _, by unfold maxLen; omega, by simp [spRow_len], by rw [List.take_of_length_le (by simp [spRow_len])]⟩⟩, hi⟩

theorem lguid_any (e c : Nat) (w : World) : Calls Try.prog 19 #[.int .u64 (e : Int), .int .u64 (c : Int)] w fun x w' => x = .returned (gv (e, c)) ∧ Below w.heap.size w w' := by
  go_enter Try.func19, Try.ntmps19
  go_wp2_with fail
  have q0 : (w.alloc (.cells #[.int .u64 (e : Int), .int .u64 (c : Int)] 26)).cell? ⟨w.heap.size, 0, none⟩ = some (.int .u64 (e : Int)) := (Blk.new w _ _).cell 0
  have q1 : (w.alloc (.cells #[.int .u64 (e : Int), .int .u64 (c : Int)] 26)).cell? ⟨w.heap.size, 1, none⟩ = some (.int .u64 (c : Int)) := (Blk.new w _ _).cell 1
  refine bodyPost_ret (v := gv (e, c)) (by simp [results, Try.results19, go_sem, q0, q1, gv]) rfl ?_
  exact ⟨rfl, (Below.refl w.heap.size w).alloc (Nat.le_refl _) _⟩

theorem fin_of {w W : World} {v0 v1 v2 u0 u1 u2 : Value} {l : List Int} {xs : List OSn} {t t' : Tk} (h0 : OInts W w.heap.size v0 l) (h1 : OSns W w.heap.size v1 xs) (h2 : OInts W w.heap.size v2 t.img) (hr : Blk W w.heap.size 30 (mC u0 u1 u2 t')) (hb : Below w.heap.size w W) (hf : okMt0 l (xs.map (·.1))) (ht : okTk0 t) :
    Blk (setMt W w.heap.size v0 v1 v2 t) w.heap.size 30 (mC v0 v1 v2 t) ∧ MtAt (setMt W w.heap.size v0 v1 v2 t) (.agg (mC v0 v1 v2 t)) ⟨l, xs.map (·.1), t⟩ ∧ Below w.heap.size w (setMt W w.heap.size v0 v1 v2 t) := by
  have hk := setMt_kp (v0 := v0) (v1 := v1) (v2 := v2) (t := t) hr
  exact ⟨setMt_blk hr, mtat_of (oi_kp h0 hk (by decide)) (h1.kp hk (by decide) (by decide)) (oi_kp h2 hk (by decide)) hf ht, setMt_below hb (Nat.le_refl _)⟩
theorem okOne : okMt0 [193] [⟨(1, 2), [193], false⟩] := by
  have h1 : okInts [193] := fun z hz => by simp only [List.mem_singleton] at hz; subst hz; decide
  exact ⟨h1, fun x hx => by simp only [List.mem_singleton] at hx; subst hx; exact ⟨h1, ⟨by decide, by decide⟩, by decide⟩, by decide, by decide⟩
def mOne : Mt := ⟨[193], [⟨(1, 2), [193], false⟩], tk0⟩
def endV (m : Mt) (w : World) (e : Ending) (w' : World) : Prop := ∃ v, e = .returned v ∧ MtAt w' v m ∧ Below w.heap.size w w'
set_option maxHeartbeats 3200000 in
theorem one_any (w : World) : Calls Try.prog 45 #[] w (endV mOne w) := by
  have hb1 := (Below.refl w.heap.size w).alloc (Nat.le_refl _) (.cells #[.slice none 0 0, .slice none 0 0, .int .u64 0, .int .u64 0, .int .u64 0, .int .u64 0, .int .i64 0, .int .i64 0, .slice none 0 0] 30)
  have hr1 : Blk _ w.heap.size 30 (mC nlS nlS nlS tk0) := Blk.new w 30 #[.slice none 0 0, .slice none 0 0, .int .u64 0, .int .u64 0, .int .u64 0, .int .u64 0, .int .i64 0, .int .i64 0, .slice none 0 0]
  obtain ⟨W1, hW1⟩ : ∃ z, w.alloc (.cells #[.slice none 0 0, .slice none 0 0, .int .u64 0, .int .u64 0, .int .u64 0, .int .u64 0, .int .i64 0, .int .i64 0, .slice none 0 0] 30) = z := ⟨_, rfl⟩
  rw [hW1] at hb1 hr1
  have hbb := (Below.refl _ W1).alloc (Nat.le_refl _) (.cells #[.int .i64 193] 3)
  have hi2 := Blk.new W1 3 (ncells [193])
  have hl1 := hr1.lt
  obtain ⟨W2, hW2⟩ : ∃ z, W1.alloc (.cells #[.int .i64 193] 3) = z := ⟨_, rfl⟩
  rw [show W1.alloc (.cells (ncells [193]) 3) = W2 from hW2] at hi2
  rw [hW2] at hbb
  have HB2 := Lib.hid (below_step hb1 hbb)
  have HR2 := Lib.hid (hr1.below hbb)
  have HI2 := Lib.hid (oi_blk hi2 (B := w.heap.size) hb1.size (by decide))
  clear hb1 hr1 hbb hi2
  go_enter Try.func45, Try.ntmps45
  go_wp2_with fail
  try rw [hW2]
  obtain ⟨g1, hg1⟩ : ∃ z, W1.heap.size = z := ⟨_, rfl⟩
  rw [hg1] at HI2 ⊢
  clear hW1 hW2 hg1 hl1
  refine (lguid_any 1 2 W2).mono ?_
  rintro e W3 ⟨rfl, hb3⟩
  have HB3 := Lib.hid (below_step HB2.out hb3)
  have HR3 := Lib.hid (HR2.out.below hb3)
  have HI3 := Lib.hid (oi_below HI2.out hb3)
  clear hb3 HB2 HR2 HI2
  unfold gv
  have hb4 := (Below.refl _ W3).alloc (Nat.le_refl _) (.cells #[.int .i64 193] 3)
  have hi4 := Blk.new W3 3 (ncells [193])
  have hz4 : (W3.alloc (.cells #[.int .i64 193] 3)).heap.size = W3.heap.size + 1 := by simp
  obtain ⟨W4, hW4⟩ : ∃ z, W3.alloc (.cells #[.int .i64 193] 3) = z := ⟨_, rfl⟩
  rw [show W3.alloc (.cells (ncells [193]) 3) = W4 from hW4] at hi4
  rw [hW4] at hb4 hz4
  have HB4 := Lib.hid (below_step HB3.out hb4)
  have HI4 := Lib.hid (oi_blk hi4 (B := w.heap.size) HB3.out.size (by decide))
  have hb5 := (Below.refl _ W4).alloc (Nat.le_refl _) (.cells #[.int .u64 1, .int .u64 2, .slice (some ⟨W3.heap.size, 0, none⟩) 1 1, .bool false] 48)
  have hs5 := Blk.new W4 48 (spRow [((⟨(1, 2), [193], false⟩ : Sp), .slice (some ⟨W3.heap.size, 0, none⟩) 1 1)]).toArray
  obtain ⟨W5, hW5⟩ : ∃ z, W4.alloc (.cells #[.int .u64 1, .int .u64 2, .slice (some ⟨W3.heap.size, 0, none⟩) 1 1, .bool false] 48) = z := ⟨_, rfl⟩
  rw [show W4.alloc (.cells (spRow [((⟨(1, 2), [193], false⟩ : Sp), .slice (some ⟨W3.heap.size, 0, none⟩) 1 1)]).toArray 48) = W5 from hW5] at hs5
  rw [hW5] at hb5
  have HB5 := Lib.hid (below_step HB4.out hb5)
  have hr5 := (HR3.out.below hb4).below hb5
  have HI5 := Lib.hid (oi_below (oi_below HI3.out hb4) hb5)
  have HX5 : Hid (OSns W5 w.heap.size (.slice (some ⟨W4.heap.size, 0, none⟩) 1 1) [((⟨(1, 2), [193], false⟩ : Sp), .slice (some ⟨W3.heap.size, 0, none⟩) 1 1)]) :=
    osn_blk hs5 (by rw [hz4]; have := HB3.out.size; omega) (by simp) (by
      intro x hx
      simp only [List.mem_singleton] at hx
      subst hx
      exact oi_below HI4.out hb5)
  have HR5 := Lib.hid hr5
  have r0 := hr5.cell 0
  have r1 := hr5.cell 1
  have r2 := hr5.cell 2
  have r3 := hr5.cell 3
  have r4 := hr5.cell 4
  have r5 := hr5.cell 5
  have r6 := hr5.cell 6
  have r7 := hr5.cell 7
  have r8 := hr5.cell 8
  have f0 := hr5.frozen 0
  have f1 := hr5.frozen 1
  have f2 := hr5.frozen 2
  have f3 := hr5.frozen 3
  have f4 := hr5.frozen 4
  have f5 := hr5.frozen 5
  have f6 := hr5.frozen 6
  have f7 := hr5.frozen 7
  have f8 := hr5.frozen 8
  simp only [mC, nlS, List.getElem?_toArray, List.getElem?_cons_zero, List.getElem?_cons_succ] at r0 r1 r2 r3 r4 r5 r6 r7 r8
  have hltr := hr5.lt
  clear hi4 hz4 hb4 hb5 hs5 hr5 HR3 HI3 HI4 HB3 HB4
  go_wp2_with fail
  show bodyPost _ _ _ _ _ (setMt W5 w.heap.size (.slice (some ⟨g1, 0, none⟩) 1 1) (.slice (some ⟨W4.heap.size, 0, none⟩) 1 1) nlS tk0)
  have hfi := fin_of HI5.out HX5.out (oi_nil W5 w.heap.size) HR5.out HB5.out okOne okTk00
  obtain ⟨WF, hWF⟩ : ∃ z, setMt W5 w.heap.size (.slice (some ⟨g1, 0, none⟩) 1 1) (.slice (some ⟨W4.heap.size, 0, none⟩) 1 1) nlS tk0 = z := ⟨_, rfl⟩
  have hfi2 : Blk WF w.heap.size 30 (mC (.slice (some ⟨g1, 0, none⟩) 1 1) (.slice (some ⟨W4.heap.size, 0, none⟩) 1 1) nlS tk0) ∧ MtAt WF (.agg (mC (.slice (some ⟨g1, 0, none⟩) 1 1) (.slice (some ⟨W4.heap.size, 0, none⟩) 1 1) nlS tk0)) mOne ∧ Below w.heap.size w WF := by rw [← hWF]; exact hfi
  rw [hWF]
  have HFI := Lib.hid hfi2
  have hfb := hfi2.1
  clear hfi hWF hfi2 r0 r1 r2 r3 r4 r5 r6 r7 r8 f0 f1 f2 f3 f4 f5 f6 f7 f8 hltr
  have e0 := hfb.cell 0
  have e1 := hfb.cell 1
  have e2 := hfb.cell 2
  have e3 := hfb.cell 3
  have e4 := hfb.cell 4
  have e5 := hfb.cell 5
  have e6 := hfb.cell 6
  have e7 := hfb.cell 7
  have e8 := hfb.cell 8
  simp [mC, nlS, tk0] at e0 e1 e2 e3 e4 e5 e6 e7 e8
  refine bodyPost_ret (v := .agg (mC (.slice (some ⟨g1, 0, none⟩) 1 1) (.slice (some ⟨W4.heap.size, 0, none⟩) 1 1) nlS tk0)) (by simp [results, Try.results45, go_sem, mC, nlS, tk0, e0, e1, e2, e3, e4, e5, e6, e7, e8]) rfl ?_
  exact ⟨_, rfl, HFI.out.2.1, HFI.out.2.2⟩
end Go.Proofs.Ytklmgdiaianlbaa.mt

/- The statements' own table: its bytes; that it may be. -/
namespace Go.Proofs.Ytklmgdiaianlbaa.mt
open Go Go.RowKit Go.Proofs.Ytklmgdiaianlbaa.im Go.Proofs.Ytklmgdiaianlbaa.wi
set_option maxRecDepth 100000
def bOne : List UInt8 := [1, 1, 1, 193, 1, 1, 1, 1, 1, 2, 0, 1, 193, 0]
theorem wk_enc : mEnc mOne = (bOne, 0) := by decide +kernel
theorem wk_chk : mCheck mOne 1 194 = 0 := by decide +kernel
end Go.Proofs.Ytklmgdiaianlbaa.mt

/- As SlotsI, where an operation may yield into no slot (a store). Nothing here speaks of the program. -/
namespace Go.Proofs.Ytklmgdiaianlbaa
open Go Go.RowKit
set_option maxRecDepth 100000

/-- As stepTo, a store too. -/
def stepToS (P : Program) (K : Value → World → Prop) : Result Next → Prop
  | .ok (.value v) w' => K v w'
  | .ok .skip w' => K undef w'
  | .ok (.enter f args) w' => Calls P f args w' fun e w'' => ∃ v, e = .returned v ∧ K v w''
  | _ => False

theorem wp_of_stepToS {P : Program} {o : Oper} {a : Act} {w : World} {Q : Exit → Act → World → Prop} {K : Value → World → Prop} {next : Act → World → Prop} (h : stepToS P K ((execOp a.eval o).run P w)) (hn : ∀ v w', K v w' → next (a.put o.dst v) w') : o.wp P a w next Q := by
  unfold Oper.wp
  generalize (execOp a.eval o).run P w = r at *
  cases r with
  | ok n w' =>
    cases n <;> simp only [stepToS] at h <;> simp only [Oper.upon]
    case value v => exact hn _ _ h
    case skip => exact hn _ _ h
    case enter f args =>
      refine h.mono fun e w'' he => ?_
      obtain ⟨v, rfl, hk⟩ := he
      exact hn _ _ hk
  | halt x w' => simp only [stepToS] at h

theorem stepToS_value {P : Program} {o : Oper} {ρ : Operand → Value} {w w' : World} {v : Value} {K : Value → World → Prop} (h : (execOp ρ o).run P w = .ok (.value v) w') (hk : K v w') : stepToS P K ((execOp ρ o).run P w) := by
  rw [h]; exact hk
theorem stepToS_skip {P : Program} {o : Oper} {ρ : Operand → Value} {w w' : World} {K : Value → World → Prop} (h : (execOp ρ o).run P w = .ok .skip w') (hk : K undef w') : stepToS P K ((execOp ρ o).run P w) := by
  rw [h]; exact hk

section
variable {P : Program} {ops : Array Oper} {Q : Exit → Act → World → Prop}

/-- As slotsGB, but an operation may yield into no slot at all (a store): its own slot is then one that the frame has not. -/
def slotsNB (ops : Array Oper) (ds : List Tmp) (size : Nat) : Bool :=
  decide (ds.length = ops.size) && decide ds.Nodup &&
  (List.range ops.size).all (fun i => match ops[i]? with
    | some o => (match o.dst with | some d => decide (ds[i]? = some d) && decide (d < size) | none => (match ds[i]? with | some d => decide (size ≤ d) | none => false)) && (match o.op with | .select .. => false | _ => true) &&
      o.after.all (fun e => !Region.binds .any e || decide (e.on < i)) &&
      (match o.guard with | none => true | some g => afterB ops i g.1 && (match ops[g.1]? with | some q => q.dst.isSome | none => false)) &&
      o.op.operands.toList.all (fun x => match x with
        | .tmp t => match ds.idxOf? t with
          | some j => afterB ops i j && decide (t < size)
          | none => true
        | _ => true)
    | none => false)

structure SlotsN (ops : Array Oper) (ds : List Tmp) (size : Nat) : Prop where
  len : ds.length = ops.size
  nodup : ds.Nodup
  each : ∀ i, i < ops.size → ∃ o d, ops[i]? = some o ∧ ds[i]? = some d ∧ ((o.dst = some d ∧ d < size) ∨ (o.dst = none ∧ size ≤ d)) ∧ (∀ cs b, o.op ≠ .select cs b) ∧ (∀ e ∈ o.after, Region.binds .any e = true → e.on < i) ∧
    (∀ j want, o.guard = some (j, want) → afterB ops i j = true ∧ ∃ q, ops[j]? = some q ∧ q.dst.isSome = true) ∧ (∀ t j, Operand.tmp t ∈ o.op.operands → ds.idxOf? t = some j → afterB ops i j = true ∧ t < size)

theorem slotsN_ok {ds : List Tmp} {size : Nat} (h : slotsNB ops ds size = true) : SlotsN ops ds size := by
  unfold slotsNB at h
  simp only [Bool.and_eq_true, decide_eq_true_eq, List.all_eq_true, List.mem_range] at h
  obtain ⟨⟨h2, h3⟩, h5⟩ := h
  refine ⟨h2, h3, fun i hi => ?_⟩
  have h := h5 i hi
  cases ho : ops[i]? with
  | none => simp [ho] at h
  | some o =>
    simp only [ho, Bool.and_eq_true] at h
    obtain ⟨⟨⟨⟨g2, g3⟩, g4⟩, g1⟩, g5⟩ := h
    have hd : ∃ d, ds[i]? = some d := ⟨ds[i]'(by omega), List.getElem?_eq_getElem _⟩
    obtain ⟨d, hd⟩ := hd
    refine ⟨o, d, rfl, hd, ?_, fun cs b hs => by simp [hs] at g3, fun e he hb => ?_, fun j want hg => ?_, fun t j ht hj => ?_⟩
    · cases hq : o.dst with
      | some d' =>
        rw [hq] at g2
        simp only [Bool.and_eq_true, decide_eq_true_eq] at g2
        rw [hd] at g2
        obtain ⟨g2a, g2b⟩ := g2
        injection g2a with g2a
        subst g2a
        exact .inl ⟨rfl, g2b⟩
      | none =>
        rw [hq, hd] at g2
        simp only [decide_eq_true_eq] at g2
        exact .inr ⟨rfl, g2⟩
    · have := Array.all_eq_true_iff_forall_mem.1 g4 e he
      simpa [hb] using this
    · rw [hg] at g1
      simp only [Bool.and_eq_true] at g1
      refine ⟨g1.1, ?_⟩
      have g1b := g1.2
      cases hq : ops[j]? with
      | none => rw [hq] at g1b; cases g1b
      | some q => rw [hq] at g1b; exact ⟨q, rfl, g1b⟩
    · have := List.all_eq_true.1 g5 (.tmp t) (by simpa using ht)
      simpa [hj] using this

theorem put_beyond (a : Act) (d : Tmp) (v : Value) (h : a.tmps.size ≤ d) : a.put none v = a.put (some d) v := by
  unfold Act.put
  simp only
  congr 1
  rw [Array.setIfInBounds_eq_of_size_le h]

structure NInv (ops : Array Oper) (a0 : Act) (ds : List Tmp) (I : (Nat → Bool) → (Nat → Value) → World → Prop) (listed : Array Bool) (vs : Nat → Value) (a : Act) (w : World) : Prop where
  size : listed.size = ops.size
  act : a = putSel (fun i => listed.getD i false) vs ds 0 a0
  inv : I (fun i => listed.getD i false) vs w

variable {a0 : Act} {ds : List Tmp} {I : (Nat → Bool) → (Nat → Value) → World → Prop}

theorem idx_getN {t : Tmp} {j : Nat} (hj : ds.idxOf? t = some j) : ds[j]? = some t := by
  have := List.of_findIdx?_eq_some (p := (· == t)) (xs := ds) (i := j) (by simpa [List.idxOf?] using hj)
  cases hd : ds[j]? with
  | none => simp [hd] at this
  | some d => simp [hd] at this; rw [this]

theorem ninv_go (ok : SlotsN ops ds a0.tmps.size)
    (step : ∀ i o L vs ρ w, ops[i]? = some o → L i = false → (∀ j, afterB ops i j = true → L j = true) → ReadsF a0 ds vs ρ → (∀ j want, o.guard = some (j, want) → vs j = .bool want) → I L vs w →
      stepToS P (fun v w' => I (updB L i) (updV vs i v) w') ((execOp ρ o).run P w))
    (skip : ∀ i o L vs w j want, ops[i]? = some o → L i = false → (∀ j, afterB ops i j = true → L j = true) → o.guard = some (j, want) → vs j ≠ .bool want → I L vs w → I (updB L i) (updV vs i undef) w)
    (fin : ∀ vs w', I (fun j => decide (j < ops.size)) vs w' → Q .normal (putList vs ds a0) w') :
    ∀ (r : Nat) (listed : Array Bool) (vs : Nat → Value) (a : Act) (w : World), NInv ops a0 ds I listed vs a w → toCome ops.size listed = r → wpAny P .any ops Q r listed a w
  | 0, listed, vs, a, w, hI, hr => by
    have hall := toCome_zero hr
    have hn : Region.ready .any ops listed = [] := by
      apply List.eq_nil_iff_forall_not_mem.2
      intro i hi
      obtain ⟨hun, o, ho, _⟩ := mem_ready.1 hi
      have hio : i < ops.size := (Array.getElem?_eq_some_iff.1 ho).1
      have := hall i hio
      rw [getD_false_true (by rw [hI.size]; exact hio)] at hun
      rw [this] at hun
      cases hun
    have ha : a = putList vs ds a0 := by
      rw [hI.act]
      exact putSel_congr _ _ _ _ ds 0 a0 fun j _ hj => ⟨hall j (by rw [← ok.len]; omega), fun _ => rfl⟩
    have hL : (fun i => listed.getD i false) = fun j => decide (j < ops.size) := by
      funext j
      by_cases hj : j < ops.size
      · rw [hall j hj, decide_eq_true hj]
      · rw [decide_eq_false hj]
        simp [Array.getD, hI.size, hj]
    rw [ha]
    have h2 := hI.inv
    rw [hL] at h2
    exact wpAny_done hn (fin vs w h2) 0
  | r + 1, listed, vs, a, w, hI, hr => by
    refine ⟨fun h0 => ?_, fun i hi => ?_⟩
    · exfalso
      have hex : ∃ i, i < ops.size ∧ listed.getD i false = false := by
        apply Classical.byContradiction
        intro hn
        have : toCome ops.size listed = 0 := by
          unfold toCome
          rw [List.countP_eq_zero]
          intro i hi
          have hi' := List.mem_range.1 hi
          cases hb : listed.getD i false
          · exact absurd ⟨i, hi', hb⟩ hn
          · simp
        omega
      have key : ∀ n i, i < n → i < ops.size → listed.getD i false = false → False := by
        intro n
        induction n with
        | zero => intro i h; omega
        | succ n ih =>
          intro i hin him hf
          obtain ⟨o, _, ho, _, _, _, hlow, _⟩ := ok.each i him
          have hs : i < listed.size := by rw [hI.size]; exact him
          have : i ∈ Region.ready .any ops listed := by
            rw [mem_ready]
            refine ⟨by rw [getD_false_true hs]; exact hf, o, ho, fun e he hb => ?_⟩
            cases hb' : listed.getD e.on false
            · exact (ih e.on (by have := hlow e he hb; omega) (by have := hlow e he hb; omega) hb').elim
            · rfl
          rw [h0] at this
          cases this
      obtain ⟨i, him, hf⟩ := hex
      exact key (i + 1) i (by omega) him hf
    · obtain ⟨hun, o, ho, hall⟩ := mem_ready.1 hi
      have him : i < ops.size := (Array.getElem?_eq_some_iff.1 ho).1
      have hs : i < listed.size := by rw [hI.size]; exact him
      have hf : listed.getD i false = false := by rw [← getD_false_true hs]; exact hun
      obtain ⟨o', d, ho', hd, hdst, hsel, hlow, hgrd, hopn⟩ := ok.each i him
      obtain rfl : o = o' := Option.some.inj (ho.symm.trans ho')
      have haft : ∀ j, afterB ops i j = true → listed.getD j false = true := fun j hj => by
        obtain ⟨e, he, hb, rfl⟩ := afterB_iff ho hj
        exact hall e he hb
      have hread : ∀ t j, ds[j]? = some t → t < a0.tmps.size → listed.getD j false = true → a.eval (.tmp t) = vs j := fun t j hdj hts hl => by
        rw [hI.act]
        have := putSel_in (fun i => listed.getD i false) vs t ds 0 j a0 ok.nodup hdj (by simpa using hl) hts
        simpa using this
      have hnext : ∀ v w', I (updB (fun i => listed.getD i false) i) (updV vs i v) w' → wpAny P .any ops Q r (listed.setIfInBounds i true) (a.put o.dst v) w' := by
        intro v w' h
        refine ninv_go ok step skip fin r (listed.setIfInBounds i true) (updV vs i v) (a.put o.dst v) w' ⟨by simp [hI.size], ?_, ?_⟩ ?_
        · have hput : a.put o.dst v = a.put (some d) v := by
            rcases hdst with ⟨e, _⟩ | ⟨e, hs2⟩
            · rw [e]
            · rw [e]
              exact put_beyond a d v (by rw [hI.act, putSel_size]; exact hs2)
          rw [hput, hI.act]
          have := putSel_set (fun i => listed.getD i false) vs i v ds 0 a0 d ok.nodup (Nat.zero_le _) (by simpa using hd) hf
          rw [this, updB_listed hs]
        · rw [← updB_listed hs]
          exact h
        · have := toCome_set him hs hf
          omega
      have hyield : ∀ j want, o.guard = some (j, want) → yielded ops a.tmps j = (match vs j with | .bool b => some b | _ => none) := by
        intro j want hg
        obtain ⟨hj, q, hq1, hq2⟩ := hgrd j want hg
        obtain ⟨e, he, hb, he2⟩ := afterB_iff ho hj
        have hji : j < i := by rw [← he2]; exact hlow e he hb
        obtain ⟨oj, t, hoj, hdj2, hdj, _⟩ := ok.each j (by omega)
        obtain rfl : q = oj := Option.some.inj (hq1.symm.trans hoj)
        have hdj3 : q.dst = some t ∧ t < a0.tmps.size := by
          rcases hdj with h | ⟨h, _⟩
          · exact h
          · rw [h] at hq2; cases hq2
        obtain ⟨hdj, hts⟩ := hdj3
        have hr := hread t j hdj2 hts (haft j hj)
        unfold yielded
        rw [hoj]
        simp only [Option.bind_some, hdj, hdj2]
        have he : a.eval (.tmp t) = a.tmps.getD t undef := rfl
        rw [he] at hr
        cases hx : a.tmps[t]? with
        | none =>
          have : a.tmps.getD t undef = undef := by simp [Array.getD_eq_getD_getElem?, hx]
          rw [← hr, this]
          rfl
        | some x =>
          have : a.tmps.getD t undef = x := by simp [Array.getD_eq_getD_getElem?, hx]
          rw [← hr, this]
          cases x <;> rfl
      unfold wpOp
      simp only [ho]
      by_cases hw : Region.wanted o (yielded ops a.tmps) = true
      · rw [if_pos hw]
        left
        have hρ : execOp a.eval o = execOp (valOf a0 ds vs) o := by
          refine execOp_congr o hsel fun x hx => ?_
          cases x with
          | tmp t =>
            cases hj : ds.idxOf? t with
            | none =>
              rw [valOf_none hj, hI.act]
              exact putSel_out _ _ t ds 0 a0 (by rw [List.idxOf?_eq_none_iff] at hj; exact hj)
            | some j =>
              rw [valOf_some hj]
              exact hread t j (idx_getN hj) (hopn t j hx hj).2 (haft j (hopn t j hx hj).1)
          | const v => simp only [valOf]; rfl
          | global g => simp only [valOf]; rfl
          | func f => simp only [valOf]; rfl
        have hst := step i o (fun i => listed.getD i false) vs (valOf a0 ds vs) w ho hf haft ⟨fun _ _ h => valOf_some h, fun _ h => valOf_none h, fun _ => rfl, fun _ => rfl⟩ (fun j want hg => by
          have hy := hyield j want hg
          unfold Region.wanted at hw
          rw [hg] at hw
          simp only [hy] at hw
          cases hv : vs j <;> rw [hv] at hw <;> simp at hw
          rw [hw]) hI.inv
        rw [← hρ] at hst
        exact wp_of_stepToS hst fun v w' h => hnext v w' h
      · rw [if_neg hw]
        cases hg : o.guard with
        | none => exact absurd (by simp [Region.wanted, hg]) hw
        | some g =>
          obtain ⟨j, want⟩ := g
          refine hnext undef w (skip i o _ vs w j want ho hf haft hg (fun hv => hw ?_) hI.inv)
          have hy := hyield j want hg
          unfold Region.wanted
          rw [hg]
          simp only [hy, hv]
          simp

/-- THE RULE. -/
theorem wp_region_invN {id : Nat} {a : Act} {w : World} (hm : P.follows .mixedOrders = true) (ds : List Tmp) (hok : slotsNB ops ds a.tmps.size = true) (I : (Nat → Bool) → (Nat → Value) → World → Prop)
    (start : I (fun _ => false) (fun _ => undef) w.drew)
    (step : ∀ i o L vs ρ w, ops[i]? = some o → L i = false → (∀ j, afterB ops i j = true → L j = true) → ReadsF a ds vs ρ → (∀ j want, o.guard = some (j, want) → vs j = .bool want) → I L vs w →
      stepToS P (fun v w' => I (updB L i) (updV vs i v) w') ((execOp ρ o).run P w))
    (skip : ∀ i o L vs w j want, ops[i]? = some o → L i = false → (∀ j, afterB ops i j = true → L j = true) → o.guard = some (j, want) → vs j ≠ .bool want → I L vs w → I (updB L i) (updV vs i undef) w)
    (fin : ∀ vs w', I (fun j => decide (j < ops.size)) vs w' → Q .normal (putList vs ds a) w') :
    (Code.region id ops true).wp P Q a w := by
  have ok := slotsN_ok hok
  refine wp_region_any hm ?_
  have h0 : toCome ops.size (Array.replicate ops.size false) = ops.size := by
    have := List.countP_eq_length (l := List.range ops.size) (p := fun i => !(Array.replicate ops.size false).getD i false) |>.2 fun i _ => by rw [rep_false]; rfl
    unfold toCome
    rw [this, List.length_range]
  have hf : (fun i => (Array.replicate ops.size false).getD i false) = fun _ => false := by
    funext i
    exact rep_false _ i
  refine ninv_go ok step skip fin ops.size (Array.replicate ops.size false) (fun _ => undef) a _ ⟨by simp, ?_, ?_⟩ h0
  · rw [hf]
    exact (putSel_none ds 0 a).symm
  · rw [hf]
    exact start
end
end Go.Proofs.Ytklmgdiaianlbaa


/- SlotsI, SlotsF, MgAb, ImVol. -/
import Derived.Test.YtklmgdiaianlbaaQ0
import Derived.Test.YtklmgdiaianlbaaQ3
import Derived.Test.YtklmgdiaianlbaaQ5
import Derived.LoopTactic
import Derived.ChangeKeysEq
import Derived.Deep.WholeRow
import Derived.Laws.StructEq
set_option linter.unusedVariables false
set_option linter.unusedSimpArgs false
/- A region that draws its order, told by one word on what is listed, the values and the world; guarded operations too. One step an operation, whatever the order. Nothing here speaks of the program. -/
namespace Go.Proofs.Ytklmgdiaianlbaa
open Go Go.RowKit
set_option maxRecDepth 100000

section
variable {P : Program} {ops : Array Oper} {Q : Exit → Act → World → Prop}

def slotsGB (ops : Array Oper) (ds : List Tmp) (size : Nat) : Bool :=
  decide (ds.length = ops.size) && decide ds.Nodup && ds.all (fun d => decide (d < size)) &&
  (List.range ops.size).all (fun i => match ops[i]? with
    | some o => o.dst == ds[i]? && (match o.op with | .select .. => false | _ => true) &&
      o.after.all (fun e => !Region.binds .any e || decide (e.on < i)) &&
      (match o.guard with | none => true | some g => afterB ops i g.1) &&
      o.op.operands.toList.all (fun x => match x with
        | .tmp t => match ds.idxOf? t with
          | some j => afterB ops i j
          | none => true
        | _ => true)
    | none => false)

structure SlotsG (ops : Array Oper) (ds : List Tmp) (size : Nat) : Prop where
  len : ds.length = ops.size
  nodup : ds.Nodup
  small : ∀ d ∈ ds, d < size
  each : ∀ i, i < ops.size → ∃ o, ops[i]? = some o ∧ o.dst = ds[i]? ∧ (∀ cs b, o.op ≠ .select cs b) ∧ (∀ e ∈ o.after, Region.binds .any e = true → e.on < i) ∧
    (∀ j want, o.guard = some (j, want) → afterB ops i j = true) ∧ (∀ t j, Operand.tmp t ∈ o.op.operands → ds.idxOf? t = some j → afterB ops i j = true)

theorem slotsG_ok {ds : List Tmp} {size : Nat} (h : slotsGB ops ds size = true) : SlotsG ops ds size := by
  unfold slotsGB at h
  simp only [Bool.and_eq_true, decide_eq_true_eq, List.all_eq_true, List.mem_range] at h
  obtain ⟨⟨⟨h2, h3⟩, h4⟩, h5⟩ := h
  refine ⟨h2, h3, h4, fun i hi => ?_⟩
  have h := h5 i hi
  cases ho : ops[i]? with
  | none => simp [ho] at h
  | some o =>
    simp only [ho, Bool.and_eq_true] at h
    obtain ⟨⟨⟨⟨g2, g3⟩, g4⟩, g1⟩, g5⟩ := h
    refine ⟨o, rfl, by simpa using g2, fun cs b hs => by simp [hs] at g3, fun e he hb => ?_, fun j want hg => ?_, fun t j ht hj => ?_⟩
    · have := Array.all_eq_true_iff_forall_mem.1 g4 e he
      simpa [hb] using this
    · simpa [hg] using g1
    · have := List.all_eq_true.1 g5 (.tmp t) (by simpa using ht)
      simpa [hj] using this

/-- What an operation's reader is known to read, a function's name too. -/
structure ReadsF (a : Act) (ds : List Tmp) (vs : Nat → Value) (ρ : Operand → Value) : Prop where
  at_ : ∀ t j, ds.idxOf? t = some j → ρ (.tmp t) = vs j
  out : ∀ t, ds.idxOf? t = none → ρ (.tmp t) = a.eval (.tmp t)
  const : ∀ v, ρ (.const v) = v
  fn : ∀ f, ρ (.func f) = a.eval (.func f)

structure IInv (ops : Array Oper) (a0 : Act) (ds : List Tmp) (I : (Nat → Bool) → (Nat → Value) → World → Prop) (listed : Array Bool) (vs : Nat → Value) (a : Act) (w : World) : Prop where
  size : listed.size = ops.size
  act : a = putSel (fun i => listed.getD i false) vs ds 0 a0
  inv : I (fun i => listed.getD i false) vs w

variable {a0 : Act} {ds : List Tmp} {I : (Nat → Bool) → (Nat → Value) → World → Prop}

theorem idx_get {t : Tmp} {j : Nat} (hj : ds.idxOf? t = some j) : ds[j]? = some t := by
  have := List.of_findIdx?_eq_some (p := (· == t)) (xs := ds) (i := j) (by simpa [List.idxOf?] using hj)
  cases hd : ds[j]? with
  | none => simp [hd] at this
  | some d => simp [hd] at this; rw [this]

theorem inv_go (ok : SlotsG ops ds a0.tmps.size)
    (step : ∀ i o L vs ρ w, ops[i]? = some o → L i = false → (∀ j, afterB ops i j = true → L j = true) → ReadsF a0 ds vs ρ → (∀ j want, o.guard = some (j, want) → vs j = .bool want) → I L vs w →
      stepTo P (fun v w' => I (updB L i) (updV vs i v) w') ((execOp ρ o).run P w))
    (skip : ∀ i o L vs w j want, ops[i]? = some o → L i = false → (∀ j, afterB ops i j = true → L j = true) → o.guard = some (j, want) → vs j ≠ .bool want → I L vs w → I (updB L i) (updV vs i undef) w)
    (fin : ∀ vs w', I (fun j => decide (j < ops.size)) vs w' → Q .normal (putList vs ds a0) w') :
    ∀ (r : Nat) (listed : Array Bool) (vs : Nat → Value) (a : Act) (w : World), IInv ops a0 ds I listed vs a w → toCome ops.size listed = r → wpAny P .any ops Q r listed a w
  | 0, listed, vs, a, w, hI, hr => by
    have hall := toCome_zero hr
    have hn : Region.ready .any ops listed = [] := by
      apply List.eq_nil_iff_forall_not_mem.2
      intro i hi
      obtain ⟨hun, o, ho, _⟩ := mem_ready.1 hi
      have hio : i < ops.size := (Array.getElem?_eq_some_iff.1 ho).1
      have := hall i hio
      rw [getD_false_true (by rw [hI.size]; exact hio)] at hun
      rw [this] at hun
      cases hun
    have ha : a = putList vs ds a0 := by
      rw [hI.act]
      exact putSel_congr _ _ _ _ ds 0 a0 fun j _ hj => ⟨hall j (by rw [← ok.len]; omega), fun _ => rfl⟩
    have hL : (fun i => listed.getD i false) = fun j => decide (j < ops.size) := by
      funext j
      by_cases hj : j < ops.size
      · rw [hall j hj, decide_eq_true hj]
      · rw [decide_eq_false hj]
        simp [Array.getD, hI.size, hj]
    rw [ha]
    have h2 := hI.inv
    rw [hL] at h2
    exact wpAny_done hn (fin vs w h2) 0
  | r + 1, listed, vs, a, w, hI, hr => by
    refine ⟨fun h0 => ?_, fun i hi => ?_⟩
    · exfalso
      have hex : ∃ i, i < ops.size ∧ listed.getD i false = false := by
        apply Classical.byContradiction
        intro hn
        have : toCome ops.size listed = 0 := by
          unfold toCome
          rw [List.countP_eq_zero]
          intro i hi
          have hi' := List.mem_range.1 hi
          cases hb : listed.getD i false
          · exact absurd ⟨i, hi', hb⟩ hn
          · simp
        omega
      have key : ∀ n i, i < n → i < ops.size → listed.getD i false = false → False := by
        intro n
        induction n with
        | zero => intro i h; omega
        | succ n ih =>
          intro i hin him hf
          obtain ⟨o, ho, _, _, hlow, _⟩ := ok.each i him
          have hs : i < listed.size := by rw [hI.size]; exact him
          have : i ∈ Region.ready .any ops listed := by
            rw [mem_ready]
            refine ⟨by rw [getD_false_true hs]; exact hf, o, ho, fun e he hb => ?_⟩
            cases hb' : listed.getD e.on false
            · exact (ih e.on (by have := hlow e he hb; omega) (by have := hlow e he hb; omega) hb').elim
            · rfl
          rw [h0] at this
          cases this
      obtain ⟨i, him, hf⟩ := hex
      exact key (i + 1) i (by omega) him hf
    · obtain ⟨hun, o, ho, hall⟩ := mem_ready.1 hi
      have him : i < ops.size := (Array.getElem?_eq_some_iff.1 ho).1
      have hs : i < listed.size := by rw [hI.size]; exact him
      have hf : listed.getD i false = false := by rw [← getD_false_true hs]; exact hun
      obtain ⟨o', ho', hdst, hsel, hlow, hgrd, hopn⟩ := ok.each i him
      obtain rfl : o = o' := Option.some.inj (ho.symm.trans ho')
      have hdi : ∃ d, ds[i]? = some d := ⟨ds[i]'(by rw [ok.len]; exact him), List.getElem?_eq_getElem _⟩
      obtain ⟨d, hd⟩ := hdi
      have haft : ∀ j, afterB ops i j = true → listed.getD j false = true := fun j hj => by
        obtain ⟨e, he, hb, rfl⟩ := afterB_iff ho hj
        exact hall e he hb
      have hread : ∀ t j, ds[j]? = some t → listed.getD j false = true → a.eval (.tmp t) = vs j := fun t j hdj hl => by
        rw [hI.act]
        have := putSel_in (fun i => listed.getD i false) vs t ds 0 j a0 ok.nodup hdj (by simpa using hl) (ok.small t (List.mem_of_getElem? hdj))
        simpa using this
      have hnext : ∀ v w', I (updB (fun i => listed.getD i false) i) (updV vs i v) w' → wpAny P .any ops Q r (listed.setIfInBounds i true) (a.put o.dst v) w' := by
        intro v w' h
        refine inv_go ok step skip fin r (listed.setIfInBounds i true) (updV vs i v) (a.put o.dst v) w' ⟨by simp [hI.size], ?_, ?_⟩ ?_
        · rw [hdst, hd, hI.act]
          have := putSel_set (fun i => listed.getD i false) vs i v ds 0 a0 d ok.nodup (Nat.zero_le _) (by simpa using hd) hf
          rw [this, updB_listed hs]
        · rw [← updB_listed hs]
          exact h
        · have := toCome_set him hs hf
          omega
      have hyield : ∀ j want, o.guard = some (j, want) → yielded ops a.tmps j = (match vs j with | .bool b => some b | _ => none) := by
        intro j want hg
        have hj := hgrd j want hg
        obtain ⟨e, he, hb, he2⟩ := afterB_iff ho hj
        have hji : j < i := by rw [← he2]; exact hlow e he hb
        obtain ⟨oj, hoj, hdj, _⟩ := ok.each j (by omega)
        have hdj2 : ds[j]? = some (ds[j]'(by rw [ok.len]; omega)) := List.getElem?_eq_getElem _
        generalize ds[j]'(by rw [ok.len]; omega) = t at hdj2
        have hr := hread t j hdj2 (haft j hj)
        unfold yielded
        rw [hoj]
        simp only [Option.bind_some, hdj, hdj2]
        have he : a.eval (.tmp t) = a.tmps.getD t undef := rfl
        rw [he] at hr
        cases hx : a.tmps[t]? with
        | none =>
          have : a.tmps.getD t undef = undef := by simp [Array.getD_eq_getD_getElem?, hx]
          rw [← hr, this]
          rfl
        | some x =>
          have : a.tmps.getD t undef = x := by simp [Array.getD_eq_getD_getElem?, hx]
          rw [← hr, this]
          cases x <;> rfl
      unfold wpOp
      simp only [ho]
      by_cases hw : Region.wanted o (yielded ops a.tmps) = true
      · rw [if_pos hw]
        left
        have hρ : execOp a.eval o = execOp (valOf a0 ds vs) o := by
          refine execOp_congr o hsel fun x hx => ?_
          cases x with
          | tmp t =>
            cases hj : ds.idxOf? t with
            | none =>
              rw [valOf_none hj, hI.act]
              exact putSel_out _ _ t ds 0 a0 (by rw [List.idxOf?_eq_none_iff] at hj; exact hj)
            | some j =>
              rw [valOf_some hj]
              exact hread t j (idx_get hj) (haft j (hopn t j hx hj))
          | const v => simp only [valOf]; rfl
          | global g => simp only [valOf]; rfl
          | func f => simp only [valOf]; rfl
        have hst := step i o (fun i => listed.getD i false) vs (valOf a0 ds vs) w ho hf haft ⟨fun _ _ h => valOf_some h, fun _ h => valOf_none h, fun _ => rfl, fun _ => rfl⟩ (fun j want hg => by
          have hy := hyield j want hg
          unfold Region.wanted at hw
          rw [hg] at hw
          simp only [hy] at hw
          cases hv : vs j <;> rw [hv] at hw <;> simp at hw
          rw [hw]) hI.inv
        rw [← hρ] at hst
        exact wp_of_stepTo hst fun v w' h => hnext v w' h
      · rw [if_neg hw]
        cases hg : o.guard with
        | none => exact absurd (by simp [Region.wanted, hg]) hw
        | some g =>
          obtain ⟨j, want⟩ := g
          refine hnext undef w (skip i o _ vs w j want ho hf haft hg (fun hv => hw ?_) hI.inv)
          have hy := hyield j want hg
          unfold Region.wanted
          rw [hg]
          simp only [hy, hv]
          simp

/-- THE RULE. -/
theorem wp_region_inv {id : Nat} {a : Act} {w : World} (hm : P.follows .mixedOrders = true) (ds : List Tmp) (hok : slotsGB ops ds a.tmps.size = true) (I : (Nat → Bool) → (Nat → Value) → World → Prop)
    (start : I (fun _ => false) (fun _ => undef) w.drew)
    (step : ∀ i o L vs ρ w, ops[i]? = some o → L i = false → (∀ j, afterB ops i j = true → L j = true) → ReadsF a ds vs ρ → (∀ j want, o.guard = some (j, want) → vs j = .bool want) → I L vs w →
      stepTo P (fun v w' => I (updB L i) (updV vs i v) w') ((execOp ρ o).run P w))
    (skip : ∀ i o L vs w j want, ops[i]? = some o → L i = false → (∀ j, afterB ops i j = true → L j = true) → o.guard = some (j, want) → vs j ≠ .bool want → I L vs w → I (updB L i) (updV vs i undef) w)
    (fin : ∀ vs w', I (fun j => decide (j < ops.size)) vs w' → Q .normal (putList vs ds a) w') :
    (Code.region id ops true).wp P Q a w := by
  have ok := slotsG_ok hok
  refine wp_region_any hm ?_
  have h0 : toCome ops.size (Array.replicate ops.size false) = ops.size := by
    have := List.countP_eq_length (l := List.range ops.size) (p := fun i => !(Array.replicate ops.size false).getD i false) |>.2 fun i _ => by rw [rep_false]; rfl
    unfold toCome
    rw [this, List.length_range]
  have hf : (fun i => (Array.replicate ops.size false).getD i false) = fun _ => false := by
    funext i
    exact rep_false _ i
  refine inv_go ok step skip fin ops.size (Array.replicate ops.size false) (fun _ => undef) a _ ⟨by simp, ?_, ?_⟩ h0
  · rw [hf]
    exact (putSel_none ds 0 a).symm
  · rw [hf]
    exact start
end

theorem putSel_defers (L : Nat → Bool) (vs : Nat → Value) : ∀ (ds : List Tmp) (k : Nat) (a : Act), (putSel L vs ds k a).defers = a.defers
  | [], _, _ => rfl
  | d :: ds, k, a => by
    simp only [putSel]
    rw [putSel_defers L vs ds]
    split <;> rfl

/-- The end of a body behind such a region: one slot is what is answered; the list of slots stays folded. -/
theorem bodyPost_slot {P : Program} {fn : Func} {R : Ending → World → Prop} {a : Act} {ds : List Tmp} {vs : Nat → Value} {w : World} {t : Tmp} {v : Value} (j : Nat) (hres : fn.results = #[.tmp t])
    (hB : (decide ds.Nodup && decide (ds[j]? = some t)) = true) (hs : decide (t < a.tmps.size) = true) (hd : a.defers = []) (hv : vs j = v) (hR : R (.returned v) w) : bodyPost P fn R .ret (putList vs ds a) w := by
  simp only [Bool.and_eq_true, decide_eq_true_eq] at hB hs
  refine bodyPost_ret (v := v) ?_ ((putSel_defers _ _ _ _ _).trans hd) hR
  rw [results_tmp hres]
  congr 1
  have := putSel_in (fun _ => true) vs t ds 0 j a hB.1 hB.2 rfl hs
  rw [Nat.zero_add, hv] at this
  exact this
end Go.Proofs.Ytklmgdiaianlbaa

/- The rule of slots with a reader that knows functions; a step that enters a callee. -/
namespace Go.Proofs.Ytklmgdiaianlbaa
open Go Go.RowKit
set_option maxRecDepth 100000

theorem stepTo_enter {P : Program} {o : Oper} {ρ : Operand → Value} {w w' : World} {f : FuncId} {args : Array Value} {K : Value → World → Prop} (h : (execOp ρ o).run P w = .ok (.enter f args) w') (hk : Calls P f args w' fun e w'' => ∃ v, e = .returned v ∧ K v w'') : stepTo P K ((execOp ρ o).run P w) := by
  rw [h]
  exact hk

theorem wp_region_slots_f {P : Program} {ops : Array Oper} {Q : Exit → Act → World → Prop} {id : Nat} {a : Act} {w : World} (hm : P.follows .mixedOrders = true) (m : Nat) (ds : List Tmp) (hok : slotsB ops m ds a.tmps.size = true) (G : Nat → Value → World → Prop)
    (mono : ∀ i v w w', i < m → G i v w → Below w.heap.size w w' → G i v w')
    (step : ∀ i o vs ρ w', i < m → ops[i]? = some o → Reads a ds vs ρ → (∀ f, ρ (.func f) = a.eval (.func f)) → Below w.heap.size w w' → (∀ j, afterB ops i j = true → G j (vs j) w') →
      stepTo P (fun v w'' => Below w'.heap.size w' w'' ∧ G i v w'') ((execOp ρ o).run P w'))
    (fin : ∀ vs w', Below w.heap.size w w' → (∀ i, i < m → G i (vs i) w') → wpAny P .any ops Q (ops.size - m) (listedTo ops.size m) (putList vs ds a) w') :
    (Code.region id ops true).wp P Q a w :=
  wp_region_slots hm m ds hok G mono (fun i o vs w' hi ho hb hG => step i o vs (valOf a ds vs) w' hi ho ⟨fun _ _ h => valOf_some h, fun _ h => valOf_none h, fun _ => rfl⟩ (fun _ => rfl) hb hG) fin

end Go.Proofs.Ytklmgdiaianlbaa

/- Is a guid above another one, as the program tells it. -/
namespace Go.Proofs.Ytklmgdiaianlbaa.mt.pg
open Go Go.RowKit Go.Proofs.Ytklmgdiaianlbaa.ib Go.Proofs.Ytklmgdiaianlbaa.wi Go.Proofs.Ytklmgdiaianlbaa.mt
set_option maxRecDepth 100000

def AbG (g0 g1 a1 a2 b1 b2 : Nat) (x y z : Int) : Nat → Value → World → Prop
  | 0, v, _ => v = .pointer (some ⟨g0, 0, none⟩)
  | 1, v, _ => v = .int .u64 (a1 : Int)
  | 2, v, _ => v = .pointer (some ⟨g1, 0, none⟩)
  | 3, v, _ => v = .int .u64 (b1 : Int)
  | 4, v, _ => v = .int .i64 (x)
  | 5, v, _ => v = .pointer (some ⟨g0, 1, none⟩)
  | 6, v, _ => v = .int .u64 (a2 : Int)
  | 7, v, _ => v = .pointer (some ⟨g1, 1, none⟩)
  | 8, v, _ => v = .int .u64 (b2 : Int)
  | 9, v, _ => v = .int .i64 (y)
  | 10, v, W => ∃ B, v = .slice (some ⟨B, 0, none⟩) 2 2 ∧ IntsAt W (some ⟨B, 0, none⟩) [x, y]
  | 11, v, _ => v = .int .i64 z
  | 12, v, _ => v = .bool (decide (0 < z))
  | 13, v, _ => v = .bool (decide (0 < z))
  | _, _, _ => True
theorem AbG_mono (g0 g1 a1 a2 b1 b2 : Nat) (x y z : Int) (i : Nat) (v : Value) (w w' : World) (hi : i < 14) (h : AbG g0 g1 a1 a2 b1 b2 x y z i v w) (hb : Below w.heap.size w w') : AbG g0 g1 a1 a2 b1 b2 x y z i v w' := by
  match i, hi, h with
  | 0, _, h | 1, _, h | 2, _, h | 3, _, h | 4, _, h | 5, _, h | 6, _, h | 7, _, h | 8, _, h | 9, _, h | 11, _, h | 12, _, h | 13, _, h => exact h
  | 10, _, ⟨B, hv, h2⟩ => exact ⟨B, hv, h2.below hb⟩
  | j + 14, hi, _ => exact absurd hi (by omega)

theorem cmpI_i64 (a b : Nat) : i64B (cmpI a b) := by unfold cmpI i64B; split <;> (try split) <;> omega
set_option maxHeartbeats 3200000 in
theorem above_any (a b : Gd) (w : World) : Calls Try.prog 41 #[gv a, gv b] w (endB (above a b) w) := by
  have HR : Hid (decide (0 < (if cmpI a.1 b.1 ≠ 0 then cmpI a.1 b.1 else cmpI a.2 b.2)) = above a b) := (above_cmp a b).symm
  obtain ⟨r, hr⟩ : ∃ r, above a b = r := ⟨_, rfl⟩
  rw [hr] at HR ⊢
  clear hr
  obtain ⟨a1, a2⟩ := a
  obtain ⟨b1, b2⟩ := b
  dsimp only at HR
  show Calls Try.prog 41 #[.agg #[.int .u64 (a1 : Int), .int .u64 (a2 : Int)], .agg #[.int .u64 (b1 : Int), .int .u64 (b2 : Int)]] w _
  have HC1 : Hid (∀ W, Calls Try.prog 65 #[.int .u64 (a1 : Int), .int .u64 (b1 : Int)] W (same (.int .i64 (cmpI a1 b1)) W)) := fun W => cmp_any a1 b1 W
  have HC2 : Hid (∀ W, Calls Try.prog 65 #[.int .u64 (a2 : Int), .int .u64 (b2 : Int)] W (same (.int .i64 (cmpI a2 b2)) W)) := fun W => cmp_any a2 b2 W
  have hz : ∀ z ∈ [cmpI a1 b1, cmpI a2 b2], i64B z := by
    intro z hz
    simp only [List.mem_cons, List.not_mem_nil, or_false] at hz
    rcases hz with rfl | rfl
    · exact cmpI_i64 _ _
    · exact cmpI_i64 _ _
  generalize cmpI a1 b1 = x at *
  generalize cmpI a2 b2 = y at *
  have HC3 : Hid (∀ W B, IntsAt W (some ⟨B, 0, none⟩) [x, y] → Calls Try.prog 64 #[.slice (some ⟨B, 0, none⟩) 2 2] W (same (.int .i64 (if x ≠ 0 then x else y)) W)) := fun W B h => or_any ⟨B, 0, none⟩ 2 x y W h
  generalize (if x ≠ 0 then x else y) = z at *
  have hb1 := (Below.refl w.heap.size w).alloc (Nat.le_refl _) (.cells #[.int .u64 (a1 : Int), .int .u64 (a2 : Int)] 26)
  have ha1 := Blk.new w 26 #[.int .u64 (a1 : Int), .int .u64 (a2 : Int)]
  obtain ⟨W1, hW1⟩ : ∃ z, w.alloc (.cells #[.int .u64 (a1 : Int), .int .u64 (a2 : Int)] 26) = z := ⟨_, rfl⟩
  rw [hW1] at hb1 ha1
  have hbb := (Below.refl _ W1).alloc (Nat.le_refl _) (.cells #[.int .u64 (b1 : Int), .int .u64 (b2 : Int)] 26)
  have HB := Lib.hid (below_step hb1 hbb)
  have HA0 := Lib.hid (ha1.below hbb)
  have HB0 := Lib.hid (Blk.new W1 26 #[.int .u64 (b1 : Int), .int .u64 (b2 : Int)])
  obtain ⟨w0, hw0⟩ : ∃ z, W1.alloc (.cells #[.int .u64 (b1 : Int), .int .u64 (b2 : Int)] 26) = z := ⟨_, rfl⟩
  rw [hw0] at HB HA0 HB0
  obtain ⟨g0, hg0⟩ : ∃ g, w.heap.size = g := ⟨_, rfl⟩
  obtain ⟨g1, hg1⟩ : ∃ g, W1.heap.size = g := ⟨_, rfl⟩
  clear hb1 ha1 hbb
  have HZ := Lib.hid hz
  clear hz
  go_enter Try.func41, Try.ntmps41
  go_wp2_with fail
  try rw [hw0]
  try rw [hg0]
  try rw [hg1]
  rw [hg0] at HA0
  rw [hg1] at HB0
  clear hw0 hW1
  have hz := HZ.out
  refine wp_region_inv (by kernel_rfl) [5, 6, 7, 8, 9, 10, 11, 12, 13, 14, 15, 16, 17, 4] (by kernel_rfl) (fun L vs W => Below w0.heap.size w0 W ∧ ∀ i, L i = true → i < 14 → AbG g0 g1 a1 a2 b1 b2 x y z i (vs i) W) ⟨(Below.refl _ _).drew, fun i hi => by cases hi⟩ ?_ ?_ ?_
  · intro i o L vs ρ W ho hli haft hρ hgd hI
    obtain ⟨hb, hG'⟩ := hI
    have hG : ∀ j, L j = true → AbG g0 g1 a1 a2 b1 b2 x y z j (vs j) W := fun j hj => by
      by_cases h51 : j < 14
      · exact hG' j hj h51
      · match j, h51 with
        | j + 14, _ => exact trivial
    have hi51 : i < 14 := (Array.getElem?_eq_some_iff.1 ho).1
    have hc := hρ.const
    have hfn := hρ.fn
    have next : ∀ v W', Below W.heap.size W W' → AbG g0 g1 a1 a2 b1 b2 x y z i v W' → Below w0.heap.size w0 W' ∧ ∀ j, updB L i j = true → j < 14 → AbG g0 g1 a1 a2 b1 b2 x y z j (updV vs i v j) W' := fun v W' h1 h2 => by
      refine ⟨below_step hb h1, fun j hj h51 => ?_⟩
      by_cases hji : j = i
      · subst hji
        simpa [updV] using h2
      · simp only [updB, if_neg hji] at hj
        simpa [updV, hji] using AbG_mono g0 g1 a1 a2 b1 b2 x y z j _ W W' h51 (hG' j hj h51) h1
    have hA := HA0.out.below hb
    have hB := HB0.out.below hb
    have hlt := hA.lt
    have hlt1 := hB.lt
    have c0 := hA.cell 0
    have c1 := hA.cell 1
    have d0 := hB.cell 0
    have d1 := hB.cell 1
    simp only [List.getElem?_toArray, List.getElem?_cons_zero, List.getElem?_cons_succ] at c0 c1 d0 d1
    rcases i with _ | _ | _ | _ | _ | _ | _ | _ | _ | _ | _ | _ | _ | _ | i
    all_goals (first | omega | skip)
    all_goals simp only [List.getElem?_toArray, List.getElem?_cons_zero, List.getElem?_cons_succ, Option.some.injEq] at ho
    all_goals subst ho
    · have o2 : ρ (.tmp 2) = .pointer (some ⟨g0, 0, none⟩) := hρ.out 2 rfl
      exact stepTo_value (w' := W) (by unfold execOp; simp only [o2, hc]; go_simp) (next _ _ (Below.refl _ _) rfl)
    · have g5 : AbG g0 g1 a1 a2 b1 b2 x y z 0 (vs 0) W := hG 0 (haft 0 (by kernel_rfl))
      have s5 : ρ (.tmp 5) = .pointer (some ⟨g0, 0, none⟩) := (hρ.at_ 5 0 rfl).trans g5
      exact stepTo_value (w' := W) (by unfold execOp; simp only [s5, hc]; go_simp) (next _ _ (Below.refl _ _) rfl)
    · have o3 : ρ (.tmp 3) = .pointer (some ⟨g1, 0, none⟩) := hρ.out 3 rfl
      exact stepTo_value (w' := W) (by unfold execOp; simp only [o3, hc]; go_simp) (next _ _ (Below.refl _ _) rfl)
    · have g7 : AbG g0 g1 a1 a2 b1 b2 x y z 2 (vs 2) W := hG 2 (haft 2 (by kernel_rfl))
      have s7 : ρ (.tmp 7) = .pointer (some ⟨g1, 0, none⟩) := (hρ.at_ 7 2 rfl).trans g7
      exact stepTo_value (w' := W) (by unfold execOp; simp only [s7, hc]; go_simp) (next _ _ (Below.refl _ _) rfl)
    · have g6 : AbG g0 g1 a1 a2 b1 b2 x y z 1 (vs 1) W := hG 1 (haft 1 (by kernel_rfl))
      have s6 : ρ (.tmp 6) = .int .u64 (a1 : Int) := (hρ.at_ 6 1 rfl).trans g6
      have g8 : AbG g0 g1 a1 a2 b1 b2 x y z 3 (vs 3) W := hG 3 (haft 3 (by kernel_rfl))
      have s8 : ρ (.tmp 8) = .int .u64 (b1 : Int) := (hρ.at_ 8 3 rfl).trans g8
      refine stepTo_enter (f := 65) (args := #[.int .u64 (a1 : Int), .int .u64 (b1 : Int)]) (w' := W) (by unfold execOp; simp only [hfn, s6, s8]; go_simp) ((HC1.out W).mono ?_)
      rintro x W' ⟨rfl, rfl⟩
      exact ⟨_, rfl, next _ _ (Below.refl _ _) rfl⟩
    · have o2 : ρ (.tmp 2) = .pointer (some ⟨g0, 0, none⟩) := hρ.out 2 rfl
      exact stepTo_value (w' := W) (by unfold execOp; simp only [o2, hc]; go_simp) (next _ _ (Below.refl _ _) rfl)
    · have g10 : AbG g0 g1 a1 a2 b1 b2 x y z 5 (vs 5) W := hG 5 (haft 5 (by kernel_rfl))
      have s10 : ρ (.tmp 10) = .pointer (some ⟨g0, 1, none⟩) := (hρ.at_ 10 5 rfl).trans g10
      exact stepTo_value (w' := W) (by unfold execOp; simp only [s10, hc]; go_simp) (next _ _ (Below.refl _ _) rfl)
    · have o3 : ρ (.tmp 3) = .pointer (some ⟨g1, 0, none⟩) := hρ.out 3 rfl
      exact stepTo_value (w' := W) (by unfold execOp; simp only [o3, hc]; go_simp) (next _ _ (Below.refl _ _) rfl)
    · have g12 : AbG g0 g1 a1 a2 b1 b2 x y z 7 (vs 7) W := hG 7 (haft 7 (by kernel_rfl))
      have s12 : ρ (.tmp 12) = .pointer (some ⟨g1, 1, none⟩) := (hρ.at_ 12 7 rfl).trans g12
      exact stepTo_value (w' := W) (by unfold execOp; simp only [s12, hc]; go_simp) (next _ _ (Below.refl _ _) rfl)
    · have g11 : AbG g0 g1 a1 a2 b1 b2 x y z 6 (vs 6) W := hG 6 (haft 6 (by kernel_rfl))
      have s11 : ρ (.tmp 11) = .int .u64 (a2 : Int) := (hρ.at_ 11 6 rfl).trans g11
      have g13 : AbG g0 g1 a1 a2 b1 b2 x y z 8 (vs 8) W := hG 8 (haft 8 (by kernel_rfl))
      have s13 : ρ (.tmp 13) = .int .u64 (b2 : Int) := (hρ.at_ 13 8 rfl).trans g13
      refine stepTo_enter (f := 65) (args := #[.int .u64 (a2 : Int), .int .u64 (b2 : Int)]) (w' := W) (by unfold execOp; simp only [hfn, s11, s13]; go_simp) ((HC2.out W).mono ?_)
      rintro x W' ⟨rfl, rfl⟩
      exact ⟨_, rfl, next _ _ (Below.refl _ _) rfl⟩
    · have g9 : AbG g0 g1 a1 a2 b1 b2 x y z 4 (vs 4) W := hG 4 (haft 4 (by kernel_rfl))
      have s9 : ρ (.tmp 9) = .int .i64 (x) := (hρ.at_ 9 4 rfl).trans g9
      have g14 : AbG g0 g1 a1 a2 b1 b2 x y z 9 (vs 9) W := hG 9 (haft 9 (by kernel_rfl))
      have s14 : ρ (.tmp 14) = .int .i64 (y) := (hρ.at_ 14 9 rfl).trans g14
      exact stepTo_value (v := .slice (some ⟨W.heap.size, 0, none⟩) 2 2) (w' := W.alloc (.cells (ncells [x, y]) 3)) (by unfold execOp; simp only [s9, s14, ncells]; go_simp) (next _ _ ((Below.refl _ W).alloc (Nat.le_refl _) _) ⟨W.heap.size, rfl, nums_new W _ hz⟩)
    · obtain ⟨B15, g15, hh152⟩ : AbG g0 g1 a1 a2 b1 b2 x y z 10 (vs 10) W := hG 10 (haft 10 (by kernel_rfl))
      have s15 : ρ (.tmp 15) = .slice (some ⟨B15, 0, none⟩) 2 2 := (hρ.at_ 15 10 rfl).trans g15
      refine stepTo_enter (f := 64) (args := #[.slice (some ⟨B15, 0, none⟩) 2 2]) (w' := W) (by unfold execOp; simp only [hfn, s15]; go_simp) ((HC3.out W B15 hh152).mono ?_)
      rintro x W' ⟨rfl, rfl⟩
      exact ⟨_, rfl, next _ _ (Below.refl _ _) rfl⟩
    · have g16 : AbG g0 g1 a1 a2 b1 b2 x y z 11 (vs 11) W := hG 11 (haft 11 (by kernel_rfl))
      have s16 : ρ (.tmp 16) = .int .i64 z := (hρ.at_ 16 11 rfl).trans g16
      exact stepTo_value (w' := W) (by unfold execOp; simp only [s16, hc]; go_simp) (next _ _ (Below.refl _ _) rfl)
    · have g17 : AbG g0 g1 a1 a2 b1 b2 x y z 12 (vs 12) W := hG 12 (haft 12 (by kernel_rfl))
      have s17 : ρ (.tmp 17) = .bool (decide (0 < z)) := (hρ.at_ 17 12 rfl).trans g17
      exact stepTo_value (w' := W) (by unfold execOp; simp only [s17, hc]; go_simp) (next _ _ (Below.refl _ _) rfl)
  · intro i o L vs W j want ho hli haft hg hv hI
    obtain ⟨hb, hG'⟩ := hI
    have hG : ∀ j, L j = true → AbG g0 g1 a1 a2 b1 b2 x y z j (vs j) W := fun j hj => by
      by_cases h51 : j < 14
      · exact hG' j hj h51
      · match j, h51 with
        | j + 14, _ => exact trivial
    have hi51 : i < 14 := (Array.getElem?_eq_some_iff.1 ho).1
    rcases i with _ | _ | _ | _ | _ | _ | _ | _ | _ | _ | _ | _ | _ | _ | i
    all_goals (first | omega | skip)
    all_goals simp only [List.getElem?_toArray, List.getElem?_cons_zero, List.getElem?_cons_succ, Option.some.injEq] at ho
    all_goals subst ho
    all_goals simp only [reduceCtorEq, Option.some.injEq, Prod.mk.injEq] at hg
  · intro vs W hI
    have g7 : vs 13 = .bool (decide (0 < z)) := hI.2 13 (by decide) (by decide)
    have hbW := Lib.hid (below_step HB.out hI.1)
    clear hI
    go_wp2_with fail
    refine bodyPost_slot 13 rfl (by decide +kernel) (by kernel_rfl) rfl g7 ⟨by rw [HR.out], hbW.out⟩
end Go.Proofs.Ytklmgdiaianlbaa.mt.pg

/- Volumes: arrays of eight places, by value; what volumeAt does. -/
namespace Go.Proofs.Ytklmgdiaianlbaa.im
open Go Go.RowKit Go.Proofs.Ytklmgdiaianlbaa.ib
set_option maxRecDepth 100000

/-- The first k of eight places from f on; the others are 0. -/
def volK (l : List Int) (f k : Nat) : List Int := (List.range 8).map fun j => if j < k then pl l (f + j) else 0
def vol (l : List Int) (f : Nat) : List Int := volK l f 8
theorem volK_len (l : List Int) (f k : Nat) : (volK l f k).length = 8 := by simp [volK]
theorem vol_len (l : List Int) (f : Nat) : (vol l f).length = 8 := volK_len l f 8
theorem volK_zero (l : List Int) (f : Nat) : volK l f 0 = List.replicate 8 0 := by
  apply List.ext_getElem
  · simp [volK]
  · intro i h1 h2
    rw [List.getElem_replicate]
    simp only [volK, List.getElem_map, Nat.not_lt_zero, if_false]
theorem volK_set (l : List Int) (f k : Nat) : (volK l f k).set k (pl l (f + k)) = volK l f (k + 1) := by
  apply List.ext_getElem
  · simp [volK]
  · intro i h1 h2
    rw [List.getElem_set]
    by_cases h : k = i
    · subst h
      simp [volK]
    · rw [if_neg h]
      simp only [volK, List.getElem_map, List.getElem_range]
      by_cases h3 : i < k
      · rw [if_pos h3, if_pos (by omega)]
      · rw [if_neg h3, if_neg (by omega)]
theorem volK_out {l : List Int} {f k : Nat} (h : l.length ≤ f + k) : volK l f (k + 1) = volK l f k := by
  apply List.ext_getElem
  · simp [volK]
  · intro i h1 h2
    simp only [volK, List.getElem_map, List.getElem_range]
    by_cases h3 : i < k
    · rw [if_pos h3, if_pos (by omega)]
    · by_cases h4 : i = k
      · rw [if_neg h3, if_pos (by omega), pl_out (by omega)]
      · rw [if_neg h3, if_neg (by omega)]
theorem vol_get (l : List Int) (f k : Nat) (h : k < (vol l f).length) : (vol l f)[k] = pl l (f + k) := by
  have h8 : k < 8 := by rw [vol_len] at h; exact h
  simp only [vol, volK, List.getElem_map, List.getElem_range, if_pos h8]
theorem pl_bound {l : List Int} (h : ∀ z ∈ l, i64B z) (i : Nat) : i64B (pl l i) := by
  by_cases hi : i < l.length
  · rw [pl_at hi]
    exact h _ (List.getElem_mem hi)
  · rw [pl_out (by omega)]
    unfold i64B
    omega
theorem vol_bound {l : List Int} (h : ∀ z ∈ l, i64B z) (f : Nat) : ∀ z ∈ vol l f, i64B z := by
  intro z hz
  obtain ⟨i, hi, rfl⟩ := List.getElem_of_mem hz
  rw [vol_get]
  exact pl_bound h _

theorem infoVol : (Try.prog.info? 82).map (·.size) = some 8 := by kernel_rfl
theorem ncells_one (V : List Int) : (ncells V).all (·.oneCell') = true := by
  rw [Array.all_eq_true']
  intro u hu
  simp only [ncells, List.mem_toArray, List.mem_map] at hu
  obtain ⟨z, _, rfl⟩ := hu
  rfl
theorem run_load_vol {w : World} {g : Nat} {V : List Int} (h : Blk w g 82 (ncells V)) (hl : V.length = 8) : (loadVar 82 ⟨g, 0, none⟩).run Try.prog w = .ok (.agg (ncells V)) w :=
  run_loadVar_row w g 82 82 _ (0, 0) _ h Try.underlying82 rfl (by rw [ncells_size, hl]; exact infoVol)
theorem exec_load_vol {ρ : Operand → Value} {o : Oper} {w : World} {g : Nat} {V : List Int} (x : Operand) (ho : o.op = .load 82 x) (hx : ρ x = .pointer (some ⟨g, 0, none⟩)) (h : Blk w g 82 (ncells V)) (hl : V.length = 8) :
    (execOp ρ o).run Try.prog w = .ok (.value (.agg (ncells V))) w := by
  simp only [execOp, ho, hx, Instr.loadAt, Instr.sureAddr, Sem.run_bind, Sem.run_pure, Result.andThen_ok, run_load_vol h hl]
theorem exec_store_vol {ρ : Operand → Value} {o : Oper} {w : World} {g : Nat} {V U : List Int} (x y : Operand) (ho : o.op = .store 82 x y) (hx : ρ x = .pointer (some ⟨g, 0, none⟩)) (hy : ρ y = .agg (ncells U)) (h : Blk w g 82 (ncells V)) (hl : V.length = 8) (hu : U.length = 8) :
    (execOp ρ o).run Try.prog w = .ok .skip (w.setRow g (ncells U)) := by
  simp only [execOp, ho, hx, hy, Instr.storeAt, Instr.sureAddr, Sem.run_bind, Sem.run_pure, Result.andThen_ok, run_storeVar_row w g 82 82 _ _ h (by rw [ncells_size, hu]; exact infoVol) (by rw [ncells_size, ncells_size, hl, hu]) (ncells_one U)]
theorem setRow_at {w : World} {g : Nat} {t : TypeId} {c c' : Array Value} (h : Blk w g t c) : Blk (w.setRow g c') g t c' := by
  unfold Blk at *
  simp [World.setRow, Array.getElem?_modify, h]
theorem setRow_other (w : World) {g k : Nat} (c : Array Value) (h : k ≠ g) : (w.setRow g c).heap[k]? = w.heap[k]? := by
  have h' : ¬ g = k := fun e => h e.symm
  simp [World.setRow, Array.getElem?_modify, h']
theorem setRow_size (w : World) (g : Nat) (c : Array Value) : (w.setRow g c).heap.size = w.heap.size := by simp [World.setRow]
theorem setRow_below {B : Nat} {w w' : World} (h : Below B w w') {g : Nat} (c : Array Value) (hg : B ≤ g) : Below B w (w'.setRow g c) :=
  ⟨h.os, h.tape, h.output, by rw [setRow_size]; exact h.size, fun k hk => by rw [setRow_other _ _ (by omega)]; exact h.block k hk⟩

/-- A volume. -/
def endV (V : List Int) (w : World) (e : Ending) (w' : World) : Prop := e = .returned (.agg (ncells V)) ∧ Below w.heap.size w w'
def VolRel (l : List Int) (f b : Nat) (w : World) (i : Value) (wr : World) : Prop :=
  ∃ k : Nat, k ≤ 8 ∧ i = .int .i64 (k : Int) ∧ Blk wr b 82 (ncells (volK l f k)) ∧ Blk wr w.heap.size 82 (ncells (List.replicate 8 0)) ∧ Below w.heap.size w wr

theorem results_cell1 {fn : Func} {p : Tmp} {ty : TypeId} (h : fn.results = #[.cell p ty]) (tmps : Array Value) (P : Program) (w : World) (a : Addr) (v1 : Value)
    (hp : tmps.getD p undef = .pointer (some a)) (h1 : (loadVar ty a).run P w = .ok v1 w) : (results fn tmps).run P w = .ok v1 w := by
  simp only [results, h]
  simp only [Array.getD_eq_getD_getElem?] at hp
  simp [Sem.run_bind, Result.andThen, asAddr, hp, h1]

set_option maxHeartbeats 3200000 in
theorem volumeAt_any (A : Option Addr) (c : Nat) (l : List Int) (f : Nat) (w : World) (hp : IntsAt w A l) (hl : l.length ≤ 1000) (hf : f ≤ 2000) :
    Calls Try.prog 61 #[.slice A l.length c, .int .i64 (f : Int)] w (endV (vol l f) w) := by
  have HP := Lib.hid hp
  have hsz : (w.alloc (.cells (ncells (List.replicate 8 0)) 82)).heap.size = w.heap.size + 1 := by simp
  have k0 : Blk ((w.alloc (.cells (ncells (List.replicate 8 0)) 82)).alloc (.cells (ncells (List.replicate 8 0)) 82)) (w.heap.size + 1) 82 (ncells (volK l f 0)) := by
    rw [volK_zero, ← hsz]
    exact Blk.new _ _ _
  have k1 : Blk ((w.alloc (.cells (ncells (List.replicate 8 0)) 82)).alloc (.cells (ncells (List.replicate 8 0)) 82)) w.heap.size 82 (ncells (List.replicate 8 0)) := by
    refine (Blk.new w 82 _).of_block (Below.heap_alloc _ _ _ (by rw [hsz]; omega))
  have b0 : Below w.heap.size w ((w.alloc (.cells (ncells (List.replicate 8 0)) 82)).alloc (.cells (ncells (List.replicate 8 0)) 82)) := ((Below.refl _ w).alloc (Nat.le_refl _) _).alloc (by simp) _
  have K0 := Lib.hid k0
  have K1 := Lib.hid k1
  have B0 := Lib.hid b0
  clear hp k0 k1 b0 hsz
  go_enter Try.func61, Try.ntmps61
  go_wp2_with fail
  go_loopw [7] (fun i wr => VolRel l f (w.heap.size + 1) w i wr) (fun i _ => 8 - (intOf i).toNat)
  case atStart => exact ⟨0, by omega, rfl, K0.out, K1.out, B0.out⟩
  case round =>
    clear K0 K1 B0
    obtain ⟨k, hk, rfl, hb, hz, hw⟩ := hrel
    have HB := Lib.hid hb
    have HZ := Lib.hid hz
    have HW := Lib.hid hw
    clear hb hz hw
    by_cases h8 : k < 8
    · have h8i : (k : Int) < 8 := by omega
      by_cases hin : f + k < l.length
      · have hini : (f : Int) + (k : Int) < (l.length : Int) := by omega
        obtain ⟨b, o, rfl, hbl, hc, hz⟩ := HP.out (f + k) hin
        have e0 : wr.cell? ⟨b, o + (f + k), none⟩ = some (.int .i64 l[f + k]) := by rw [HW.out.cell (p := ⟨b, o + (f + k), none⟩) hbl]; exact hc
        have l0 : b < wr.heap.size := Nat.lt_of_lt_of_le hbl HW.out.size
        have q0 := HB.out.frozen k
        obtain ⟨old, q1⟩ : ∃ u, wr.cell? ⟨w.heap.size + 1, k, none⟩ = some u := by
          rw [HB.out.cell k, ncells_at _ k (by rw [volK_len]; exact h8)]
          exact ⟨_, rfl⟩
        have l1 := HB.out.lt
        have HB2 := Lib.hid (fun v => HB.out.set_ k (.int .i64 v))
        have HS := Lib.hid (volK_set l f k)
        rw [pl_at hin] at HS
        clear hc hz hbl
        generalize l[f + k] = x at *
        go_wp2_with fail
        go_roundw
        case rel =>
          refine ⟨k + 1, by omega, by go_num, ?_, HZ.out.of_block (Below.heap_setCell _ _ _ _ (by simp)), HW.out.setCell (p := ⟨w.heap.size + 1, k, none⟩) (Nat.le_succ _) _⟩
          have := HB2.out x
          rw [ncells_set, HS.out] at this
          exact this
        case measure => simp [intOf]; omega
      · have hini : ¬ (f : Int) + (k : Int) < (l.length : Int) := by omega
        have HO := Lib.hid (volK_out (l := l) (f := f) (k := k) (by omega))
        go_wp2_with fail
        go_roundw
        case rel => exact ⟨k + 1, by omega, by go_num, by rw [HO.out]; exact HB.out, HZ.out, HW.out⟩
        case measure => simp [intOf]; omega
    · have h8i : ¬ (k : Int) < 8 := by omega
      obtain rfl : k = 8 := by omega
      have HV := Lib.hid (vol_len l f)
      have HB2 : Hid (Blk wr (w.heap.size + 1) 82 (ncells (vol l f))) := HB.out
      clear HB
      obtain ⟨V, hV⟩ : ∃ x, vol l f = x := ⟨_, rfl⟩
      rw [hV] at HV HB2 ⊢
      have HR := Lib.hid (setRow_at (c' := ncells V) HZ.out)
      have HW2 := Lib.hid (setRow_below HW.out (ncells V) (Nat.le_refl _))
      go_wp2_with (first | (refine wpList_value rfl (exec_load_vol (.tmp 5) rfl rfl HB2.out HV.out) ?_) | (refine wpList_skip rfl (exec_store_vol (.tmp 4) (.tmp 25) rfl rfl rfl HZ.out (by decide) HV.out) ?_))
      exact bodyPost_ret (results_cell1 rfl _ _ _ ⟨w.heap.size, 0, none⟩ _ rfl (run_load_vol HR.out HV.out)) rfl ⟨rfl, HW2.out⟩
end Go.Proofs.Ytklmgdiaianlbaa.im


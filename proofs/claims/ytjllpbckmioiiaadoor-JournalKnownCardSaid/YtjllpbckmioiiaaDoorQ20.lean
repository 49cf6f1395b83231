/- SlotsI. -/
import Derived.Test.YtjllpbckmioiiaaDoorQ2
/- A region that draws its order, told by one word on what is listed, the values and the world; guarded operations too. One step an operation, whatever the order. Nothing here speaks of the program. -/
namespace Go.Proofs.YtjllpbckmioiiaaDoor
open Go Go.RowKit
set_option maxRecDepth 100000

section
variable {P : Program} {ops : Array Oper} {Q : Exit → Act → World → Prop}

def slotsGB (ops : Array Oper) (ds : List Tmp) (size : Nat) : Bool :=
  decide (ds.length = ops.size) && decide ds.Nodup && ds.all (fun d => decide (d < size)) &&
  (List.range ops.size).all (fun i => match ops[i]? with
    | some o => o.dst == ds[i]? && (match o.op with | .select .. => false | _ => true) &&
      o.after.all (fun e => !Region.binds .any e || decide (e.on < i)) &&
      (match o.guard with | none => true | some g => afterB ops i g.1) &&
      o.op.operands.toList.all (fun x => match x with
        | .tmp t => match ds.idxOf? t with
          | some j => afterB ops i j
          | none => true
        | _ => true)
    | none => false)

structure SlotsG (ops : Array Oper) (ds : List Tmp) (size : Nat) : Prop where
  len : ds.length = ops.size
  nodup : ds.Nodup
  small : ∀ d ∈ ds, d < size
  each : ∀ i, i < ops.size → ∃ o, ops[i]? = some o ∧ o.dst = ds[i]? ∧ (∀ cs b, o.op ≠ .select cs b) ∧ (∀ e ∈ o.after, Region.binds .any e = true → e.on < i) ∧
    (∀ j want, o.guard = some (j, want) → afterB ops i j = true) ∧ (∀ t j, Operand.tmp t ∈ o.op.operands → ds.idxOf? t = some j → afterB ops i j = true)

theorem slotsG_ok {ds : List Tmp} {size : Nat} (h : slotsGB ops ds size = true) : SlotsG ops ds size := by
  unfold slotsGB at h
  simp only [Bool.and_eq_true, decide_eq_true_eq, List.all_eq_true, List.mem_range] at h
  obtain ⟨⟨⟨h2, h3⟩, h4⟩, h5⟩ := h
  refine ⟨h2, h3, h4, fun i hi => ?_⟩
  have h := h5 i hi
  cases ho : ops[i]? with
  | none => simp [ho] at h
  | some o =>
    simp only [ho, Bool.and_eq_true] at h
    obtain ⟨⟨⟨⟨g2, g3⟩, g4⟩, g1⟩, g5⟩ := h
    refine ⟨o, rfl, by simpa using g2, fun cs b hs => by simp [hs] at g3, fun e he hb => ?_, fun j want hg => ?_, fun t j ht hj => ?_⟩
    · have := Array.all_eq_true_iff_forall_mem.1 g4 e he
      simpa [hb] using this
    · simpa [hg] using g1
    · have := List.all_eq_true.1 g5 (.tmp t) (by simpa using ht)
      simpa [hj] using this

/-- What an operation's reader is known to read, a function's name too. -/
structure ReadsF (a : Act) (ds : List Tmp) (vs : Nat → Value) (ρ : Operand → Value) : Prop where
  at_ : ∀ t j, ds.idxOf? t = some j → ρ (.tmp t) = vs j
  out : ∀ t, ds.idxOf? t = none → ρ (.tmp t) = a.eval (.tmp t)
  const : ∀ v, ρ (.const v) = v
  fn : ∀ f, ρ (.func f) = a.eval (.func f)

structure IInv (ops : Array Oper) (a0 : Act) (ds : List Tmp) (I : (Nat → Bool) → (Nat → Value) → World → Prop) (listed : Array Bool) (vs : Nat → Value) (a : Act) (w : World) : Prop where
  size : listed.size = ops.size
  act : a = putSel (fun i => listed.getD i false) vs ds 0 a0
  inv : I (fun i => listed.getD i false) vs w

variable {a0 : Act} {ds : List Tmp} {I : (Nat → Bool) → (Nat → Value) → World → Prop}

theorem idx_get {t : Tmp} {j : Nat} (hj : ds.idxOf? t = some j) : ds[j]? = some t := by
  have := List.of_findIdx?_eq_some (p := (· == t)) (xs := ds) (i := j) (by simpa [List.idxOf?] using hj)
  cases hd : ds[j]? with
  | none => simp [hd] at this
  | some d => simp [hd] at this; rw [this]

theorem inv_go (ok : SlotsG ops ds a0.tmps.size)
    (step : ∀ i o L vs ρ w, ops[i]? = some o → L i = false → (∀ j, afterB ops i j = true → L j = true) → ReadsF a0 ds vs ρ → (∀ j want, o.guard = some (j, want) → vs j = .bool want) → I L vs w →
      stepTo P (fun v w' => I (updB L i) (updV vs i v) w') ((execOp ρ o).run P w))
    (skip : ∀ i o L vs w j want, ops[i]? = some o → L i = false → (∀ j, afterB ops i j = true → L j = true) → o.guard = some (j, want) → vs j ≠ .bool want → I L vs w → I (updB L i) (updV vs i undef) w)
    (fin : ∀ vs w', I (fun j => decide (j < ops.size)) vs w' → Q .normal (putList vs ds a0) w') :
    ∀ (r : Nat) (listed : Array Bool) (vs : Nat → Value) (a : Act) (w : World), IInv ops a0 ds I listed vs a w → toCome ops.size listed = r → wpAny P .any ops Q r listed a w
  | 0, listed, vs, a, w, hI, hr => by
    have hall := toCome_zero hr
    have hn : Region.ready .any ops listed = [] := by
      apply List.eq_nil_iff_forall_not_mem.2
      intro i hi
      obtain ⟨hun, o, ho, _⟩ := mem_ready.1 hi
      have hio : i < ops.size := (Array.getElem?_eq_some_iff.1 ho).1
      have := hall i hio
      rw [getD_false_true (by rw [hI.size]; exact hio)] at hun
      rw [this] at hun
      cases hun
    have ha : a = putList vs ds a0 := by
      rw [hI.act]
      exact putSel_congr _ _ _ _ ds 0 a0 fun j _ hj => ⟨hall j (by rw [← ok.len]; omega), fun _ => rfl⟩
    have hL : (fun i => listed.getD i false) = fun j => decide (j < ops.size) := by
      funext j
      by_cases hj : j < ops.size
      · rw [hall j hj, decide_eq_true hj]
      · rw [decide_eq_false hj]
        simp [Array.getD, hI.size, hj]
    rw [ha]
    have h2 := hI.inv
    rw [hL] at h2
    exact wpAny_done hn (fin vs w h2) 0
  | r + 1, listed, vs, a, w, hI, hr => by
    refine ⟨fun h0 => ?_, fun i hi => ?_⟩
    · exfalso
      have hex : ∃ i, i < ops.size ∧ listed.getD i false = false := by
        apply Classical.byContradiction
        intro hn
        have : toCome ops.size listed = 0 := by
          unfold toCome
          rw [List.countP_eq_zero]
          intro i hi
          have hi' := List.mem_range.1 hi
          cases hb : listed.getD i false
          · exact absurd ⟨i, hi', hb⟩ hn
          · simp
        omega
      have key : ∀ n i, i < n → i < ops.size → listed.getD i false = false → False := by
        intro n
        induction n with
        | zero => intro i h; omega
        | succ n ih =>
          intro i hin him hf
          obtain ⟨o, ho, _, _, hlow, _⟩ := ok.each i him
          have hs : i < listed.size := by rw [hI.size]; exact him
          have : i ∈ Region.ready .any ops listed := by
            rw [mem_ready]
            refine ⟨by rw [getD_false_true hs]; exact hf, o, ho, fun e he hb => ?_⟩
            cases hb' : listed.getD e.on false
            · exact (ih e.on (by have := hlow e he hb; omega) (by have := hlow e he hb; omega) hb').elim
            · rfl
          rw [h0] at this
          cases this
      obtain ⟨i, him, hf⟩ := hex
      exact key (i + 1) i (by omega) him hf
    · obtain ⟨hun, o, ho, hall⟩ := mem_ready.1 hi
      have him : i < ops.size := (Array.getElem?_eq_some_iff.1 ho).1
      have hs : i < listed.size := by rw [hI.size]; exact him
      have hf : listed.getD i false = false := by rw [← getD_false_true hs]; exact hun
      obtain ⟨o', ho', hdst, hsel, hlow, hgrd, hopn⟩ := ok.each i him
      obtain rfl : o = o' := Option.some.inj (ho.symm.trans ho')
      have hdi : ∃ d, ds[i]? = some d := ⟨ds[i]'(by rw [ok.len]; exact him), List.getElem?_eq_getElem _⟩
      obtain ⟨d, hd⟩ := hdi
      have haft : ∀ j, afterB ops i j = true → listed.getD j false = true := fun j hj => by
        obtain ⟨e, he, hb, rfl⟩ := afterB_iff ho hj
        exact hall e he hb
      have hread : ∀ t j, ds[j]? = some t → listed.getD j false = true → a.eval (.tmp t) = vs j := fun t j hdj hl => by
        rw [hI.act]
        have := putSel_in (fun i => listed.getD i false) vs t ds 0 j a0 ok.nodup hdj (by simpa using hl) (ok.small t (List.mem_of_getElem? hdj))
        simpa using this
      have hnext : ∀ v w', I (updB (fun i => listed.getD i false) i) (updV vs i v) w' → wpAny P .any ops Q r (listed.setIfInBounds i true) (a.put o.dst v) w' := by
        intro v w' h
        refine inv_go ok step skip fin r (listed.setIfInBounds i true) (updV vs i v) (a.put o.dst v) w' ⟨by simp [hI.size], ?_, ?_⟩ ?_
        · rw [hdst, hd, hI.act]
          have := putSel_set (fun i => listed.getD i false) vs i v ds 0 a0 d ok.nodup (Nat.zero_le _) (by simpa using hd) hf
          rw [this, updB_listed hs]
        · rw [← updB_listed hs]
          exact h
        · have := toCome_set him hs hf
          omega
      have hyield : ∀ j want, o.guard = some (j, want) → yielded ops a.tmps j = (match vs j with | .bool b => some b | _ => none) := by
        intro j want hg
        have hj := hgrd j want hg
        obtain ⟨e, he, hb, he2⟩ := afterB_iff ho hj
        have hji : j < i := by rw [← he2]; exact hlow e he hb
        obtain ⟨oj, hoj, hdj, _⟩ := ok.each j (by omega)
        have hdj2 : ds[j]? = some (ds[j]'(by rw [ok.len]; omega)) := List.getElem?_eq_getElem _
        generalize ds[j]'(by rw [ok.len]; omega) = t at hdj2
        have hr := hread t j hdj2 (haft j hj)
        unfold yielded
        rw [hoj]
        simp only [Option.bind_some, hdj, hdj2]
        have he : a.eval (.tmp t) = a.tmps.getD t undef := rfl
        rw [he] at hr
        cases hx : a.tmps[t]? with
        | none =>
          have : a.tmps.getD t undef = undef := by simp [Array.getD_eq_getD_getElem?, hx]
          rw [← hr, this]
          rfl
        | some x =>
          have : a.tmps.getD t undef = x := by simp [Array.getD_eq_getD_getElem?, hx]
          rw [← hr, this]
          cases x <;> rfl
      unfold wpOp
      simp only [ho]
      by_cases hw : Region.wanted o (yielded ops a.tmps) = true
      · rw [if_pos hw]
        left
        have hρ : execOp a.eval o = execOp (valOf a0 ds vs) o := by
          refine execOp_congr o hsel fun x hx => ?_
          cases x with
          | tmp t =>
            cases hj : ds.idxOf? t with
            | none =>
              rw [valOf_none hj, hI.act]
              exact putSel_out _ _ t ds 0 a0 (by rw [List.idxOf?_eq_none_iff] at hj; exact hj)
            | some j =>
              rw [valOf_some hj]
              exact hread t j (idx_get hj) (haft j (hopn t j hx hj))
          | const v => simp only [valOf]; rfl
          | global g => simp only [valOf]; rfl
          | func f => simp only [valOf]; rfl
        have hst := step i o (fun i => listed.getD i false) vs (valOf a0 ds vs) w ho hf haft ⟨fun _ _ h => valOf_some h, fun _ h => valOf_none h, fun _ => rfl, fun _ => rfl⟩ (fun j want hg => by
          have hy := hyield j want hg
          unfold Region.wanted at hw
          rw [hg] at hw
          simp only [hy] at hw
          cases hv : vs j <;> rw [hv] at hw <;> simp at hw
          rw [hw]) hI.inv
        rw [← hρ] at hst
        exact wp_of_stepTo hst fun v w' h => hnext v w' h
      · rw [if_neg hw]
        cases hg : o.guard with
        | none => exact absurd (by simp [Region.wanted, hg]) hw
        | some g =>
          obtain ⟨j, want⟩ := g
          refine hnext undef w (skip i o _ vs w j want ho hf haft hg (fun hv => hw ?_) hI.inv)
          have hy := hyield j want hg
          unfold Region.wanted
          rw [hg]
          simp only [hy, hv]
          simp

/-- THE RULE. -/
theorem wp_region_inv {id : Nat} {a : Act} {w : World} (hm : P.follows .mixedOrders = true) (ds : List Tmp) (hok : slotsGB ops ds a.tmps.size = true) (I : (Nat → Bool) → (Nat → Value) → World → Prop)
    (start : I (fun _ => false) (fun _ => undef) w.drew)
    (step : ∀ i o L vs ρ w, ops[i]? = some o → L i = false → (∀ j, afterB ops i j = true → L j = true) → ReadsF a ds vs ρ → (∀ j want, o.guard = some (j, want) → vs j = .bool want) → I L vs w →
      stepTo P (fun v w' => I (updB L i) (updV vs i v) w') ((execOp ρ o).run P w))
    (skip : ∀ i o L vs w j want, ops[i]? = some o → L i = false → (∀ j, afterB ops i j = true → L j = true) → o.guard = some (j, want) → vs j ≠ .bool want → I L vs w → I (updB L i) (updV vs i undef) w)
    (fin : ∀ vs w', I (fun j => decide (j < ops.size)) vs w' → Q .normal (putList vs ds a) w') :
    (Code.region id ops true).wp P Q a w := by
  have ok := slotsG_ok hok
  refine wp_region_any hm ?_
  have h0 : toCome ops.size (Array.replicate ops.size false) = ops.size := by
    have := List.countP_eq_length (l := List.range ops.size) (p := fun i => !(Array.replicate ops.size false).getD i false) |>.2 fun i _ => by rw [rep_false]; rfl
    unfold toCome
    rw [this, List.length_range]
  have hf : (fun i => (Array.replicate ops.size false).getD i false) = fun _ => false := by
    funext i
    exact rep_false _ i
  refine inv_go ok step skip fin ops.size (Array.replicate ops.size false) (fun _ => undef) a _ ⟨by simp, ?_, ?_⟩ h0
  · rw [hf]
    exact (putSel_none ds 0 a).symm
  · rw [hf]
    exact start
end

theorem putSel_defers (L : Nat → Bool) (vs : Nat → Value) : ∀ (ds : List Tmp) (k : Nat) (a : Act), (putSel L vs ds k a).defers = a.defers
  | [], _, _ => rfl
  | d :: ds, k, a => by
    simp only [putSel]
    rw [putSel_defers L vs ds]
    split <;> rfl

/-- The end of a body behind such a region: one slot is what is answered; the list of slots stays folded. -/
theorem bodyPost_slot {P : Program} {fn : Func} {R : Ending → World → Prop} {a : Act} {ds : List Tmp} {vs : Nat → Value} {w : World} {t : Tmp} {v : Value} (j : Nat) (hres : fn.results = #[.tmp t])
    (hB : (decide ds.Nodup && decide (ds[j]? = some t)) = true) (hs : decide (t < a.tmps.size) = true) (hd : a.defers = []) (hv : vs j = v) (hR : R (.returned v) w) : bodyPost P fn R .ret (putList vs ds a) w := by
  simp only [Bool.and_eq_true, decide_eq_true_eq] at hB hs
  refine bodyPost_ret (v := v) ?_ ((putSel_defers _ _ _ _ _).trans hd) hR
  rw [results_tmp hres]
  congr 1
  have := putSel_in (fun _ => true) vs t ds 0 j a hB.1 hB.2 rfl hs
  rw [Nat.zero_add, hv] at this
  exact this
end Go.Proofs.YtjllpbckmioiiaaDoor


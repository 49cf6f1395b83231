/- Slots, SlotsF, OwnKit, StOwn. -/
import Derived.Test.YtdpbdkacngaemaaDoorQ1
import Derived.Test.YtdpbdkacngaemaaDoorQ4
import Derived.Orders
import Derived.Below
import Derived.Tactics
import Derived.Maps.AppendAt
import Derived.OwnWalk
set_option linter.unusedVariables false
set_option linter.unusedSimpArgs false
/- A region that draws its order and whose operations make memory: each operation's value is told by a word of its own ('G i'), which stays true when blocks are laid; then every order comes to values of which all these words are true. One step an operation, not one way an order. Nothing here speaks of the program. -/
namespace Go.Proofs.YtdpbdkacngaemaaDoor
open Go Go.RowKit
set_option maxRecDepth 100000

section
variable {P : Program} {ops : Array Oper} {Q : Exit → Act → World → Prop}

/-- What is asked of an operation that was carried out: it yields a value, or it calls and the callee hands one back. -/
def stepTo (P : Program) (K : Value → World → Prop) : Result Next → Prop
  | .ok (.value v) w' => K v w'
  | .ok (.enter f args) w' => Calls P f args w' fun e w'' => ∃ v, e = .returned v ∧ K v w''
  | _ => False

theorem wp_of_stepTo {o : Oper} {a : Act} {w : World} {K : Value → World → Prop} {next : Act → World → Prop} (h : stepTo P K ((execOp a.eval o).run P w)) (hn : ∀ v w', K v w' → next (a.put o.dst v) w') : o.wp P a w next Q := by
  unfold Oper.wp
  generalize (execOp a.eval o).run P w = r at *
  cases r with
  | ok n w' =>
    cases n <;> simp only [stepTo] at h <;> simp only [Oper.upon]
    case value v => exact hn _ _ h
    case enter f args =>
      refine h.mono fun e w'' he => ?_
      obtain ⟨v, rfl, hk⟩ := he
      exact hn _ _ hk
  | halt x w' => simp only [stepTo] at h

/-- The slots of the operations that are done hold their values. -/
def putSel (L : Nat → Bool) (vs : Nat → Value) : List Tmp → Nat → Act → Act
  | [], _, a => a
  | d :: ds, k, a => putSel L vs ds (k + 1) (if L k then a.put (some d) (vs k) else a)

def putList (vs : Nat → Value) (ds : List Tmp) (a : Act) : Act := putSel (fun _ => true) vs ds 0 a

def updB (L : Nat → Bool) (i : Nat) : Nat → Bool := fun j => if j = i then true else L j
def updV (vs : Nat → Value) (i : Nat) (v : Value) : Nat → Value := fun j => if j = i then v else vs j

theorem putSel_congr (L L' : Nat → Bool) (vs vs' : Nat → Value) : ∀ (ds : List Tmp) (k : Nat) (a : Act), (∀ j, k ≤ j → j < k + ds.length → L j = L' j ∧ (L j = true → vs j = vs' j)) → putSel L vs ds k a = putSel L' vs' ds k a
  | [], _, _, _ => rfl
  | d :: ds, k, a, h => by
    have h0 := h k (Nat.le_refl _) (by simp)
    simp only [putSel]
    rw [h0.1]
    have e : (if L' k = true then a.put (some d) (vs k) else a) = (if L' k = true then a.put (some d) (vs' k) else a) := by
      by_cases hk : L' k = true
      · rw [if_pos hk, if_pos hk, h0.2 (h0.1.trans hk)]
      · rw [if_neg hk, if_neg hk]
    rw [e]
    exact putSel_congr L L' vs vs' ds (k + 1) _ fun j h1 h2 => h j (by omega) (by simp; omega)

theorem put_comm' (a : Act) (d e : Tmp) (v u : Value) (h : d ≠ e) : (a.put (some d) v).put (some e) u = (a.put (some e) u).put (some d) v :=
  Act.put_comm a v u fun x hx => by cases hx; intro hy; cases hy; exact h rfl

theorem putSel_put (L : Nat → Bool) (vs : Nat → Value) (e : Tmp) (u : Value) : ∀ (ds : List Tmp) (k : Nat) (a : Act), e ∉ ds → (putSel L vs ds k a).put (some e) u = putSel L vs ds k (a.put (some e) u)
  | [], _, _, _ => rfl
  | d :: ds, k, a, h => by
    have hd : d ≠ e := fun x => h (by simp [x])
    have hds : e ∉ ds := fun x => h (by simp [x])
    simp only [putSel]
    rw [putSel_put L vs e u ds (k + 1) _ hds]
    congr 1
    by_cases hk : L k = true
    · rw [if_pos hk, if_pos hk, put_comm' a d e _ _ hd]
    · rw [if_neg hk, if_neg hk]

theorem putSel_set (L : Nat → Bool) (vs : Nat → Value) (i : Nat) (v : Value) : ∀ (ds : List Tmp) (k : Nat) (a : Act) (d : Tmp), ds.Nodup → k ≤ i → ds[i - k]? = some d → L i = false → (putSel L vs ds k a).put (some d) v = putSel (updB L i) (updV vs i v) ds k a
  | [], k, a, d, _, _, h, _ => by simp at h
  | e :: ds, k, a, d, hn, hk, h, hL => by
    rw [List.nodup_cons] at hn
    by_cases hki : k = i
    · subst hki
      simp only [Nat.sub_self, List.getElem?_cons_zero, Option.some.injEq] at h
      subst h
      simp only [putSel]
      rw [putSel_put L vs e v ds (k + 1) _ hn.1, hL]
      have e1 : updB L k k = true := by simp [updB]
      have e2 : updV vs k v k = v := by simp [updV]
      rw [e1, e2, if_pos rfl]
      simp only [Bool.false_eq_true, if_false]
      exact putSel_congr _ _ _ _ ds (k + 1) _ fun j h1 _ => by
        have : j ≠ k := by omega
        simp [updB, updV, this]
    · have hlt : i - k = (i - (k + 1)) + 1 := by omega
      rw [hlt, List.getElem?_cons_succ] at h
      have ih := putSel_set L vs i v ds (k + 1) (if L k then a.put (some e) (vs k) else a) d hn.2 (by omega) h hL
      simp only [putSel]
      rw [ih]
      have e1 : updB L i k = L k := by simp [updB, hki]
      have e2 : updV vs i v k = vs k := by simp [updV, hki]
      rw [e1, e2]

theorem putSel_size (L : Nat → Bool) (vs : Nat → Value) : ∀ (ds : List Tmp) (k : Nat) (a : Act), (putSel L vs ds k a).tmps.size = a.tmps.size
  | [], _, _ => rfl
  | d :: ds, k, a => by
    simp only [putSel]
    rw [putSel_size L vs ds]
    split <;> simp [Act.put]

theorem eval_put_ne (a : Act) (d t : Tmp) (v : Value) (h : d ≠ t) : (a.put (some d) v).eval (.tmp t) = a.eval (.tmp t) :=
  Act.eval_put fun e he hx => by cases he; cases hx; exact h rfl

theorem putSel_out (L : Nat → Bool) (vs : Nat → Value) (t : Tmp) : ∀ (ds : List Tmp) (k : Nat) (a : Act), t ∉ ds → (putSel L vs ds k a).eval (.tmp t) = a.eval (.tmp t)
  | [], _, _, _ => rfl
  | d :: ds, k, a, h => by
    have hd : d ≠ t := fun x => h (by simp [x])
    have hds : t ∉ ds := fun x => h (by simp [x])
    simp only [putSel]
    rw [putSel_out L vs t ds (k + 1) _ hds]
    split
    · exact eval_put_ne a d t _ hd
    · rfl

theorem putSel_in (L : Nat → Bool) (vs : Nat → Value) (t : Tmp) : ∀ (ds : List Tmp) (k j : Nat) (a : Act), ds.Nodup → ds[j]? = some t → L (k + j) = true → t < a.tmps.size → (putSel L vs ds k a).eval (.tmp t) = vs (k + j)
  | [], _, _, _, _, h, _, _ => by simp at h
  | d :: ds, k, j, a, hn, h, hL, hs => by
    rw [List.nodup_cons] at hn
    cases j with
    | zero =>
      simp only [List.getElem?_cons_zero, Option.some.injEq] at h
      subst h
      simp only [putSel]
      rw [putSel_out L vs d ds (k + 1) _ hn.1, if_pos (by simpa using hL)]
      simp [Act.eval, Act.put, hs]
    | succ j =>
      rw [List.getElem?_cons_succ] at h
      simp only [putSel]
      have := putSel_in L vs t ds (k + 1) j (if L k then a.put (some d) (vs k) else a) hn.2 h (by rw [show k + 1 + j = k + (j + 1) from by omega]; exact hL) (by split <;> simp [Act.put, hs])
      rw [this]
      congr 1
      omega

/-- What an operand reads, once all that it hangs on is done. -/
def valOf (a0 : Act) (ds : List Tmp) (vs : Nat → Value) : Operand → Value
  | .tmp t => match ds.idxOf? t with
    | some j => vs j
    | none => a0.eval (.tmp t)
  | x => a0.eval x

theorem valOf_none {a0 : Act} {ds : List Tmp} {vs : Nat → Value} {t : Tmp} (h : ds.idxOf? t = none) : valOf a0 ds vs (.tmp t) = a0.eval (.tmp t) := by
  unfold valOf
  simp only [h]
theorem valOf_some {a0 : Act} {ds : List Tmp} {vs : Nat → Value} {t : Tmp} {j : Nat} (h : ds.idxOf? t = some j) : valOf a0 ds vs (.tmp t) = vs j := by
  unfold valOf
  simp only [h]

theorem rep_false (n i : Nat) : (Array.replicate n false).getD i false = false := by
  by_cases h : i < n <;> simp [h]

def afterB (ops : Array Oper) (i j : Nat) : Bool := match ops[i]? with
  | some o => o.after.any fun e => Region.binds .any e && e.on == j
  | none => false

/-- What is asked of the region itself; one closed reckoning. m: so many operations go by their words; those behind them come when all of these are done. -/
def slotsB (ops : Array Oper) (m : Nat) (ds : List Tmp) (size : Nat) : Bool :=
  decide (m ≤ ops.size) && decide (ds.length = m) && decide ds.Nodup && ds.all (fun d => decide (d < size)) &&
  (List.range m).all (fun i => match ops[i]? with
    | some o => o.guard.isNone && o.dst == ds[i]? && (match o.op with | .select .. => false | _ => true) &&
      o.after.all (fun e => !Region.binds .any e || decide (e.on < i)) &&
      o.op.operands.toList.all (fun x => match x with
        | .tmp t => match ds.idxOf? t with
          | some j => afterB ops i j
          | none => true
        | _ => true)
    | none => false) &&
  (List.range ops.size).all (fun j => decide (j < m) || (match ops[j]? with
    | some o => (o.after.any fun e => Region.binds .any e && decide (m ≤ e.on)) || (List.range m).all (fun i => afterB ops j i || (List.range m).any (fun k => afterB ops k i))
    | none => false))

structure SlotsOk (ops : Array Oper) (m : Nat) (ds : List Tmp) (size : Nat) : Prop where
  le : m ≤ ops.size
  len : ds.length = m
  nodup : ds.Nodup
  small : ∀ d ∈ ds, d < size
  each : ∀ i, i < m → ∃ o, ops[i]? = some o ∧ o.guard = none ∧ o.dst = ds[i]? ∧ (∀ cs b, o.op ≠ .select cs b) ∧ (∀ e ∈ o.after, Region.binds .any e = true → e.on < i) ∧
    (∀ t j, Operand.tmp t ∈ o.op.operands → ds.idxOf? t = some j → afterB ops i j = true)
  tail : ∀ j o, m ≤ j → ops[j]? = some o → (∃ e ∈ o.after, Region.binds .any e = true ∧ m ≤ e.on) ∨ (∀ i, i < m → afterB ops j i = true ∨ ∃ k, k < m ∧ afterB ops k i = true)

theorem slots_ok {m : Nat} {ds : List Tmp} {size : Nat} (h : slotsB ops m ds size = true) : SlotsOk ops m ds size := by
  unfold slotsB at h
  simp only [Bool.and_eq_true, decide_eq_true_eq, List.all_eq_true, List.mem_range] at h
  obtain ⟨⟨⟨⟨⟨h1, h2⟩, h3⟩, h4⟩, h5⟩, h6⟩ := h
  refine ⟨h1, h2, h3, h4, fun i hi => ?_, fun j o hj ho => ?_⟩
  · have h := h5 i hi
    cases ho : ops[i]? with
    | none => simp [ho] at h
    | some o =>
      simp only [ho, Bool.and_eq_true] at h
      obtain ⟨⟨⟨⟨g1, g2⟩, g3⟩, g4⟩, g5⟩ := h
      refine ⟨o, rfl, by simpa using g1, by simpa using g2, fun cs b hs => by simp [hs] at g3, fun e he hb => ?_, fun t j ht hj => ?_⟩
      · have := Array.all_eq_true_iff_forall_mem.1 g4 e he
        simpa [hb] using this
      · have := List.all_eq_true.1 g5 (.tmp t) (by simpa using ht)
        simpa [hj] using this
  · have hlt : j < ops.size := (Array.getElem?_eq_some_iff.1 ho).1
    have h := h6 j hlt
    simp only [ho, Bool.or_eq_true, decide_eq_true_eq] at h
    rcases h with h | h | h
    · omega
    · obtain ⟨e, he, hb⟩ := Array.any_eq_true'.1 h
      simp only [Bool.and_eq_true, decide_eq_true_eq] at hb
      exact .inl ⟨e, he, hb.1, hb.2⟩
    · refine .inr fun i hi => ?_
      have := List.all_eq_true.1 h i (by simpa using hi)
      simp only [Bool.or_eq_true, List.any_eq_true, List.mem_range] at this
      exact this

theorem afterB_iff {i j : Nat} {o : Oper} (ho : ops[i]? = some o) (h : afterB ops i j = true) : ∃ e ∈ o.after, Region.binds .any e = true ∧ e.on = j := by
  unfold afterB at h
  simp only [ho] at h
  obtain ⟨e, he, hb⟩ := Array.any_eq_true'.1 h
  simp only [Bool.and_eq_true, beq_iff_eq] at hb
  exact ⟨e, he, hb.1, hb.2⟩

def listedTo (n m : Nat) : Array Bool := (Array.range n).map fun i => decide (i < m)

/-- The state in the midst of the region. -/
structure SInv (ops : Array Oper) (a0 : Act) (w0 : World) (m : Nat) (ds : List Tmp) (G : Nat → Value → World → Prop) (listed : Array Bool) (vs : Nat → Value) (a : Act) (w : World) : Prop where
  size : listed.size = ops.size
  tail : ∀ j, m ≤ j → listed.getD j false = false
  closed : ∀ i o, ops[i]? = some o → listed.getD i false = true → ∀ e ∈ o.after, Region.binds .any e = true → listed.getD e.on false = true
  ext : Below w0.heap.size w0 w
  good : ∀ i, i < m → listed.getD i false = true → G i (vs i) w
  act : a = putSel (fun i => listed.getD i false) vs ds 0 a0

/-- How many of the first m are still to come. -/
def toCome (m : Nat) (listed : Array Bool) : Nat := (List.range m).countP fun i => !listed.getD i false

theorem toCome_set {m i : Nat} {listed : Array Bool} (hi : i < m) (hs : i < listed.size) (h : listed.getD i false = false) : toCome m listed = toCome m (listed.setIfInBounds i true) + 1 := by
  unfold toCome
  induction m with
  | zero => omega
  | succ m ih =>
    rw [List.range_succ, List.countP_append, List.countP_append]
    simp only [List.countP_singleton]
    by_cases e : i = m
    · subst e
      have h1 : (listed.setIfInBounds i true).getD i false = true := by simp [hs]
      rw [h, h1]
      have h2 : List.countP (fun j => !listed.getD j false) (List.range i) = List.countP (fun j => !(listed.setIfInBounds i true).getD j false) (List.range i) := by
        apply List.countP_congr
        intro j hj
        rw [getD_set_ne false (by have := List.mem_range.1 hj; omega)]
      rw [h2]
      rfl
    · have := ih (by omega)
      rw [this, getD_set_ne false e]
      omega

theorem toCome_zero {m : Nat} {listed : Array Bool} (h : toCome m listed = 0) : ∀ i, i < m → listed.getD i false = true := by
  intro i hi
  unfold toCome at h
  rw [List.countP_eq_zero] at h
  have := h i (List.mem_range.2 hi)
  simpa using this

theorem getD_false_true {listed : Array Bool} {i : Nat} (hs : i < listed.size) : listed.getD i true = listed.getD i false := by simp [hs]

theorem updB_listed {listed : Array Bool} {i : Nat} (hs : i < listed.size) : updB (fun j => listed.getD j false) i = fun j => (listed.setIfInBounds i true).getD j false := by
  funext j
  unfold updB
  by_cases e : j = i
  · subst e; simp [hs]
  · rw [if_neg e, getD_set_ne false (Ne.symm e)]

variable {a0 : Act} {w0 : World} {m : Nat} {ds : List Tmp} {G : Nat → Value → World → Prop}

theorem below_tr {w0 w w' : World} (h : Below w0.heap.size w0 w) (g : Below w.heap.size w w') : Below w0.heap.size w0 w' := h.trans (g.mono h.size)

theorem slots_go (ok : SlotsOk ops m ds a0.tmps.size)
    (mono : ∀ i v w w', i < m → G i v w → Below w.heap.size w w' → G i v w')
    (step : ∀ i o vs w, i < m → ops[i]? = some o → Below w0.heap.size w0 w → (∀ j, afterB ops i j = true → G j (vs j) w) →
      stepTo P (fun v w' => Below w.heap.size w w' ∧ G i v w') ((execOp (valOf a0 ds vs) o).run P w))
    (fin : ∀ vs w', Below w0.heap.size w0 w' → (∀ i, i < m → G i (vs i) w') → wpAny P .any ops Q (ops.size - m) (listedTo ops.size m) (putList vs ds a0) w') :
    ∀ (r : Nat) (listed : Array Bool) (vs : Nat → Value) (a : Act) (w : World), SInv ops a0 w0 m ds G listed vs a w → toCome m listed = r → wpAny P .any ops Q (ops.size - m + r) listed a w
  | 0, listed, vs, a, w, hI, hr => by
    have hall := toCome_zero hr
    have hl : listed = listedTo ops.size m := by
      apply Array.ext
      · simp [listedTo, hI.size]
      · intro i h1 h2
        have e : listed.getD i false = listed[i] := by simp [h1]
        by_cases hi : i < m
        · have := hall i hi
          rw [e] at this
          simp [listedTo, this, hi]
        · have := hI.tail i (by omega)
          rw [e] at this
          simp [listedTo, this, hi]
    have ha : a = putList vs ds a0 := by
      rw [hI.act]
      exact putSel_congr _ _ _ _ ds 0 a0 fun j _ hj => ⟨hall j (by rw [← ok.len]; omega), fun _ => rfl⟩
    rw [hl, ha, Nat.add_zero]
    exact fin vs w hI.ext fun i hi => hI.good i hi (hall i hi)
  | r + 1, listed, vs, a, w, hI, hr => by
    refine ⟨fun h0 => ?_, fun i hi => ?_⟩
    · -- the least one that is still to come may come
      exfalso
      have hex : ∃ i, i < m ∧ listed.getD i false = false := by
        apply Classical.byContradiction
        intro hn
        have : toCome m listed = 0 := by
          unfold toCome
          rw [List.countP_eq_zero]
          intro i hi
          have hi' := List.mem_range.1 hi
          cases hb : listed.getD i false
          · exact absurd ⟨i, hi', hb⟩ hn
          · simp
        omega
      have key : ∀ n i, i < n → i < m → listed.getD i false = false → False := by
        intro n
        induction n with
        | zero => intro i h; omega
        | succ n ih =>
          intro i hin him hf
          obtain ⟨o, ho, _, _, _, hlow, _⟩ := ok.each i him
          have hs : i < listed.size := by rw [hI.size]; exact Nat.lt_of_lt_of_le him ok.le
          have : i ∈ Region.ready .any ops listed := by
            rw [mem_ready]
            refine ⟨by rw [getD_false_true hs]; exact hf, o, ho, fun e he hb => ?_⟩
            cases hb' : listed.getD e.on false
            · exact (ih e.on (by have := hlow e he hb; omega) (by have := hlow e he hb; omega) hb').elim
            · rfl
          rw [h0] at this
          cases this
      obtain ⟨i, him, hf⟩ := hex
      exact key (i + 1) i (by omega) him hf
    · obtain ⟨hun, o, ho, hall⟩ := mem_ready.1 hi
      have hio : i < ops.size := (Array.getElem?_eq_some_iff.1 ho).1
      have hs : i < listed.size := by rw [hI.size]; exact hio
      have hf : listed.getD i false = false := by rw [← getD_false_true hs]; exact hun
      by_cases him : i < m
      · obtain ⟨o', ho', hgd, hdst, hsel, hlow, hopn⟩ := ok.each i him
        obtain rfl : o = o' := Option.some.inj (ho.symm.trans ho')
        unfold wpOp
        simp only [ho]
        have hw : Region.wanted o (yielded ops a.tmps) = true := by simp [Region.wanted, hgd]
        rw [if_pos hw]
        left
        have hρ : execOp a.eval o = execOp (valOf a0 ds vs) o := by
          refine execOp_congr o hsel fun x hx => ?_
          rw [hI.act]
          cases x with
          | tmp t =>
            cases hj : ds.idxOf? t with
            | none =>
              rw [valOf_none hj]
              exact putSel_out _ _ t ds 0 a0 (by rw [List.idxOf?_eq_none_iff] at hj; exact hj)
            | some j =>
              rw [valOf_some hj]
              have hdj : ds[j]? = some t := by
                have := List.of_findIdx?_eq_some (p := (· == t)) (xs := ds) (i := j) (by simpa [List.idxOf?] using hj)
                cases hd : ds[j]? with
                | none => simp [hd] at this
                | some d => simp [hd] at this; rw [this]
              obtain ⟨e, he, hb, rfl⟩ := afterB_iff ho (hopn t j hx hj)
              have := putSel_in (fun i => listed.getD i false) vs t ds 0 e.on a0 ok.nodup hdj (by simpa using hall e he hb) (ok.small t (List.mem_of_getElem? hdj))
              simpa using this
          | const v => simp only [valOf]; rfl
          | global g => simp only [valOf]; rfl
          | func f => simp only [valOf]; rfl
        have hst := step i o vs w him ho hI.ext fun j hj => by
          obtain ⟨e, he, hb, rfl⟩ := afterB_iff ho hj
          exact hI.good e.on (by have := hlow e he hb; omega) (hall e he hb)
        rw [← hρ] at hst
        refine wp_of_stepTo hst fun v w' ⟨hbel, hG⟩ => ?_
        have hdi : ∃ d, ds[i]? = some d := ⟨ds[i]'(by rw [ok.len]; exact him), List.getElem?_eq_getElem _⟩
        obtain ⟨d, hd⟩ := hdi
        refine slots_go ok mono step fin r (listed.setIfInBounds i true) (updV vs i v) (a.put o.dst v) w' ⟨?_, ?_, ?_, ?_, ?_, ?_⟩ ?_
        · simp [hI.size]
        · intro j hj
          rw [getD_set_ne false (by omega)]
          exact hI.tail j hj
        · intro j oj hoj hl e he hb
          by_cases hji : j = i
          · subst hji
            obtain rfl : o = oj := Option.some.inj (ho.symm.trans hoj)
            exact getD_set_true (hall e he hb)
          · rw [getD_set_ne false (Ne.symm hji)] at hl
            exact getD_set_true (hI.closed j oj hoj hl e he hb)
        · exact below_tr hI.ext hbel
        · intro j hj hl
          by_cases hji : j = i
          · subst hji
            simpa [updV] using hG
          · rw [getD_set_ne false (Ne.symm hji)] at hl
            have := mono j _ w w' hj (hI.good j hj hl) hbel
            simpa [updV, hji] using this
        · rw [hdst, hd, hI.act]
          have := putSel_set (fun i => listed.getD i false) vs i v ds 0 a0 d ok.nodup (Nat.zero_le _) (by simpa using hd) hf
          rw [this, updB_listed hs]
        · have := toCome_set him hs hf
          omega
      · exfalso
        have hex : ∃ k, k < m ∧ listed.getD k false = false := by
          apply Classical.byContradiction
          intro hn
          have : toCome m listed = 0 := by
            unfold toCome
            rw [List.countP_eq_zero]
            intro k hk
            cases hb : listed.getD k false
            · exact absurd ⟨k, List.mem_range.1 hk, hb⟩ hn
            · simp
          omega
        rcases ok.tail i o (by omega) ho with ⟨e, he, hb, hme⟩ | hcov
        · have h1 := hall e he hb
          rw [hI.tail e.on hme] at h1
          cases h1
        · have key : ∀ n k, m - k ≤ n → k < m → listed.getD k false = true := by
            intro n
            induction n with
            | zero => intro k h1 h2; omega
            | succ n ih =>
              intro k h1 h2
              rcases hcov k h2 with h | ⟨k', hk', h⟩
              · obtain ⟨e, he, hb, rfl⟩ := afterB_iff ho h
                exact hall e he hb
              · obtain ⟨ok', hok', _, _, _, hlow, _⟩ := ok.each k' hk'
                obtain ⟨e, he, hb, rfl⟩ := afterB_iff hok' h
                have hlt := hlow e he hb
                exact hI.closed k' ok' hok' (ih k' (by omega) hk') e he hb
          obtain ⟨k, hk, hkf⟩ := hex
          rw [key m k (by omega) hk] at hkf
          cases hkf

theorem putSel_none : ∀ (ds : List Tmp) (k : Nat) (a : Act), putSel (fun _ => false) (fun _ => undef) ds k a = a
  | [], _, _ => rfl
  | d :: ds, k, a => by simp only [putSel, Bool.false_eq_true, if_false]; exact putSel_none ds (k + 1) a

/-- THE RULE. -/
theorem wp_region_slots {id : Nat} {a : Act} {w : World} (hm : P.follows .mixedOrders = true) (m : Nat) (ds : List Tmp) (hok : slotsB ops m ds a.tmps.size = true) (G : Nat → Value → World → Prop)
    (mono : ∀ i v w w', i < m → G i v w → Below w.heap.size w w' → G i v w')
    (step : ∀ i o vs w', i < m → ops[i]? = some o → Below w.heap.size w w' → (∀ j, afterB ops i j = true → G j (vs j) w') →
      stepTo P (fun v w'' => Below w'.heap.size w' w'' ∧ G i v w'') ((execOp (valOf a ds vs) o).run P w'))
    (fin : ∀ vs w', Below w.heap.size w w' → (∀ i, i < m → G i (vs i) w') → wpAny P .any ops Q (ops.size - m) (listedTo ops.size m) (putList vs ds a) w') :
    (Code.region id ops true).wp P Q a w := by
  have ok := slots_ok hok
  have hd : Below w.heap.size w { w with drawn := w.drawn + 1 } := ⟨rfl, rfl, rfl, Nat.le_refl _, fun _ _ => rfl⟩
  refine wp_region_any hm ?_
  have h0 : toCome m (Array.replicate ops.size false) = m := by
    have := List.countP_eq_length (l := List.range m) (p := fun i => !(Array.replicate ops.size false).getD i false) |>.2 fun i _ => by rw [rep_false]; rfl
    unfold toCome
    rw [this, List.length_range]
  have ha : a = putSel (fun i => (Array.replicate ops.size false).getD i false) (fun _ => undef) ds 0 a := by
    have : putSel (fun i => (Array.replicate ops.size false).getD i false) (fun _ => undef) ds 0 a = putSel (fun _ => false) (fun _ => undef) ds 0 a := putSel_congr _ _ _ _ ds 0 a fun j _ _ => ⟨rep_false _ j, fun _ => rfl⟩
    rw [this]
    exact (putSel_none ds 0 a).symm
  have hI : SInv ops a w m ds G (Array.replicate ops.size false) (fun _ => undef) a { w with drawn := w.drawn + 1 } := {
    size := by simp
    tail := fun j _ => rep_false _ j
    closed := fun i o _ h => by rw [rep_false] at h; cases h
    ext := hd
    good := fun i _ h => by rw [rep_false] at h; cases h
    act := ha }
  have h1 := slots_go (Q := Q) ok mono step fin m _ _ a _ hI h0
  have e : ops.size - m + m = ops.size := Nat.sub_add_cancel ok.le
  rw [e] at h1
  exact h1

/-- What an operation's reader is known to read. -/
structure Reads (a : Act) (ds : List Tmp) (vs : Nat → Value) (ρ : Operand → Value) : Prop where
  at_ : ∀ t j, ds.idxOf? t = some j → ρ (.tmp t) = vs j
  out : ∀ t, ds.idxOf? t = none → ρ (.tmp t) = a.eval (.tmp t)
  const : ∀ v, ρ (.const v) = v

/-- THE RULE, its reader a variable. -/
theorem wp_region_slots_r {id : Nat} {a : Act} {w : World} (hm : P.follows .mixedOrders = true) (m : Nat) (ds : List Tmp) (hok : slotsB ops m ds a.tmps.size = true) (G : Nat → Value → World → Prop)
    (mono : ∀ i v w w', i < m → G i v w → Below w.heap.size w w' → G i v w')
    (step : ∀ i o vs ρ w', i < m → ops[i]? = some o → Reads a ds vs ρ → Below w.heap.size w w' → (∀ j, afterB ops i j = true → G j (vs j) w') →
      stepTo P (fun v w'' => Below w'.heap.size w' w'' ∧ G i v w'') ((execOp ρ o).run P w'))
    (fin : ∀ vs w', Below w.heap.size w w' → (∀ i, i < m → G i (vs i) w') → wpAny P .any ops Q (ops.size - m) (listedTo ops.size m) (putList vs ds a) w') :
    (Code.region id ops true).wp P Q a w :=
  wp_region_slots hm m ds hok G mono (fun i o vs w' hi ho hb hG => step i o vs (valOf a ds vs) w' hi ho ⟨fun _ _ h => valOf_some h, fun _ h => valOf_none h, fun _ => rfl⟩ hb hG) fin

/-- Behind the rule: one operation that alone may come. -/
theorem wpAny_one {md : Region.Mode} {i : Nat} {o : Oper} {fuel : Nat} {listed : Array Bool} {a : Act} {w : World} (hr : Region.ready md ops listed = [i]) (ho : ops[i]? = some o) (hg : o.guard = none)
    (h : o.wp P a w (wpAny P md ops Q fuel (listed.setIfInBounds i true)) Q) : wpAny P md ops Q (fuel + 1) listed a w := by
  refine wpAny_all hr (by simp) fun j hj => ?_
  obtain rfl : j = i := by simpa using hj
  unfold wpOp
  simp only [ho]
  have hw : Region.wanted o (yielded ops a.tmps) = true := by simp [Region.wanted, hg]
  rw [if_pos hw]
  exact .inl h

/-- .. two of them, that yield values in whatever world and do not touch each other. -/
theorem wpAny_two {md : Region.Mode} {i j : Nat} {oi oj : Oper} {di dj : Tmp} {vi vj : Value} {fuel : Nat} {listed : Array Bool} {a : Act} {w : World} (hr : Region.ready md ops listed = [i, j])
    (hri : Region.ready md ops (listed.setIfInBounds i true) = [j]) (hrj : Region.ready md ops (listed.setIfInBounds j true) = [i]) (hij : i ≠ j)
    (hoi : ops[i]? = some oi) (hoj : ops[j]? = some oj) (hgi : oi.guard = none) (hgj : oj.guard = none) (hdi : oi.dst = some di) (hdj : oj.dst = some dj) (hd : di ≠ dj)
    (hi : ∀ v, (execOp (a.put (some dj) v).eval oi).run P w = .ok (.value vi) w) (hi0 : (execOp a.eval oi).run P w = .ok (.value vi) w)
    (hj : ∀ v, (execOp (a.put (some di) v).eval oj).run P w = .ok (.value vj) w) (hj0 : (execOp a.eval oj).run P w = .ok (.value vj) w)
    (h : wpAny P md ops Q fuel ((listed.setIfInBounds i true).setIfInBounds j true) ((a.put (some di) vi).put (some dj) vj) w) : wpAny P md ops Q (fuel + 2) listed a w := by
  refine wpAny_all hr (by simp) fun k hk => ?_
  have hwi : ∀ b : Act, Region.wanted oi (yielded ops b.tmps) = true := fun b => by simp [Region.wanted, hgi]
  have hwj : ∀ b : Act, Region.wanted oj (yielded ops b.tmps) = true := fun b => by simp [Region.wanted, hgj]
  rcases (show k = i ∨ k = j by simpa using hk) with rfl | rfl
  · unfold wpOp
    simp only [hoi, hwi, if_true]
    left
    unfold Oper.wp
    rw [hi0]
    show wpAny P md ops Q (fuel + 1) _ (a.put oi.dst vi) w
    rw [hdi]
    refine wpAny_one hri hoj hgj ?_
    unfold Oper.wp
    rw [hj]
    show wpAny P md ops Q fuel _ ((a.put (some di) vi).put oj.dst vj) w
    rw [hdj]
    exact h
  · unfold wpOp
    simp only [hoj, hwj, if_true]
    left
    unfold Oper.wp
    rw [hj0]
    show wpAny P md ops Q (fuel + 1) _ (a.put oj.dst vj) w
    rw [hdj]
    refine wpAny_one hrj hoi hgi ?_
    unfold Oper.wp
    rw [hi]
    show wpAny P md ops Q fuel _ ((a.put (some dj) vj).put oi.dst vi) w
    rw [hdi, put_comm' a dj di vj vi (Ne.symm hd), Array.setIfInBounds_comm _ _ (Ne.symm hij)]
    exact h

theorem wp_of_value {o : Oper} {a : Act} {w w' : World} {v : Value} {next : Act → World → Prop} (h : (execOp a.eval o).run P w = .ok (.value v) w') (hn : next (a.put o.dst v) w') : o.wp P a w next Q := by
  unfold Oper.wp
  rw [h]
  exact hn

theorem wp_of_call {o : Oper} {a : Act} {w : World} {f : FuncId} {args : Array Value} {next : Act → World → Prop} (h : (execOp a.eval o).run P w = .ok (.enter f args) w) {v : Value} {R : World → Prop}
    (hc : Calls P f args w fun e w' => e = .returned v ∧ R w') (hn : ∀ w', R w' → next (a.put o.dst v) w') : o.wp P a w next Q := by
  unfold Oper.wp
  rw [h]
  refine hc.mono fun e w' ⟨he, hr⟩ => ?_
  subst he
  exact hn w' hr

theorem stepTo_value {o : Oper} {ρ : Operand → Value} {w w' : World} {v : Value} {K : Value → World → Prop} (h : (execOp ρ o).run P w = .ok (.value v) w') (hk : K v w') : stepTo P K ((execOp ρ o).run P w) := by
  rw [h]; exact hk

end
end Go.Proofs.YtdpbdkacngaemaaDoor

/- The rule of slots with a reader that knows functions; a step that enters a callee. -/
namespace Go.Proofs.YtdpbdkacngaemaaDoor
open Go Go.RowKit
set_option maxRecDepth 100000

theorem stepTo_enter {P : Program} {o : Oper} {ρ : Operand → Value} {w w' : World} {f : FuncId} {args : Array Value} {K : Value → World → Prop} (h : (execOp ρ o).run P w = .ok (.enter f args) w') (hk : Calls P f args w' fun e w'' => ∃ v, e = .returned v ∧ K v w'') : stepTo P K ((execOp ρ o).run P w) := by
  rw [h]
  exact hk

theorem wp_region_slots_f {P : Program} {ops : Array Oper} {Q : Exit → Act → World → Prop} {id : Nat} {a : Act} {w : World} (hm : P.follows .mixedOrders = true) (m : Nat) (ds : List Tmp) (hok : slotsB ops m ds a.tmps.size = true) (G : Nat → Value → World → Prop)
    (mono : ∀ i v w w', i < m → G i v w → Below w.heap.size w w' → G i v w')
    (step : ∀ i o vs ρ w', i < m → ops[i]? = some o → Reads a ds vs ρ → (∀ f, ρ (.func f) = a.eval (.func f)) → Below w.heap.size w w' → (∀ j, afterB ops i j = true → G j (vs j) w') →
      stepTo P (fun v w'' => Below w'.heap.size w' w'' ∧ G i v w'') ((execOp ρ o).run P w'))
    (fin : ∀ vs w', Below w.heap.size w w' → (∀ i, i < m → G i (vs i) w') → wpAny P .any ops Q (ops.size - m) (listedTo ops.size m) (putList vs ds a) w') :
    (Code.region id ops true).wp P Q a w :=
  wp_region_slots hm m ds hok G mono (fun i o vs w' hi ho hb hG => step i o vs (valOf a ds vs) w' hi ho ⟨fun _ _ h => valOf_some h, fun _ h => valOf_none h, fun _ => rfl⟩ (fun _ => rfl) hb hG) fin

end Go.Proofs.YtdpbdkacngaemaaDoor

/- Rows that a call owns: which blocks they are not, when they stay; append in a region that draws its order, and where the row then lies. Nothing here speaks of the program. -/
namespace Go.Proofs.YtdpbdkacngaemaaDoor.ib
open Go Go.RowKit
set_option maxRecDepth 100000

theorem blk_type {w : World} {a b : Nat} {t u : TypeId} {x y : Array Value} (h : Blk w a t x) (k : Blk w b u y) (hn : t ≠ u) : a ≠ b := by
  rintro rfl
  unfold Blk at h k
  rw [h] at k
  simp only [Option.some.injEq, Obj.cells.injEq] at k
  exact hn k.2.1
theorem own_type {w : World} {base e size n a : Nat} {v : Value} {xs : List Value} {t : TypeId} {x : Array Value} (h : w.ownsRow base e size v n xs) (k : Blk w a t x) (hn : t ≠ e) : ∀ j, v.ownBlock = some j → j ≠ a := by
  intro j hj
  rcases h.2 with ⟨rfl, _⟩ | ⟨g, cap, cur, rfl, _, hg, _⟩
  · cases hj
  · simp [Value.ownBlock] at hj
    subst hj
    exact (blk_type k hg hn).symm
theorem row_of_block {w w' : World} {base e size n : Nat} {v : Value} {zs : List Value} (h : w.ownsRow base e size v n zs) (hb : ∀ k, v.ownBlock = some k → w'.heap[k]? = w.heap[k]?) : w'.ownsRow base e size v n zs := by
  refine ⟨h.1, ?_⟩
  rcases h.2 with h2 | ⟨g', cap, cur, h1, h2, h3, h4⟩
  · exact .inl h2
  · refine .inr ⟨g', cap, cur, h1, h2, (hb g' ?_).trans h3, h4⟩
    rw [h1]
    rfl
theorem row_base {w : World} {B B' e size n : Nat} {v : Value} {zs : List Value} (h : w.ownsRow B e size v n zs) (hB : B' ≤ B) : w.ownsRow B' e size v n zs := by
  refine ⟨h.1, ?_⟩
  rcases h.2 with h2 | ⟨g', cap, cur, h1, h2, h3⟩
  · exact .inl h2
  · exact .inr ⟨g', cap, cur, h1, Nat.le_trans hB h2, h3⟩
theorem own_form {w : World} {base e size n : Nat} {v : Value} {xs : List Value} (h : w.ownsRow base e size v n xs) : ∃ A c, v = .slice A n c := by
  rcases h.2 with ⟨rfl, rfl⟩ | ⟨g, cap, cur, rfl, _⟩
  · exact ⟨none, 0, rfl⟩
  · exact ⟨_, cap, rfl⟩
theorem set_oth (w : World) (g i : Nat) (u : Value) (k : Nat) (h : k ≠ g) : (w.setCell ⟨g, i, none⟩ u).heap[k]? = w.heap[k]? := Below.heap_setCell _ _ _ _ h
theorem but_grow {S : Nat → Prop} {a w w' : World} {row : Option Nat} (h : But S a w) (hg : w.grownBy w' row) (hr : ∀ k, row = some k → S k ∨ a.heap.size ≤ k) : But S a w' :=
  h.trans (S' := fun k => row = some k) ⟨hg.os, hg.tape, hg.output, hg.size, fun k hk hn => hg.block k hk (fun e => hn e.symm)⟩ hr

theorem wp_append_any {P : Program} {o : Oper} {a : Act} {w : World} {K : Act → World → Prop} {Q : Exit → Act → World → Prop} (s x : Operand) (t : TypeId)
    (ho : o.op = .call { callee := .builtin .append, args := #[s, x], argTypes := #[t, t] })
    (base : Nat) (e : TypeId) (i : TypeInfo) (z : Value) (size bytes : Nat) (ht : P.underlying t = some (.slice e)) (hi : P.info? e = some i) (hz : i.zero = some z)
    (hsize : i.size = size) (hby : i.bytes = bytes) (hzs : z.cells.size = size) (hsz : 0 < size)
    (v : Value) (n : Nat) (xs : List Value) (hs : a.eval s = v) (hown : w.ownsRow base e size v n xs)
    (ad : Addr) (m c : Nat) (news : List Value) (hx : a.eval x = .slice (some ad) m c) (hl : news.length = m * size) (hnews : ∀ j u, news[j]? = some u → w.cell? (ad.add j) = some u) (h1 : ∀ u ∈ news, u.oneCell' = true)
    (h63 : n + m ≤ maxLen) (hbytes : (n + m) * bytes ≤ 140737488355328) (hbase : base ≤ w.heap.size)
    (h : ∀ v' w', w'.ownsRow base e size v' (n + m) (xs ++ news) → w.grownBy w' v.ownBlock → (v'.ownBlock = v.ownBlock ∨ v'.ownBlock = some w.heap.size) → K (a.put o.dst v') w') : o.wp P a w K Q := by
  obtain ⟨v', w', hrun, h2, h3, _, h5⟩ := run_append_own_at (P := P) w base t o.type e i z size bytes ht hi hz hsize hby hzs hsz v n xs hown ad m c news hl hnews h1 h63 hbytes hbase
  unfold Oper.wp
  simp [execOp, ho, resolve, invoke, builtin, hs, hx, hrun, Result.andThen]
  exact h v' w' h2 h3 h5

/-- All blocks that are of another type than r are as they were. -/
def Kp (r : TypeId) (w w' : World) : Prop := ∀ j t cs, t ≠ r → Blk w j t cs → Blk w' j t cs
theorem Kp.refl (r : TypeId) (w : World) : Kp r w w := fun _ _ _ _ h => h
theorem Kp.trans {r : TypeId} {a b c : World} (h : Kp r a b) (k : Kp r b c) : Kp r a c := fun j t cs hn hb => k j t cs hn (h j t cs hn hb)
theorem Kp.of_below {r : TypeId} {w w' : World} (h : Below w.heap.size w w') : Kp r w w' := fun _ _ _ _ hb => hb.below h
theorem Kp.of_but {r : TypeId} {w w' : World} {c : Nat} {x : Array Value} (h : But (fun j => j = c) w w') (hc : Blk w c r x) : Kp r w w' := fun j t cs hn hb =>
  hb.of_block (h.block j hb.lt (blk_type hb hc hn))
theorem Kp.of_grown {r : TypeId} {base size n : Nat} {v : Value} {xs : List Value} {w w' : World} (h : w.grownBy w' v.ownBlock) (ho : w.ownsRow base r size v n xs) : Kp r w w' := fun j t cs hn hb =>
  hb.of_block (h.block j hb.lt (fun e => own_type ho hb hn j e.symm rfl))
theorem Kp.of_set {r : TypeId} {w : World} {g : Nat} {x : Array Value} (i : Nat) (u : Value) (hg : Blk w g r x) : Kp r w (w.setCell ⟨g, i, none⟩ u) := fun j t cs hn hb =>
  hb.of_block (set_oth _ _ _ _ _ (blk_type hb hg hn))
theorem Kp.row {r : TypeId} {w w' : World} {base e size n : Nat} {v : Value} {zs : List Value} (h : Kp r w w') (hn : e ≠ r) (ho : w.ownsRow base e size v n zs) : w'.ownsRow base e size v n zs := by
  refine ⟨ho.1, ?_⟩
  rcases ho.2 with h2 | ⟨g', cap, cur, h1, h2, h3, h4⟩
  · exact .inl h2
  · exact .inr ⟨g', cap, cur, h1, h2, h g' e cur hn h3, h4⟩
end Go.Proofs.YtdpbdkacngaemaaDoor.ib

/- The program's own copy of changes. -/
namespace Go.Proofs.YtdpbdkacngaemaaDoor.st
open Go Go.RowKit Go.Sort Go.Proofs.YtdpbdkacngaemaaDoor.ib Go.Proofs.YtdpbdkacngaemaaDoor.wi Go.Proofs.YtdpbdkacngaemaaDoor.mt
open Go.Proofs.YtdpbdkacngaemaaDoor.ch (ChL OChs chVals infoCh)
set_option maxRecDepth 100000

theorem one2 (z : Int) (S : ByteArray) : ∀ u ∈ ([Value.int .i64 z, .string S] : List Value), u.oneCell' = true := by
  intro u hu
  simp only [List.mem_cons, List.not_mem_nil, or_false] at hu
  rcases hu with rfl | rfl <;> rfl
theorem news_blk {W : World} {g : Nat} {t : TypeId} {u v : Value} (h : Blk W g t #[u, v]) : ∀ (j : Nat) (x : Value), ([u, v] : List Value)[j]? = some x → W.cell? ((⟨g, 0, none⟩ : Addr).add j) = some x := by
  intro j x hj
  match j, hj with
  | 0, hj =>
    simp only [List.getElem?_cons_zero, Option.some.injEq] at hj
    subst hj
    rw [addr_add]
    exact h.cell 0
  | 1, hj =>
    simp only [List.getElem?_cons_succ, List.getElem?_cons_zero, Option.some.injEq] at hj
    subst hj
    rw [addr_add]
    exact h.cell 1
theorem ochs_snoc {w1 : World} {B : Nat} {v' : Value} {l : List Ch} {x : Ch} (h : w1.ownsRow B 46 2 v' (l.length + 1) (chVals l ++ [.int .i64 x.1, .string (str x.2)])) : OChs w1 B v' (l ++ [x]) := Go.Proofs.YtdpbdkacngaemaaDoor.ch.OChs.snoc h
theorem clone_any (S : ByteArray) (w : World) (h : S.size ≤ 1000000) : Calls Tryd.prog 44 #[.string S] w (okStr S w) := by
  have HC := Lib.hid (Tryd.stringslite_Clone S w (by omega))
  go_enter Tryd.func44, Tryd.ntmps44
  go_wp2_with fail
  refine HC.out.mono ?_
  rintro e W1 ⟨rfl, hb⟩
  have HB := Lib.hid hb
  clear hb
  go_wp2_with fail
  go_ret
  exact ⟨rfl, HB.out⟩

def OwG (A5 : Option Addr) (k c5 gx : Nat) (x1 : Int) (S : ByteArray) : Nat → Value → World → Prop
  | 0, v, _ => v = .slice A5 k c5
  | 1, v, _ => v = .pointer (some ⟨gx, 0, none⟩)
  | 2, v, _ => v = .int .i64 x1
  | 3, v, _ => v = .pointer (some ⟨gx, 1, none⟩)
  | 4, v, _ => v = .string S
  | 5, v, _ => v = .string S
  | 6, v, _ => v = .agg #[.int .i64 x1, .string S]
  | 7, v, W => ∃ g, v = .slice (some ⟨g, 0, none⟩) 1 1 ∧ Blk W g 46 #[.int .i64 x1, .string S]
  | _, _, _ => True
theorem OwG_mono (A5 : Option Addr) (k c5 gx : Nat) (x1 : Int) (S : ByteArray) (i : Nat) (v : Value) (w w' : World) (hi : i < 8) (h : OwG A5 k c5 gx x1 S i v w) (hb : Below w.heap.size w w') : OwG A5 k c5 gx x1 S i v w' := by
  match i, hi, h with
  | 0, _, h | 1, _, h | 2, _, h | 3, _, h | 4, _, h | 5, _, h | 6, _, h => exact h
  | 7, _, ⟨g, h1, h2⟩ => exact ⟨g, h1, h2.below hb⟩
  | j + 8, hi, _ => exact absurd hi (by omega)

def OwRel (l : List Ch) (w : World) (v i : Value) (wr : World) : Prop :=
  ∃ k : Nat, k ≤ l.length ∧ i = .int .i64 (k : Int) ∧ OChs wr w.heap.size v (l.take k) ∧ Below w.heap.size w wr
def endO (l : List Ch) (w : World) (e : Ending) (w' : World) : Prop := ∃ v, e = .returned v ∧ OChs w' w.heap.size v l ∧ Below w.heap.size w w'
set_option maxHeartbeats 6400000 in
theorem own_any (A : Option Addr) (cp : Nat) (l : List Ch) (w : World) (h : ChL w A l) (hl : l.length ≤ 1000) (ht : ∀ c ∈ l, c.2.length ≤ 1000000) :
    Calls Tryd.prog 30 #[.slice A l.length cp] w (endO l w) := by
  obtain ⟨i0, hi, hz0, hz1, hz2⟩ := info_parts infoCh
  have HC := Lib.hid h
  have HT := Lib.hid ht
  clear h ht
  obtain ⟨len, hlen⟩ : ∃ k, l.length = k := ⟨_, rfl⟩
  have HLL := Lib.hid hlen
  rw [hlen] at hl ⊢
  clear hlen
  go_enter Tryd.func30, Tryd.ntmps30
  go_wp2_with fail
  go_loopw [3, 5, 8] (fun v _ i wr => OwRel l w v i wr) (fun _ _ i _ => len - (intOf i).toNat)
  case atStart => exact ⟨0, Nat.zero_le _, rfl, World.ownsRow_nil _ _ _ _, Below.refl _ _⟩
  case round =>
    obtain ⟨k, hk, rfl, ho, hB⟩ := hrel
    have HO := Lib.hid ho
    have HB := Lib.hid hB
    rw [HLL.out] at hk
    clear ho hB
    obtain ⟨A5, c5, rfl⟩ := own_form HO.out
    have HLN : Hid ((l.take k).length = k) := by unfold Hid; rw [List.length_take, HLL.out]; omega
    rw [HLN.out] at HO ⊢
    by_cases hlt : k < len
    · have hki : (k : Int) < (len : Int) := by omega
      have hkl : k < l.length := by rw [HLL.out]; exact hlt
      obtain ⟨bb, bo, rfl, hbb, c0, c1, cb⟩ := HC.out k hkl
      have HSN : Hid (l.take (k + 1) = l.take k ++ [l[k]]) := List.take_succ_eq_append_getElem hkl
      have hth := HT.out _ (List.getElem_mem hkl)
      obtain ⟨x, hx⟩ : ∃ x, l[k] = x := ⟨_, rfl⟩
      rw [hx] at c0 c1 cb HSN hth
      have e0 : wr.cell? ⟨bb, bo + k * 2, none⟩ = some (.int .i64 x.1) := by rw [HB.out.cell (p := ⟨bb, bo + k * 2, none⟩) hbb]; exact c0
      have e1 : wr.cell? ⟨bb, bo + k * 2 + 1, none⟩ = some (.string (str x.2)) := by rw [HB.out.cell (p := ⟨bb, bo + k * 2 + 1, none⟩) hbb]; exact c1
      have lb : bb < wr.heap.size := Nat.lt_of_lt_of_le hbb HB.out.size
      have HCL : Hid (∀ W, Calls Tryd.prog 44 #[.string (str x.2)] W (okStr (str x.2) W)) := fun W => clone_any _ W (by rw [str_size]; exact hth)
      obtain ⟨x1, hx1⟩ : ∃ z, x.1 = z := ⟨_, rfl⟩
      obtain ⟨S, hS⟩ : ∃ z, str x.2 = z := ⟨_, rfl⟩
      rw [hx1] at e0
      rw [hS] at e1 HCL
      have HX1 := Lib.hid hx1
      have HS := Lib.hid hS
      clear hx c0 c1 cb hth hx1 hS
      obtain ⟨W1, hW1⟩ : ∃ z, wr.alloc (.cells #[.int .i64 x1, .string S] 46) = z := ⟨_, rfl⟩
      have hb1 : Below wr.heap.size wr W1 := by rw [← hW1]; exact (Below.refl _ wr).alloc (Nat.le_refl _) _
      have HX : Hid (Blk W1 wr.heap.size 46 #[.int .i64 x1, .string S]) := by rw [← hW1]; exact Blk.new _ _ _
      have HB1 := Lib.hid (below_step HB.out hb1)
      have HO1 : Hid (OChs W1 w.heap.size (.slice A5 k c5) (l.take k)) := row_of_block HO.out (fun j hj => hb1.block j (HO.out.lt j hj).2)
      clear hb1 HO
      go_upto_region 5 with fail
      try rw [hW1]
      clear hW1 e0 e1
      obtain ⟨gx, hgx⟩ : ∃ g, wr.heap.size = g := ⟨_, rfl⟩
      rw [hgx] at HX
      try rw [hgx]
      clear hgx
      refine wp_region_slots_f (by kernel_rfl) 8 [12, 13, 14, 15, 16, 17, 18, 19] (by kernel_rfl) (OwG A5 k c5 gx x1 S) (OwG_mono _ _ _ _ _ _ ) ?_ ?_
      · intro i o vs ρ W hi ho hρ hfn hb hG
        have hc := hρ.const
        have hx := HX.out.below hb
        have x0 := hx.cell 0
        have x1' := hx.cell 1
        have hxl := hx.lt
        simp only [List.getElem?_toArray, List.getElem?_cons_zero, List.getElem?_cons_succ] at x0 x1'
        rcases i with _ | _ | _ | _ | _ | _ | _ | _ | i
        all_goals (first | omega | skip)
        all_goals simp only [List.getElem?_toArray, List.getElem?_cons_zero, List.getElem?_cons_succ, Option.some.injEq] at ho
        all_goals subst ho
        · have o3 : ρ (.tmp 3) = .slice A5 k c5 := hρ.out 3 rfl
          exact stepTo_value (w' := W) (by unfold execOp; simp only [o3, hc]; go_simp) ⟨Below.refl _ _, rfl⟩
        · have o5 : ρ (.tmp 5) = .pointer (some ⟨gx, 0, none⟩) := hρ.out 5 rfl
          exact stepTo_value (w' := W) (by unfold execOp; simp only [o5, hc]; go_simp) ⟨Below.refl _ _, rfl⟩
        · have g13 : vs 1 = .pointer (some ⟨gx, 0, none⟩) := hG 1 (by kernel_rfl)
          have s13 := (hρ.at_ 13 1 rfl).trans g13
          exact stepTo_value (w' := W) (by unfold execOp; simp only [s13, hc]; go_simp) ⟨Below.refl _ _, rfl⟩
        · have o5 : ρ (.tmp 5) = .pointer (some ⟨gx, 0, none⟩) := hρ.out 5 rfl
          exact stepTo_value (w' := W) (by unfold execOp; simp only [o5, hc]; go_simp) ⟨Below.refl _ _, rfl⟩
        · have g15 : vs 3 = .pointer (some ⟨gx, 1, none⟩) := hG 3 (by kernel_rfl)
          have s15 := (hρ.at_ 15 3 rfl).trans g15
          exact stepTo_value (w' := W) (by unfold execOp; simp only [s15, hc]; go_simp) ⟨Below.refl _ _, rfl⟩
        · have g16 : vs 4 = .string S := hG 4 (by kernel_rfl)
          have s16 := (hρ.at_ 16 4 rfl).trans g16
          refine stepTo_enter (f := 44) (args := #[.string S]) (w' := W) (by unfold execOp; simp only [hfn, s16]; go_simp) ((HCL.out W).mono ?_)
          rintro e W' ⟨rfl, hb'⟩
          exact ⟨_, rfl, hb', rfl⟩
        · have g14 : vs 2 = .int .i64 x1 := hG 2 (by kernel_rfl)
          have s14 := (hρ.at_ 14 2 rfl).trans g14
          have g17 : vs 5 = .string S := hG 5 (by kernel_rfl)
          have s17 := (hρ.at_ 17 5 rfl).trans g17
          exact stepTo_value (w' := W) (by unfold execOp; simp only [s14, s17, hc]; go_simp) ⟨Below.refl _ _, rfl⟩
        · have g18 : vs 6 = .agg #[.int .i64 x1, .string S] := hG 6 (by kernel_rfl)
          have s18 := (hρ.at_ 18 6 rfl).trans g18
          exact stepTo_value (w' := W.alloc (.cells #[.int .i64 x1, .string S] 46)) (v := .slice (some ⟨W.heap.size, 0, none⟩) 1 1) (by unfold execOp; simp only [s18]; go_simp) ⟨(Below.refl _ W).alloc (Nat.le_refl _) _, W.heap.size, rfl, Blk.new _ _ _⟩
      · intro vs W hb hG
        have g0 : vs 0 = .slice A5 k c5 := hG 0 (by decide)
        obtain ⟨g, g7, hbk⟩ := hG 7 (by decide)
        have B2 := Lib.hid (below_step HB1.out hb)
        have HO2 : Hid (W.ownsRow w.heap.size 46 2 (.slice A5 k c5) k (chVals (l.take k))) := by
          have ho := HO1.out
          unfold OChs at ho
          rw [HLN.out] at ho
          exact row_of_block ho (fun j hj => hb.block j (ho.lt j hj).2)
        have HNW := Lib.hid (news_blk hbk)
        simp only [putList, putSel, if_true]
        rw [g0, g7]
        generalize vs 1 = y1
        generalize vs 2 = y2
        generalize vs 3 = y3
        generalize vs 4 = y4
        generalize vs 5 = y5
        generalize vs 6 = y6
        clear hG g0 g7 hbk
        simp only [Act.put, List.setIfInBounds_toArray, List.set_cons_succ, List.set_cons_zero]
        refine wpAny_one (i := 8) (by kernel_rfl) rfl rfl ?_
        refine wp_append_own W (.tmp 12) (.tmp 19) 25 rfl w.heap.size 46 i0 (.agg #[.int .i64 0, .string ByteArray.empty]) 2 24 Tryd.underlying25 hi hz0 hz1 hz2 rfl (by decide) _ k _ rfl HO2.out ⟨g, 0, none⟩ 1 1 [.int .i64 x1, .string S] rfl rfl HNW.out (one2 _ _) (by unfold maxLen; omega) (by omega) B2.out.size ?_
        intro v' w1 hown hgrow _
        have HB3 := Lib.hid (B2.out.grown hgrow B2.out.size (fun j hj => (HO2.out.lt j hj).1))
        have HOS : Hid (OChs w1 w.heap.size v' (l.take (k + 1))) := by
          unfold Hid
          rw [HSN.out]
          refine ochs_snoc ?_
          rw [HLN.out, HX1.out, HS.out]
          exact hown
        clear hown hgrow hb
        go_simp
        refine wpAny_one (i := 9) (by kernel_rfl) rfl rfl ?_
        go_simp
        refine ⟨by kernel_rfl, ?_⟩
        go_wp2_with fail
        go_roundw
        case rel => exact ⟨k + 1, by rw [HLL.out]; omega, by go_num, HOS.out, HB3.out⟩
        case measure => simp [intOf]; omega
    · have hki : ¬ (k : Int) < (len : Int) := by omega
      have HE : Hid (l.take k = l) := List.take_of_length_le (by rw [HLL.out]; omega)
      go_wp2_with fail
      go_ret
      exact ⟨_, rfl, by rw [← HE.out]; exact HO.out, HB.out⟩
end Go.Proofs.YtdpbdkacngaemaaDoor.st


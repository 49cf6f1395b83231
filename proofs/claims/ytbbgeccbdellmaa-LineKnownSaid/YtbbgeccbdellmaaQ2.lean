/- Slots, SlotsI, SlotsP, SlotsF. -/
import Derived.Orders
import Derived.Below
set_option linter.unusedVariables false
set_option linter.unusedSimpArgs false
/- A region that draws its order and whose operations make memory: each operation's value is told by a word of its own ('G i'), which stays true when blocks are laid; then every order comes to values of which all these words are true. One step an operation, not one way an order. Nothing here speaks of the program. -/
namespace Go.Proofs.Ytbbgeccbdellmaa
open Go Go.RowKit
set_option maxRecDepth 100000

section
variable {P : Program} {ops : Array Oper} {Q : Exit → Act → World → Prop}

/-- What is asked of an operation that was carried out: it yields a value, or it calls and the callee hands one back. -/
def stepTo (P : Program) (K : Value → World → Prop) : Result Next → Prop
  | .ok (.value v) w' => K v w'
  | .ok (.enter f args) w' => Calls P f args w' fun e w'' => ∃ v, e = .returned v ∧ K v w''
  | _ => False

theorem wp_of_stepTo {o : Oper} {a : Act} {w : World} {K : Value → World → Prop} {next : Act → World → Prop} (h : stepTo P K ((execOp a.eval o).run P w)) (hn : ∀ v w', K v w' → next (a.put o.dst v) w') : o.wp P a w next Q := by
  unfold Oper.wp
  generalize (execOp a.eval o).run P w = r at *
  cases r with
  | ok n w' =>
    cases n <;> simp only [stepTo] at h <;> simp only [Oper.upon]
    case value v => exact hn _ _ h
    case enter f args =>
      refine h.mono fun e w'' he => ?_
      obtain ⟨v, rfl, hk⟩ := he
      exact hn _ _ hk
  | halt x w' => simp only [stepTo] at h

/-- The slots of the operations that are done hold their values. -/
def putSel (L : Nat → Bool) (vs : Nat → Value) : List Tmp → Nat → Act → Act
  | [], _, a => a
  | d :: ds, k, a => putSel L vs ds (k + 1) (if L k then a.put (some d) (vs k) else a)

def putList (vs : Nat → Value) (ds : List Tmp) (a : Act) : Act := putSel (fun _ => true) vs ds 0 a

def updB (L : Nat → Bool) (i : Nat) : Nat → Bool := fun j => if j = i then true else L j
def updV (vs : Nat → Value) (i : Nat) (v : Value) : Nat → Value := fun j => if j = i then v else vs j

theorem putSel_congr (L L' : Nat → Bool) (vs vs' : Nat → Value) : ∀ (ds : List Tmp) (k : Nat) (a : Act), (∀ j, k ≤ j → j < k + ds.length → L j = L' j ∧ (L j = true → vs j = vs' j)) → putSel L vs ds k a = putSel L' vs' ds k a
  | [], _, _, _ => rfl
  | d :: ds, k, a, h => by
    have h0 := h k (Nat.le_refl _) (by simp)
    simp only [putSel]
    rw [h0.1]
    have e : (if L' k = true then a.put (some d) (vs k) else a) = (if L' k = true then a.put (some d) (vs' k) else a) := by
      by_cases hk : L' k = true
      · rw [if_pos hk, if_pos hk, h0.2 (h0.1.trans hk)]
      · rw [if_neg hk, if_neg hk]
    rw [e]
    exact putSel_congr L L' vs vs' ds (k + 1) _ fun j h1 h2 => h j (by omega) (by simp; omega)

theorem put_comm' (a : Act) (d e : Tmp) (v u : Value) (h : d ≠ e) : (a.put (some d) v).put (some e) u = (a.put (some e) u).put (some d) v :=
  Act.put_comm a v u fun x hx => by cases hx; intro hy; cases hy; exact h rfl

theorem putSel_put (L : Nat → Bool) (vs : Nat → Value) (e : Tmp) (u : Value) : ∀ (ds : List Tmp) (k : Nat) (a : Act), e ∉ ds → (putSel L vs ds k a).put (some e) u = putSel L vs ds k (a.put (some e) u)
  | [], _, _, _ => rfl
  | d :: ds, k, a, h => by
    have hd : d ≠ e := fun x => h (by simp [x])
    have hds : e ∉ ds := fun x => h (by simp [x])
    simp only [putSel]
    rw [putSel_put L vs e u ds (k + 1) _ hds]
    congr 1
    by_cases hk : L k = true
    · rw [if_pos hk, if_pos hk, put_comm' a d e _ _ hd]
    · rw [if_neg hk, if_neg hk]

theorem putSel_set (L : Nat → Bool) (vs : Nat → Value) (i : Nat) (v : Value) : ∀ (ds : List Tmp) (k : Nat) (a : Act) (d : Tmp), ds.Nodup → k ≤ i → ds[i - k]? = some d → L i = false → (putSel L vs ds k a).put (some d) v = putSel (updB L i) (updV vs i v) ds k a
  | [], k, a, d, _, _, h, _ => by simp at h
  | e :: ds, k, a, d, hn, hk, h, hL => by
    rw [List.nodup_cons] at hn
    by_cases hki : k = i
    · subst hki
      simp only [Nat.sub_self, List.getElem?_cons_zero, Option.some.injEq] at h
      subst h
      simp only [putSel]
      rw [putSel_put L vs e v ds (k + 1) _ hn.1, hL]
      have e1 : updB L k k = true := by simp [updB]
      have e2 : updV vs k v k = v := by simp [updV]
      rw [e1, e2, if_pos rfl]
      simp only [Bool.false_eq_true, if_false]
      exact putSel_congr _ _ _ _ ds (k + 1) _ fun j h1 _ => by
        have : j ≠ k := by omega
        simp [updB, updV, this]
    · have hlt : i - k = (i - (k + 1)) + 1 := by omega
      rw [hlt, List.getElem?_cons_succ] at h
      have ih := putSel_set L vs i v ds (k + 1) (if L k then a.put (some e) (vs k) else a) d hn.2 (by omega) h hL
      simp only [putSel]
      rw [ih]
      have e1 : updB L i k = L k := by simp [updB, hki]
      have e2 : updV vs i v k = vs k := by simp [updV, hki]
      rw [e1, e2]

theorem putSel_size (L : Nat → Bool) (vs : Nat → Value) : ∀ (ds : List Tmp) (k : Nat) (a : Act), (putSel L vs ds k a).tmps.size = a.tmps.size
  | [], _, _ => rfl
  | d :: ds, k, a => by
    simp only [putSel]
    rw [putSel_size L vs ds]
    split <;> simp [Act.put]

theorem eval_put_ne (a : Act) (d t : Tmp) (v : Value) (h : d ≠ t) : (a.put (some d) v).eval (.tmp t) = a.eval (.tmp t) :=
  Act.eval_put fun e he hx => by cases he; cases hx; exact h rfl

theorem putSel_out (L : Nat → Bool) (vs : Nat → Value) (t : Tmp) : ∀ (ds : List Tmp) (k : Nat) (a : Act), t ∉ ds → (putSel L vs ds k a).eval (.tmp t) = a.eval (.tmp t)
  | [], _, _, _ => rfl
  | d :: ds, k, a, h => by
    have hd : d ≠ t := fun x => h (by simp [x])
    have hds : t ∉ ds := fun x => h (by simp [x])
    simp only [putSel]
    rw [putSel_out L vs t ds (k + 1) _ hds]
    split
    · exact eval_put_ne a d t _ hd
    · rfl

theorem putSel_in (L : Nat → Bool) (vs : Nat → Value) (t : Tmp) : ∀ (ds : List Tmp) (k j : Nat) (a : Act), ds.Nodup → ds[j]? = some t → L (k + j) = true → t < a.tmps.size → (putSel L vs ds k a).eval (.tmp t) = vs (k + j)
  | [], _, _, _, _, h, _, _ => by simp at h
  | d :: ds, k, j, a, hn, h, hL, hs => by
    rw [List.nodup_cons] at hn
    cases j with
    | zero =>
      simp only [List.getElem?_cons_zero, Option.some.injEq] at h
      subst h
      simp only [putSel]
      rw [putSel_out L vs d ds (k + 1) _ hn.1, if_pos (by simpa using hL)]
      simp [Act.eval, Act.put, hs]
    | succ j =>
      rw [List.getElem?_cons_succ] at h
      simp only [putSel]
      have := putSel_in L vs t ds (k + 1) j (if L k then a.put (some d) (vs k) else a) hn.2 h (by rw [show k + 1 + j = k + (j + 1) from by omega]; exact hL) (by split <;> simp [Act.put, hs])
      rw [this]
      congr 1
      omega

/-- What an operand reads, once all that it hangs on is done. -/
def valOf (a0 : Act) (ds : List Tmp) (vs : Nat → Value) : Operand → Value
  | .tmp t => match ds.idxOf? t with
    | some j => vs j
    | none => a0.eval (.tmp t)
  | x => a0.eval x

theorem valOf_none {a0 : Act} {ds : List Tmp} {vs : Nat → Value} {t : Tmp} (h : ds.idxOf? t = none) : valOf a0 ds vs (.tmp t) = a0.eval (.tmp t) := by
  unfold valOf
  simp only [h]
theorem valOf_some {a0 : Act} {ds : List Tmp} {vs : Nat → Value} {t : Tmp} {j : Nat} (h : ds.idxOf? t = some j) : valOf a0 ds vs (.tmp t) = vs j := by
  unfold valOf
  simp only [h]

theorem rep_false (n i : Nat) : (Array.replicate n false).getD i false = false := by
  by_cases h : i < n <;> simp [h]

def afterB (ops : Array Oper) (i j : Nat) : Bool := match ops[i]? with
  | some o => o.after.any fun e => Region.binds .any e && e.on == j
  | none => false

/-- What is asked of the region itself; one closed reckoning. m: so many operations go by their words; those behind them come when all of these are done. -/
def slotsB (ops : Array Oper) (m : Nat) (ds : List Tmp) (size : Nat) : Bool :=
  decide (m ≤ ops.size) && decide (ds.length = m) && decide ds.Nodup && ds.all (fun d => decide (d < size)) &&
  (List.range m).all (fun i => match ops[i]? with
    | some o => o.guard.isNone && o.dst == ds[i]? && (match o.op with | .select .. => false | _ => true) &&
      o.after.all (fun e => !Region.binds .any e || decide (e.on < i)) &&
      o.op.operands.toList.all (fun x => match x with
        | .tmp t => match ds.idxOf? t with
          | some j => afterB ops i j
          | none => true
        | _ => true)
    | none => false) &&
  (List.range ops.size).all (fun j => decide (j < m) || (match ops[j]? with
    | some o => (o.after.any fun e => Region.binds .any e && decide (m ≤ e.on)) || (List.range m).all (fun i => afterB ops j i || (List.range m).any (fun k => afterB ops k i))
    | none => false))

structure SlotsOk (ops : Array Oper) (m : Nat) (ds : List Tmp) (size : Nat) : Prop where
  le : m ≤ ops.size
  len : ds.length = m
  nodup : ds.Nodup
  small : ∀ d ∈ ds, d < size
  each : ∀ i, i < m → ∃ o, ops[i]? = some o ∧ o.guard = none ∧ o.dst = ds[i]? ∧ (∀ cs b, o.op ≠ .select cs b) ∧ (∀ e ∈ o.after, Region.binds .any e = true → e.on < i) ∧
    (∀ t j, Operand.tmp t ∈ o.op.operands → ds.idxOf? t = some j → afterB ops i j = true)
  tail : ∀ j o, m ≤ j → ops[j]? = some o → (∃ e ∈ o.after, Region.binds .any e = true ∧ m ≤ e.on) ∨ (∀ i, i < m → afterB ops j i = true ∨ ∃ k, k < m ∧ afterB ops k i = true)

theorem slots_ok {m : Nat} {ds : List Tmp} {size : Nat} (h : slotsB ops m ds size = true) : SlotsOk ops m ds size := by
  unfold slotsB at h
  simp only [Bool.and_eq_true, decide_eq_true_eq, List.all_eq_true, List.mem_range] at h
  obtain ⟨⟨⟨⟨⟨h1, h2⟩, h3⟩, h4⟩, h5⟩, h6⟩ := h
  refine ⟨h1, h2, h3, h4, fun i hi => ?_, fun j o hj ho => ?_⟩
  · have h := h5 i hi
    cases ho : ops[i]? with
    | none => simp [ho] at h
    | some o =>
      simp only [ho, Bool.and_eq_true] at h
      obtain ⟨⟨⟨⟨g1, g2⟩, g3⟩, g4⟩, g5⟩ := h
      refine ⟨o, rfl, by simpa using g1, by simpa using g2, fun cs b hs => by simp [hs] at g3, fun e he hb => ?_, fun t j ht hj => ?_⟩
      · have := Array.all_eq_true_iff_forall_mem.1 g4 e he
        simpa [hb] using this
      · have := List.all_eq_true.1 g5 (.tmp t) (by simpa using ht)
        simpa [hj] using this
  · have hlt : j < ops.size := (Array.getElem?_eq_some_iff.1 ho).1
    have h := h6 j hlt
    simp only [ho, Bool.or_eq_true, decide_eq_true_eq] at h
    rcases h with h | h | h
    · omega
    · obtain ⟨e, he, hb⟩ := Array.any_eq_true'.1 h
      simp only [Bool.and_eq_true, decide_eq_true_eq] at hb
      exact .inl ⟨e, he, hb.1, hb.2⟩
    · refine .inr fun i hi => ?_
      have := List.all_eq_true.1 h i (by simpa using hi)
      simp only [Bool.or_eq_true, List.any_eq_true, List.mem_range] at this
      exact this

theorem afterB_iff {i j : Nat} {o : Oper} (ho : ops[i]? = some o) (h : afterB ops i j = true) : ∃ e ∈ o.after, Region.binds .any e = true ∧ e.on = j := by
  unfold afterB at h
  simp only [ho] at h
  obtain ⟨e, he, hb⟩ := Array.any_eq_true'.1 h
  simp only [Bool.and_eq_true, beq_iff_eq] at hb
  exact ⟨e, he, hb.1, hb.2⟩

def listedTo (n m : Nat) : Array Bool := (Array.range n).map fun i => decide (i < m)

/-- The state in the midst of the region. -/
structure SInv (ops : Array Oper) (a0 : Act) (w0 : World) (m : Nat) (ds : List Tmp) (G : Nat → Value → World → Prop) (listed : Array Bool) (vs : Nat → Value) (a : Act) (w : World) : Prop where
  size : listed.size = ops.size
  tail : ∀ j, m ≤ j → listed.getD j false = false
  closed : ∀ i o, ops[i]? = some o → listed.getD i false = true → ∀ e ∈ o.after, Region.binds .any e = true → listed.getD e.on false = true
  ext : Below w0.heap.size w0 w
  good : ∀ i, i < m → listed.getD i false = true → G i (vs i) w
  act : a = putSel (fun i => listed.getD i false) vs ds 0 a0

/-- How many of the first m are still to come. -/
def toCome (m : Nat) (listed : Array Bool) : Nat := (List.range m).countP fun i => !listed.getD i false

theorem toCome_set {m i : Nat} {listed : Array Bool} (hi : i < m) (hs : i < listed.size) (h : listed.getD i false = false) : toCome m listed = toCome m (listed.setIfInBounds i true) + 1 := by
  unfold toCome
  induction m with
  | zero => omega
  | succ m ih =>
    rw [List.range_succ, List.countP_append, List.countP_append]
    simp only [List.countP_singleton]
    by_cases e : i = m
    · subst e
      have h1 : (listed.setIfInBounds i true).getD i false = true := by simp [hs]
      rw [h, h1]
      have h2 : List.countP (fun j => !listed.getD j false) (List.range i) = List.countP (fun j => !(listed.setIfInBounds i true).getD j false) (List.range i) := by
        apply List.countP_congr
        intro j hj
        rw [getD_set_ne false (by have := List.mem_range.1 hj; omega)]
      rw [h2]
      rfl
    · have := ih (by omega)
      rw [this, getD_set_ne false e]
      omega

theorem toCome_zero {m : Nat} {listed : Array Bool} (h : toCome m listed = 0) : ∀ i, i < m → listed.getD i false = true := by
  intro i hi
  unfold toCome at h
  rw [List.countP_eq_zero] at h
  have := h i (List.mem_range.2 hi)
  simpa using this

theorem getD_false_true {listed : Array Bool} {i : Nat} (hs : i < listed.size) : listed.getD i true = listed.getD i false := by simp [hs]

theorem updB_listed {listed : Array Bool} {i : Nat} (hs : i < listed.size) : updB (fun j => listed.getD j false) i = fun j => (listed.setIfInBounds i true).getD j false := by
  funext j
  unfold updB
  by_cases e : j = i
  · subst e; simp [hs]
  · rw [if_neg e, getD_set_ne false (Ne.symm e)]

variable {a0 : Act} {w0 : World} {m : Nat} {ds : List Tmp} {G : Nat → Value → World → Prop}

theorem below_tr {w0 w w' : World} (h : Below w0.heap.size w0 w) (g : Below w.heap.size w w') : Below w0.heap.size w0 w' := h.trans (g.mono h.size)

theorem slots_go (ok : SlotsOk ops m ds a0.tmps.size)
    (mono : ∀ i v w w', i < m → G i v w → Below w.heap.size w w' → G i v w')
    (step : ∀ i o vs w, i < m → ops[i]? = some o → Below w0.heap.size w0 w → (∀ j, afterB ops i j = true → G j (vs j) w) →
      stepTo P (fun v w' => Below w.heap.size w w' ∧ G i v w') ((execOp (valOf a0 ds vs) o).run P w))
    (fin : ∀ vs w', Below w0.heap.size w0 w' → (∀ i, i < m → G i (vs i) w') → wpAny P .any ops Q (ops.size - m) (listedTo ops.size m) (putList vs ds a0) w') :
    ∀ (r : Nat) (listed : Array Bool) (vs : Nat → Value) (a : Act) (w : World), SInv ops a0 w0 m ds G listed vs a w → toCome m listed = r → wpAny P .any ops Q (ops.size - m + r) listed a w
  | 0, listed, vs, a, w, hI, hr => by
    have hall := toCome_zero hr
    have hl : listed = listedTo ops.size m := by
      apply Array.ext
      · simp [listedTo, hI.size]
      · intro i h1 h2
        have e : listed.getD i false = listed[i] := by simp [h1]
        by_cases hi : i < m
        · have := hall i hi
          rw [e] at this
          simp [listedTo, this, hi]
        · have := hI.tail i (by omega)
          rw [e] at this
          simp [listedTo, this, hi]
    have ha : a = putList vs ds a0 := by
      rw [hI.act]
      exact putSel_congr _ _ _ _ ds 0 a0 fun j _ hj => ⟨hall j (by rw [← ok.len]; omega), fun _ => rfl⟩
    rw [hl, ha, Nat.add_zero]
    exact fin vs w hI.ext fun i hi => hI.good i hi (hall i hi)
  | r + 1, listed, vs, a, w, hI, hr => by
    refine ⟨fun h0 => ?_, fun i hi => ?_⟩
    · -- the least one that is still to come may come
      exfalso
      have hex : ∃ i, i < m ∧ listed.getD i false = false := by
        apply Classical.byContradiction
        intro hn
        have : toCome m listed = 0 := by
          unfold toCome
          rw [List.countP_eq_zero]
          intro i hi
          have hi' := List.mem_range.1 hi
          cases hb : listed.getD i false
          · exact absurd ⟨i, hi', hb⟩ hn
          · simp
        omega
      have key : ∀ n i, i < n → i < m → listed.getD i false = false → False := by
        intro n
        induction n with
        | zero => intro i h; omega
        | succ n ih =>
          intro i hin him hf
          obtain ⟨o, ho, _, _, _, hlow, _⟩ := ok.each i him
          have hs : i < listed.size := by rw [hI.size]; exact Nat.lt_of_lt_of_le him ok.le
          have : i ∈ Region.ready .any ops listed := by
            rw [mem_ready]
            refine ⟨by rw [getD_false_true hs]; exact hf, o, ho, fun e he hb => ?_⟩
            cases hb' : listed.getD e.on false
            · exact (ih e.on (by have := hlow e he hb; omega) (by have := hlow e he hb; omega) hb').elim
            · rfl
          rw [h0] at this
          cases this
      obtain ⟨i, him, hf⟩ := hex
      exact key (i + 1) i (by omega) him hf
    · obtain ⟨hun, o, ho, hall⟩ := mem_ready.1 hi
      have hio : i < ops.size := (Array.getElem?_eq_some_iff.1 ho).1
      have hs : i < listed.size := by rw [hI.size]; exact hio
      have hf : listed.getD i false = false := by rw [← getD_false_true hs]; exact hun
      by_cases him : i < m
      · obtain ⟨o', ho', hgd, hdst, hsel, hlow, hopn⟩ := ok.each i him
        obtain rfl : o = o' := Option.some.inj (ho.symm.trans ho')
        unfold wpOp
        simp only [ho]
        have hw : Region.wanted o (yielded ops a.tmps) = true := by simp [Region.wanted, hgd]
        rw [if_pos hw]
        left
        have hρ : execOp a.eval o = execOp (valOf a0 ds vs) o := by
          refine execOp_congr o hsel fun x hx => ?_
          rw [hI.act]
          cases x with
          | tmp t =>
            cases hj : ds.idxOf? t with
            | none =>
              rw [valOf_none hj]
              exact putSel_out _ _ t ds 0 a0 (by rw [List.idxOf?_eq_none_iff] at hj; exact hj)
            | some j =>
              rw [valOf_some hj]
              have hdj : ds[j]? = some t := by
                have := List.of_findIdx?_eq_some (p := (· == t)) (xs := ds) (i := j) (by simpa [List.idxOf?] using hj)
                cases hd : ds[j]? with
                | none => simp [hd] at this
                | some d => simp [hd] at this; rw [this]
              obtain ⟨e, he, hb, rfl⟩ := afterB_iff ho (hopn t j hx hj)
              have := putSel_in (fun i => listed.getD i false) vs t ds 0 e.on a0 ok.nodup hdj (by simpa using hall e he hb) (ok.small t (List.mem_of_getElem? hdj))
              simpa using this
          | const v => simp only [valOf]; rfl
          | global g => simp only [valOf]; rfl
          | func f => simp only [valOf]; rfl
        have hst := step i o vs w him ho hI.ext fun j hj => by
          obtain ⟨e, he, hb, rfl⟩ := afterB_iff ho hj
          exact hI.good e.on (by have := hlow e he hb; omega) (hall e he hb)
        rw [← hρ] at hst
        refine wp_of_stepTo hst fun v w' ⟨hbel, hG⟩ => ?_
        have hdi : ∃ d, ds[i]? = some d := ⟨ds[i]'(by rw [ok.len]; exact him), List.getElem?_eq_getElem _⟩
        obtain ⟨d, hd⟩ := hdi
        refine slots_go ok mono step fin r (listed.setIfInBounds i true) (updV vs i v) (a.put o.dst v) w' ⟨?_, ?_, ?_, ?_, ?_, ?_⟩ ?_
        · simp [hI.size]
        · intro j hj
          rw [getD_set_ne false (by omega)]
          exact hI.tail j hj
        · intro j oj hoj hl e he hb
          by_cases hji : j = i
          · subst hji
            obtain rfl : o = oj := Option.some.inj (ho.symm.trans hoj)
            exact getD_set_true (hall e he hb)
          · rw [getD_set_ne false (Ne.symm hji)] at hl
            exact getD_set_true (hI.closed j oj hoj hl e he hb)
        · exact below_tr hI.ext hbel
        · intro j hj hl
          by_cases hji : j = i
          · subst hji
            simpa [updV] using hG
          · rw [getD_set_ne false (Ne.symm hji)] at hl
            have := mono j _ w w' hj (hI.good j hj hl) hbel
            simpa [updV, hji] using this
        · rw [hdst, hd, hI.act]
          have := putSel_set (fun i => listed.getD i false) vs i v ds 0 a0 d ok.nodup (Nat.zero_le _) (by simpa using hd) hf
          rw [this, updB_listed hs]
        · have := toCome_set him hs hf
          omega
      · exfalso
        have hex : ∃ k, k < m ∧ listed.getD k false = false := by
          apply Classical.byContradiction
          intro hn
          have : toCome m listed = 0 := by
            unfold toCome
            rw [List.countP_eq_zero]
            intro k hk
            cases hb : listed.getD k false
            · exact absurd ⟨k, List.mem_range.1 hk, hb⟩ hn
            · simp
          omega
        rcases ok.tail i o (by omega) ho with ⟨e, he, hb, hme⟩ | hcov
        · have h1 := hall e he hb
          rw [hI.tail e.on hme] at h1
          cases h1
        · have key : ∀ n k, m - k ≤ n → k < m → listed.getD k false = true := by
            intro n
            induction n with
            | zero => intro k h1 h2; omega
            | succ n ih =>
              intro k h1 h2
              rcases hcov k h2 with h | ⟨k', hk', h⟩
              · obtain ⟨e, he, hb, rfl⟩ := afterB_iff ho h
                exact hall e he hb
              · obtain ⟨ok', hok', _, _, _, hlow, _⟩ := ok.each k' hk'
                obtain ⟨e, he, hb, rfl⟩ := afterB_iff hok' h
                have hlt := hlow e he hb
                exact hI.closed k' ok' hok' (ih k' (by omega) hk') e he hb
          obtain ⟨k, hk, hkf⟩ := hex
          rw [key m k (by omega) hk] at hkf
          cases hkf

theorem putSel_none : ∀ (ds : List Tmp) (k : Nat) (a : Act), putSel (fun _ => false) (fun _ => undef) ds k a = a
  | [], _, _ => rfl
  | d :: ds, k, a => by simp only [putSel, Bool.false_eq_true, if_false]; exact putSel_none ds (k + 1) a

/-- THE RULE. -/
theorem wp_region_slots {id : Nat} {a : Act} {w : World} (hm : P.follows .mixedOrders = true) (m : Nat) (ds : List Tmp) (hok : slotsB ops m ds a.tmps.size = true) (G : Nat → Value → World → Prop)
    (mono : ∀ i v w w', i < m → G i v w → Below w.heap.size w w' → G i v w')
    (step : ∀ i o vs w', i < m → ops[i]? = some o → Below w.heap.size w w' → (∀ j, afterB ops i j = true → G j (vs j) w') →
      stepTo P (fun v w'' => Below w'.heap.size w' w'' ∧ G i v w'') ((execOp (valOf a ds vs) o).run P w'))
    (fin : ∀ vs w', Below w.heap.size w w' → (∀ i, i < m → G i (vs i) w') → wpAny P .any ops Q (ops.size - m) (listedTo ops.size m) (putList vs ds a) w') :
    (Code.region id ops true).wp P Q a w := by
  have ok := slots_ok hok
  have hd : Below w.heap.size w { w with drawn := w.drawn + 1 } := ⟨rfl, rfl, rfl, Nat.le_refl _, fun _ _ => rfl⟩
  refine wp_region_any hm ?_
  have h0 : toCome m (Array.replicate ops.size false) = m := by
    have := List.countP_eq_length (l := List.range m) (p := fun i => !(Array.replicate ops.size false).getD i false) |>.2 fun i _ => by rw [rep_false]; rfl
    unfold toCome
    rw [this, List.length_range]
  have ha : a = putSel (fun i => (Array.replicate ops.size false).getD i false) (fun _ => undef) ds 0 a := by
    have : putSel (fun i => (Array.replicate ops.size false).getD i false) (fun _ => undef) ds 0 a = putSel (fun _ => false) (fun _ => undef) ds 0 a := putSel_congr _ _ _ _ ds 0 a fun j _ _ => ⟨rep_false _ j, fun _ => rfl⟩
    rw [this]
    exact (putSel_none ds 0 a).symm
  have hI : SInv ops a w m ds G (Array.replicate ops.size false) (fun _ => undef) a { w with drawn := w.drawn + 1 } := {
    size := by simp
    tail := fun j _ => rep_false _ j
    closed := fun i o _ h => by rw [rep_false] at h; cases h
    ext := hd
    good := fun i _ h => by rw [rep_false] at h; cases h
    act := ha }
  have h1 := slots_go (Q := Q) ok mono step fin m _ _ a _ hI h0
  have e : ops.size - m + m = ops.size := Nat.sub_add_cancel ok.le
  rw [e] at h1
  exact h1

/-- What an operation's reader is known to read. -/
structure Reads (a : Act) (ds : List Tmp) (vs : Nat → Value) (ρ : Operand → Value) : Prop where
  at_ : ∀ t j, ds.idxOf? t = some j → ρ (.tmp t) = vs j
  out : ∀ t, ds.idxOf? t = none → ρ (.tmp t) = a.eval (.tmp t)
  const : ∀ v, ρ (.const v) = v

/-- THE RULE, its reader a variable. -/
theorem wp_region_slots_r {id : Nat} {a : Act} {w : World} (hm : P.follows .mixedOrders = true) (m : Nat) (ds : List Tmp) (hok : slotsB ops m ds a.tmps.size = true) (G : Nat → Value → World → Prop)
    (mono : ∀ i v w w', i < m → G i v w → Below w.heap.size w w' → G i v w')
    (step : ∀ i o vs ρ w', i < m → ops[i]? = some o → Reads a ds vs ρ → Below w.heap.size w w' → (∀ j, afterB ops i j = true → G j (vs j) w') →
      stepTo P (fun v w'' => Below w'.heap.size w' w'' ∧ G i v w'') ((execOp ρ o).run P w'))
    (fin : ∀ vs w', Below w.heap.size w w' → (∀ i, i < m → G i (vs i) w') → wpAny P .any ops Q (ops.size - m) (listedTo ops.size m) (putList vs ds a) w') :
    (Code.region id ops true).wp P Q a w :=
  wp_region_slots hm m ds hok G mono (fun i o vs w' hi ho hb hG => step i o vs (valOf a ds vs) w' hi ho ⟨fun _ _ h => valOf_some h, fun _ h => valOf_none h, fun _ => rfl⟩ hb hG) fin

/-- Behind the rule: one operation that alone may come. -/
theorem wpAny_one {md : Region.Mode} {i : Nat} {o : Oper} {fuel : Nat} {listed : Array Bool} {a : Act} {w : World} (hr : Region.ready md ops listed = [i]) (ho : ops[i]? = some o) (hg : o.guard = none)
    (h : o.wp P a w (wpAny P md ops Q fuel (listed.setIfInBounds i true)) Q) : wpAny P md ops Q (fuel + 1) listed a w := by
  refine wpAny_all hr (by simp) fun j hj => ?_
  obtain rfl : j = i := by simpa using hj
  unfold wpOp
  simp only [ho]
  have hw : Region.wanted o (yielded ops a.tmps) = true := by simp [Region.wanted, hg]
  rw [if_pos hw]
  exact .inl h

/-- .. two of them, that yield values in whatever world and do not touch each other. -/
theorem wpAny_two {md : Region.Mode} {i j : Nat} {oi oj : Oper} {di dj : Tmp} {vi vj : Value} {fuel : Nat} {listed : Array Bool} {a : Act} {w : World} (hr : Region.ready md ops listed = [i, j])
    (hri : Region.ready md ops (listed.setIfInBounds i true) = [j]) (hrj : Region.ready md ops (listed.setIfInBounds j true) = [i]) (hij : i ≠ j)
    (hoi : ops[i]? = some oi) (hoj : ops[j]? = some oj) (hgi : oi.guard = none) (hgj : oj.guard = none) (hdi : oi.dst = some di) (hdj : oj.dst = some dj) (hd : di ≠ dj)
    (hi : ∀ v, (execOp (a.put (some dj) v).eval oi).run P w = .ok (.value vi) w) (hi0 : (execOp a.eval oi).run P w = .ok (.value vi) w)
    (hj : ∀ v, (execOp (a.put (some di) v).eval oj).run P w = .ok (.value vj) w) (hj0 : (execOp a.eval oj).run P w = .ok (.value vj) w)
    (h : wpAny P md ops Q fuel ((listed.setIfInBounds i true).setIfInBounds j true) ((a.put (some di) vi).put (some dj) vj) w) : wpAny P md ops Q (fuel + 2) listed a w := by
  refine wpAny_all hr (by simp) fun k hk => ?_
  have hwi : ∀ b : Act, Region.wanted oi (yielded ops b.tmps) = true := fun b => by simp [Region.wanted, hgi]
  have hwj : ∀ b : Act, Region.wanted oj (yielded ops b.tmps) = true := fun b => by simp [Region.wanted, hgj]
  rcases (show k = i ∨ k = j by simpa using hk) with rfl | rfl
  · unfold wpOp
    simp only [hoi, hwi, if_true]
    left
    unfold Oper.wp
    rw [hi0]
    show wpAny P md ops Q (fuel + 1) _ (a.put oi.dst vi) w
    rw [hdi]
    refine wpAny_one hri hoj hgj ?_
    unfold Oper.wp
    rw [hj]
    show wpAny P md ops Q fuel _ ((a.put (some di) vi).put oj.dst vj) w
    rw [hdj]
    exact h
  · unfold wpOp
    simp only [hoj, hwj, if_true]
    left
    unfold Oper.wp
    rw [hj0]
    show wpAny P md ops Q (fuel + 1) _ (a.put oj.dst vj) w
    rw [hdj]
    refine wpAny_one hrj hoi hgi ?_
    unfold Oper.wp
    rw [hi]
    show wpAny P md ops Q fuel _ ((a.put (some dj) vj).put oi.dst vi) w
    rw [hdi, put_comm' a dj di vj vi (Ne.symm hd), Array.setIfInBounds_comm _ _ (Ne.symm hij)]
    exact h

theorem wp_of_value {o : Oper} {a : Act} {w w' : World} {v : Value} {next : Act → World → Prop} (h : (execOp a.eval o).run P w = .ok (.value v) w') (hn : next (a.put o.dst v) w') : o.wp P a w next Q := by
  unfold Oper.wp
  rw [h]
  exact hn

theorem wp_of_call {o : Oper} {a : Act} {w : World} {f : FuncId} {args : Array Value} {next : Act → World → Prop} (h : (execOp a.eval o).run P w = .ok (.enter f args) w) {v : Value} {R : World → Prop}
    (hc : Calls P f args w fun e w' => e = .returned v ∧ R w') (hn : ∀ w', R w' → next (a.put o.dst v) w') : o.wp P a w next Q := by
  unfold Oper.wp
  rw [h]
  refine hc.mono fun e w' ⟨he, hr⟩ => ?_
  subst he
  exact hn w' hr

theorem stepTo_value {o : Oper} {ρ : Operand → Value} {w w' : World} {v : Value} {K : Value → World → Prop} (h : (execOp ρ o).run P w = .ok (.value v) w') (hk : K v w') : stepTo P K ((execOp ρ o).run P w) := by
  rw [h]; exact hk

end
end Go.Proofs.Ytbbgeccbdellmaa

/- A region that draws its order, told by one word on what is listed, the values and the world; guarded operations too. One step an operation, whatever the order. Nothing here speaks of the program. -/
namespace Go.Proofs.Ytbbgeccbdellmaa
open Go Go.RowKit
set_option maxRecDepth 100000

section
variable {P : Program} {ops : Array Oper} {Q : Exit → Act → World → Prop}

def slotsGB (ops : Array Oper) (ds : List Tmp) (size : Nat) : Bool :=
  decide (ds.length = ops.size) && decide ds.Nodup && ds.all (fun d => decide (d < size)) &&
  (List.range ops.size).all (fun i => match ops[i]? with
    | some o => o.dst == ds[i]? && (match o.op with | .select .. => false | _ => true) &&
      o.after.all (fun e => !Region.binds .any e || decide (e.on < i)) &&
      (match o.guard with | none => true | some g => afterB ops i g.1) &&
      o.op.operands.toList.all (fun x => match x with
        | .tmp t => match ds.idxOf? t with
          | some j => afterB ops i j
          | none => true
        | _ => true)
    | none => false)

structure SlotsG (ops : Array Oper) (ds : List Tmp) (size : Nat) : Prop where
  len : ds.length = ops.size
  nodup : ds.Nodup
  small : ∀ d ∈ ds, d < size
  each : ∀ i, i < ops.size → ∃ o, ops[i]? = some o ∧ o.dst = ds[i]? ∧ (∀ cs b, o.op ≠ .select cs b) ∧ (∀ e ∈ o.after, Region.binds .any e = true → e.on < i) ∧
    (∀ j want, o.guard = some (j, want) → afterB ops i j = true) ∧ (∀ t j, Operand.tmp t ∈ o.op.operands → ds.idxOf? t = some j → afterB ops i j = true)

theorem slotsG_ok {ds : List Tmp} {size : Nat} (h : slotsGB ops ds size = true) : SlotsG ops ds size := by
  unfold slotsGB at h
  simp only [Bool.and_eq_true, decide_eq_true_eq, List.all_eq_true, List.mem_range] at h
  obtain ⟨⟨⟨h2, h3⟩, h4⟩, h5⟩ := h
  refine ⟨h2, h3, h4, fun i hi => ?_⟩
  have h := h5 i hi
  cases ho : ops[i]? with
  | none => simp [ho] at h
  | some o =>
    simp only [ho, Bool.and_eq_true] at h
    obtain ⟨⟨⟨⟨g2, g3⟩, g4⟩, g1⟩, g5⟩ := h
    refine ⟨o, rfl, by simpa using g2, fun cs b hs => by simp [hs] at g3, fun e he hb => ?_, fun j want hg => ?_, fun t j ht hj => ?_⟩
    · have := Array.all_eq_true_iff_forall_mem.1 g4 e he
      simpa [hb] using this
    · simpa [hg] using g1
    · have := List.all_eq_true.1 g5 (.tmp t) (by simpa using ht)
      simpa [hj] using this

/-- What an operation's reader is known to read, a function's name too. -/
structure ReadsF (a : Act) (ds : List Tmp) (vs : Nat → Value) (ρ : Operand → Value) : Prop where
  at_ : ∀ t j, ds.idxOf? t = some j → ρ (.tmp t) = vs j
  out : ∀ t, ds.idxOf? t = none → ρ (.tmp t) = a.eval (.tmp t)
  const : ∀ v, ρ (.const v) = v
  fn : ∀ f, ρ (.func f) = a.eval (.func f)

structure IInv (ops : Array Oper) (a0 : Act) (ds : List Tmp) (I : (Nat → Bool) → (Nat → Value) → World → Prop) (listed : Array Bool) (vs : Nat → Value) (a : Act) (w : World) : Prop where
  size : listed.size = ops.size
  act : a = putSel (fun i => listed.getD i false) vs ds 0 a0
  inv : I (fun i => listed.getD i false) vs w

variable {a0 : Act} {ds : List Tmp} {I : (Nat → Bool) → (Nat → Value) → World → Prop}

theorem idx_get {t : Tmp} {j : Nat} (hj : ds.idxOf? t = some j) : ds[j]? = some t := by
  have := List.of_findIdx?_eq_some (p := (· == t)) (xs := ds) (i := j) (by simpa [List.idxOf?] using hj)
  cases hd : ds[j]? with
  | none => simp [hd] at this
  | some d => simp [hd] at this; rw [this]

theorem inv_go (ok : SlotsG ops ds a0.tmps.size)
    (step : ∀ i o L vs ρ w, ops[i]? = some o → L i = false → (∀ j, afterB ops i j = true → L j = true) → ReadsF a0 ds vs ρ → (∀ j want, o.guard = some (j, want) → vs j = .bool want) → I L vs w →
      stepTo P (fun v w' => I (updB L i) (updV vs i v) w') ((execOp ρ o).run P w))
    (skip : ∀ i o L vs w j want, ops[i]? = some o → L i = false → (∀ j, afterB ops i j = true → L j = true) → o.guard = some (j, want) → vs j ≠ .bool want → I L vs w → I (updB L i) (updV vs i undef) w)
    (fin : ∀ vs w', I (fun j => decide (j < ops.size)) vs w' → Q .normal (putList vs ds a0) w') :
    ∀ (r : Nat) (listed : Array Bool) (vs : Nat → Value) (a : Act) (w : World), IInv ops a0 ds I listed vs a w → toCome ops.size listed = r → wpAny P .any ops Q r listed a w
  | 0, listed, vs, a, w, hI, hr => by
    have hall := toCome_zero hr
    have hn : Region.ready .any ops listed = [] := by
      apply List.eq_nil_iff_forall_not_mem.2
      intro i hi
      obtain ⟨hun, o, ho, _⟩ := mem_ready.1 hi
      have hio : i < ops.size := (Array.getElem?_eq_some_iff.1 ho).1
      have := hall i hio
      rw [getD_false_true (by rw [hI.size]; exact hio)] at hun
      rw [this] at hun
      cases hun
    have ha : a = putList vs ds a0 := by
      rw [hI.act]
      exact putSel_congr _ _ _ _ ds 0 a0 fun j _ hj => ⟨hall j (by rw [← ok.len]; omega), fun _ => rfl⟩
    have hL : (fun i => listed.getD i false) = fun j => decide (j < ops.size) := by
      funext j
      by_cases hj : j < ops.size
      · rw [hall j hj, decide_eq_true hj]
      · rw [decide_eq_false hj]
        simp [Array.getD, hI.size, hj]
    rw [ha]
    have h2 := hI.inv
    rw [hL] at h2
    exact wpAny_done hn (fin vs w h2) 0
  | r + 1, listed, vs, a, w, hI, hr => by
    refine ⟨fun h0 => ?_, fun i hi => ?_⟩
    · exfalso
      have hex : ∃ i, i < ops.size ∧ listed.getD i false = false := by
        apply Classical.byContradiction
        intro hn
        have : toCome ops.size listed = 0 := by
          unfold toCome
          rw [List.countP_eq_zero]
          intro i hi
          have hi' := List.mem_range.1 hi
          cases hb : listed.getD i false
          · exact absurd ⟨i, hi', hb⟩ hn
          · simp
        omega
      have key : ∀ n i, i < n → i < ops.size → listed.getD i false = false → False := by
        intro n
        induction n with
        | zero => intro i h; omega
        | succ n ih =>
          intro i hin him hf
          obtain ⟨o, ho, _, _, hlow, _⟩ := ok.each i him
          have hs : i < listed.size := by rw [hI.size]; exact him
          have : i ∈ Region.ready .any ops listed := by
            rw [mem_ready]
            refine ⟨by rw [getD_false_true hs]; exact hf, o, ho, fun e he hb => ?_⟩
            cases hb' : listed.getD e.on false
            · exact (ih e.on (by have := hlow e he hb; omega) (by have := hlow e he hb; omega) hb').elim
            · rfl
          rw [h0] at this
          cases this
      obtain ⟨i, him, hf⟩ := hex
      exact key (i + 1) i (by omega) him hf
    · obtain ⟨hun, o, ho, hall⟩ := mem_ready.1 hi
      have him : i < ops.size := (Array.getElem?_eq_some_iff.1 ho).1
      have hs : i < listed.size := by rw [hI.size]; exact him
      have hf : listed.getD i false = false := by rw [← getD_false_true hs]; exact hun
      obtain ⟨o', ho', hdst, hsel, hlow, hgrd, hopn⟩ := ok.each i him
      obtain rfl : o = o' := Option.some.inj (ho.symm.trans ho')
      have hdi : ∃ d, ds[i]? = some d := ⟨ds[i]'(by rw [ok.len]; exact him), List.getElem?_eq_getElem _⟩
      obtain ⟨d, hd⟩ := hdi
      have haft : ∀ j, afterB ops i j = true → listed.getD j false = true := fun j hj => by
        obtain ⟨e, he, hb, rfl⟩ := afterB_iff ho hj
        exact hall e he hb
      have hread : ∀ t j, ds[j]? = some t → listed.getD j false = true → a.eval (.tmp t) = vs j := fun t j hdj hl => by
        rw [hI.act]
        have := putSel_in (fun i => listed.getD i false) vs t ds 0 j a0 ok.nodup hdj (by simpa using hl) (ok.small t (List.mem_of_getElem? hdj))
        simpa using this
      have hnext : ∀ v w', I (updB (fun i => listed.getD i false) i) (updV vs i v) w' → wpAny P .any ops Q r (listed.setIfInBounds i true) (a.put o.dst v) w' := by
        intro v w' h
        refine inv_go ok step skip fin r (listed.setIfInBounds i true) (updV vs i v) (a.put o.dst v) w' ⟨by simp [hI.size], ?_, ?_⟩ ?_
        · rw [hdst, hd, hI.act]
          have := putSel_set (fun i => listed.getD i false) vs i v ds 0 a0 d ok.nodup (Nat.zero_le _) (by simpa using hd) hf
          rw [this, updB_listed hs]
        · rw [← updB_listed hs]
          exact h
        · have := toCome_set him hs hf
          omega
      have hyield : ∀ j want, o.guard = some (j, want) → yielded ops a.tmps j = (match vs j with | .bool b => some b | _ => none) := by
        intro j want hg
        have hj := hgrd j want hg
        obtain ⟨e, he, hb, he2⟩ := afterB_iff ho hj
        have hji : j < i := by rw [← he2]; exact hlow e he hb
        obtain ⟨oj, hoj, hdj, _⟩ := ok.each j (by omega)
        have hdj2 : ds[j]? = some (ds[j]'(by rw [ok.len]; omega)) := List.getElem?_eq_getElem _
        generalize ds[j]'(by rw [ok.len]; omega) = t at hdj2
        have hr := hread t j hdj2 (haft j hj)
        unfold yielded
        rw [hoj]
        simp only [Option.bind_some, hdj, hdj2]
        have he : a.eval (.tmp t) = a.tmps.getD t undef := rfl
        rw [he] at hr
        cases hx : a.tmps[t]? with
        | none =>
          have : a.tmps.getD t undef = undef := by simp [Array.getD_eq_getD_getElem?, hx]
          rw [← hr, this]
          rfl
        | some x =>
          have : a.tmps.getD t undef = x := by simp [Array.getD_eq_getD_getElem?, hx]
          rw [← hr, this]
          cases x <;> rfl
      unfold wpOp
      simp only [ho]
      by_cases hw : Region.wanted o (yielded ops a.tmps) = true
      · rw [if_pos hw]
        left
        have hρ : execOp a.eval o = execOp (valOf a0 ds vs) o := by
          refine execOp_congr o hsel fun x hx => ?_
          cases x with
          | tmp t =>
            cases hj : ds.idxOf? t with
            | none =>
              rw [valOf_none hj, hI.act]
              exact putSel_out _ _ t ds 0 a0 (by rw [List.idxOf?_eq_none_iff] at hj; exact hj)
            | some j =>
              rw [valOf_some hj]
              exact hread t j (idx_get hj) (haft j (hopn t j hx hj))
          | const v => simp only [valOf]; rfl
          | global g => simp only [valOf]; rfl
          | func f => simp only [valOf]; rfl
        have hst := step i o (fun i => listed.getD i false) vs (valOf a0 ds vs) w ho hf haft ⟨fun _ _ h => valOf_some h, fun _ h => valOf_none h, fun _ => rfl, fun _ => rfl⟩ (fun j want hg => by
          have hy := hyield j want hg
          unfold Region.wanted at hw
          rw [hg] at hw
          simp only [hy] at hw
          cases hv : vs j <;> rw [hv] at hw <;> simp at hw
          rw [hw]) hI.inv
        rw [← hρ] at hst
        exact wp_of_stepTo hst fun v w' h => hnext v w' h
      · rw [if_neg hw]
        cases hg : o.guard with
        | none => exact absurd (by simp [Region.wanted, hg]) hw
        | some g =>
          obtain ⟨j, want⟩ := g
          refine hnext undef w (skip i o _ vs w j want ho hf haft hg (fun hv => hw ?_) hI.inv)
          have hy := hyield j want hg
          unfold Region.wanted
          rw [hg]
          simp only [hy, hv]
          simp

/-- THE RULE. -/
theorem wp_region_inv {id : Nat} {a : Act} {w : World} (hm : P.follows .mixedOrders = true) (ds : List Tmp) (hok : slotsGB ops ds a.tmps.size = true) (I : (Nat → Bool) → (Nat → Value) → World → Prop)
    (start : I (fun _ => false) (fun _ => undef) w.drew)
    (step : ∀ i o L vs ρ w, ops[i]? = some o → L i = false → (∀ j, afterB ops i j = true → L j = true) → ReadsF a ds vs ρ → (∀ j want, o.guard = some (j, want) → vs j = .bool want) → I L vs w →
      stepTo P (fun v w' => I (updB L i) (updV vs i v) w') ((execOp ρ o).run P w))
    (skip : ∀ i o L vs w j want, ops[i]? = some o → L i = false → (∀ j, afterB ops i j = true → L j = true) → o.guard = some (j, want) → vs j ≠ .bool want → I L vs w → I (updB L i) (updV vs i undef) w)
    (fin : ∀ vs w', I (fun j => decide (j < ops.size)) vs w' → Q .normal (putList vs ds a) w') :
    (Code.region id ops true).wp P Q a w := by
  have ok := slotsG_ok hok
  refine wp_region_any hm ?_
  have h0 : toCome ops.size (Array.replicate ops.size false) = ops.size := by
    have := List.countP_eq_length (l := List.range ops.size) (p := fun i => !(Array.replicate ops.size false).getD i false) |>.2 fun i _ => by rw [rep_false]; rfl
    unfold toCome
    rw [this, List.length_range]
  have hf : (fun i => (Array.replicate ops.size false).getD i false) = fun _ => false := by
    funext i
    exact rep_false _ i
  refine inv_go ok step skip fin ops.size (Array.replicate ops.size false) (fun _ => undef) a _ ⟨by simp, ?_, ?_⟩ h0
  · rw [hf]
    exact (putSel_none ds 0 a).symm
  · rw [hf]
    exact start
end

theorem putSel_defers (L : Nat → Bool) (vs : Nat → Value) : ∀ (ds : List Tmp) (k : Nat) (a : Act), (putSel L vs ds k a).defers = a.defers
  | [], _, _ => rfl
  | d :: ds, k, a => by
    simp only [putSel]
    rw [putSel_defers L vs ds]
    split <;> rfl

/-- The end of a body behind such a region: one slot is what is answered; the list of slots stays folded. -/
theorem bodyPost_slot {P : Program} {fn : Func} {R : Ending → World → Prop} {a : Act} {ds : List Tmp} {vs : Nat → Value} {w : World} {t : Tmp} {v : Value} (j : Nat) (hres : fn.results = #[.tmp t])
    (hB : (decide ds.Nodup && decide (ds[j]? = some t)) = true) (hs : decide (t < a.tmps.size) = true) (hd : a.defers = []) (hv : vs j = v) (hR : R (.returned v) w) : bodyPost P fn R .ret (putList vs ds a) w := by
  simp only [Bool.and_eq_true, decide_eq_true_eq] at hB hs
  refine bodyPost_ret (v := v) ?_ ((putSel_defers _ _ _ _ _).trans hd) hR
  rw [results_tmp hres]
  congr 1
  have := putSel_in (fun _ => true) vs t ds 0 j a hB.1 hB.2 rfl hs
  rw [Nat.zero_add, hv] at this
  exact this
end Go.Proofs.Ytbbgeccbdellmaa

/- A region that draws its order, told by one invariant over what is listed, the values and the world, as far as its first m operations go (those that all others come behind). Nothing here speaks of the program. -/
namespace Go.Proofs.Ytbbgeccbdellmaa
open Go Go.RowKit
set_option maxRecDepth 100000

section
variable {P : Program} {ops : Array Oper} {Q : Exit → Act → World → Prop} {a0 : Act} {m : Nat} {ds : List Tmp} {I : (Nat → Bool) → (Nat → Value) → World → Prop}

structure PInv (ops : Array Oper) (a0 : Act) (m : Nat) (ds : List Tmp) (I : (Nat → Bool) → (Nat → Value) → World → Prop) (listed : Array Bool) (vs : Nat → Value) (a : Act) (w : World) : Prop where
  size : listed.size = ops.size
  tail : ∀ j, m ≤ j → listed.getD j false = false
  closed : ∀ i o, ops[i]? = some o → listed.getD i false = true → ∀ e ∈ o.after, Region.binds .any e = true → listed.getD e.on false = true
  inv : I (fun i => listed.getD i false) vs w
  act : a = putSel (fun i => listed.getD i false) vs ds 0 a0

theorem pre_go (ok : SlotsOk ops m ds a0.tmps.size)
    (step : ∀ i o L vs w, i < m → ops[i]? = some o → L i = false → (∀ j, afterB ops i j = true → L j = true) → I L vs w →
      stepTo P (fun v w' => I (updB L i) (updV vs i v) w') ((execOp (valOf a0 ds vs) o).run P w))
    (fin : ∀ L vs w', (∀ i, i < m → L i = true) → I L vs w' → wpAny P .any ops Q (ops.size - m) (listedTo ops.size m) (putList vs ds a0) w') :
    ∀ (r : Nat) (listed : Array Bool) (vs : Nat → Value) (a : Act) (w : World), PInv ops a0 m ds I listed vs a w → toCome m listed = r → wpAny P .any ops Q (ops.size - m + r) listed a w
  | 0, listed, vs, a, w, hI, hr => by
    have hall := toCome_zero hr
    have hl : listed = listedTo ops.size m := by
      apply Array.ext
      · simp [listedTo, hI.size]
      · intro i h1 h2
        have e : listed.getD i false = listed[i] := by simp [h1]
        by_cases hi : i < m
        · have := hall i hi
          rw [e] at this
          simp [listedTo, this, hi]
        · have := hI.tail i (by omega)
          rw [e] at this
          simp [listedTo, this, hi]
    have ha : a = putList vs ds a0 := by
      rw [hI.act]
      exact putSel_congr _ _ _ _ ds 0 a0 fun j _ hj => ⟨hall j (by rw [← ok.len]; omega), fun _ => rfl⟩
    rw [hl, ha, Nat.add_zero]
    exact fin (fun i => listed.getD i false) vs w hall hI.inv
  | r + 1, listed, vs, a, w, hI, hr => by
    refine ⟨fun h0 => ?_, fun i hi => ?_⟩
    · -- the least one that is still to come may come
      exfalso
      have hex : ∃ i, i < m ∧ listed.getD i false = false := by
        apply Classical.byContradiction
        intro hn
        have : toCome m listed = 0 := by
          unfold toCome
          rw [List.countP_eq_zero]
          intro i hi
          have hi' := List.mem_range.1 hi
          cases hb : listed.getD i false
          · exact absurd ⟨i, hi', hb⟩ hn
          · simp
        omega
      have key : ∀ n i, i < n → i < m → listed.getD i false = false → False := by
        intro n
        induction n with
        | zero => intro i h; omega
        | succ n ih =>
          intro i hin him hf
          obtain ⟨o, ho, _, _, _, hlow, _⟩ := ok.each i him
          have hs : i < listed.size := by rw [hI.size]; exact Nat.lt_of_lt_of_le him ok.le
          have : i ∈ Region.ready .any ops listed := by
            rw [mem_ready]
            refine ⟨by rw [getD_false_true hs]; exact hf, o, ho, fun e he hb => ?_⟩
            cases hb' : listed.getD e.on false
            · exact (ih e.on (by have := hlow e he hb; omega) (by have := hlow e he hb; omega) hb').elim
            · rfl
          rw [h0] at this
          cases this
      obtain ⟨i, him, hf⟩ := hex
      exact key (i + 1) i (by omega) him hf
    · obtain ⟨hun, o, ho, hall⟩ := mem_ready.1 hi
      have hio : i < ops.size := (Array.getElem?_eq_some_iff.1 ho).1
      have hs : i < listed.size := by rw [hI.size]; exact hio
      have hf : listed.getD i false = false := by rw [← getD_false_true hs]; exact hun
      by_cases him : i < m
      · obtain ⟨o', ho', hgd, hdst, hsel, hlow, hopn⟩ := ok.each i him
        obtain rfl : o = o' := Option.some.inj (ho.symm.trans ho')
        unfold wpOp
        simp only [ho]
        have hw : Region.wanted o (yielded ops a.tmps) = true := by simp [Region.wanted, hgd]
        rw [if_pos hw]
        left
        have hρ : execOp a.eval o = execOp (valOf a0 ds vs) o := by
          refine execOp_congr o hsel fun x hx => ?_
          rw [hI.act]
          cases x with
          | tmp t =>
            cases hj : ds.idxOf? t with
            | none =>
              rw [valOf_none hj]
              exact putSel_out _ _ t ds 0 a0 (by rw [List.idxOf?_eq_none_iff] at hj; exact hj)
            | some j =>
              rw [valOf_some hj]
              have hdj : ds[j]? = some t := by
                have := List.of_findIdx?_eq_some (p := (· == t)) (xs := ds) (i := j) (by simpa [List.idxOf?] using hj)
                cases hd : ds[j]? with
                | none => simp [hd] at this
                | some d => simp [hd] at this; rw [this]
              obtain ⟨e, he, hb, rfl⟩ := afterB_iff ho (hopn t j hx hj)
              have := putSel_in (fun i => listed.getD i false) vs t ds 0 e.on a0 ok.nodup hdj (by simpa using hall e he hb) (ok.small t (List.mem_of_getElem? hdj))
              simpa using this
          | const v => simp only [valOf]; rfl
          | global g => simp only [valOf]; rfl
          | func f => simp only [valOf]; rfl
        have hst := step i o (fun i => listed.getD i false) vs w him ho hf (fun j hj => by
          obtain ⟨e, he, hb, rfl⟩ := afterB_iff ho hj
          exact hall e he hb) hI.inv
        rw [← hρ] at hst
        refine wp_of_stepTo hst fun v w' hG => ?_
        have hdi : ∃ d, ds[i]? = some d := ⟨ds[i]'(by rw [ok.len]; exact him), List.getElem?_eq_getElem _⟩
        obtain ⟨d, hd⟩ := hdi
        refine pre_go ok step fin r (listed.setIfInBounds i true) (updV vs i v) (a.put o.dst v) w' ⟨?_, ?_, ?_, ?_, ?_⟩ ?_
        · simp [hI.size]
        · intro j hj
          rw [getD_set_ne false (by omega)]
          exact hI.tail j hj
        · intro j oj hoj hl e he hb
          by_cases hji : j = i
          · subst hji
            obtain rfl : o = oj := Option.some.inj (ho.symm.trans hoj)
            exact getD_set_true (hall e he hb)
          · rw [getD_set_ne false (Ne.symm hji)] at hl
            exact getD_set_true (hI.closed j oj hoj hl e he hb)
        · rw [← updB_listed hs]
          exact hG
        · rw [hdst, hd, hI.act]
          have := putSel_set (fun i => listed.getD i false) vs i v ds 0 a0 d ok.nodup (Nat.zero_le _) (by simpa using hd) hf
          rw [this, updB_listed hs]
        · have := toCome_set him hs hf
          omega
      · exfalso
        have hex : ∃ k, k < m ∧ listed.getD k false = false := by
          apply Classical.byContradiction
          intro hn
          have : toCome m listed = 0 := by
            unfold toCome
            rw [List.countP_eq_zero]
            intro k hk
            cases hb : listed.getD k false
            · exact absurd ⟨k, List.mem_range.1 hk, hb⟩ hn
            · simp
          omega
        rcases ok.tail i o (by omega) ho with ⟨e, he, hb, hme⟩ | hcov
        · have h1 := hall e he hb
          rw [hI.tail e.on hme] at h1
          cases h1
        · have key : ∀ n k, m - k ≤ n → k < m → listed.getD k false = true := by
            intro n
            induction n with
            | zero => intro k h1 h2; omega
            | succ n ih =>
              intro k h1 h2
              rcases hcov k h2 with h | ⟨k', hk', h⟩
              · obtain ⟨e, he, hb, rfl⟩ := afterB_iff ho h
                exact hall e he hb
              · obtain ⟨ok', hok', _, _, _, hlow, _⟩ := ok.each k' hk'
                obtain ⟨e, he, hb, rfl⟩ := afterB_iff hok' h
                have hlt := hlow e he hb
                exact hI.closed k' ok' hok' (ih k' (by omega) hk') e he hb
          obtain ⟨k, hk, hkf⟩ := hex
          rw [key m k (by omega) hk] at hkf
          cases hkf

theorem wp_region_pre {id : Nat} {a : Act} {w : World} (hm : P.follows .mixedOrders = true) (m : Nat) (ds : List Tmp) (hok : slotsB ops m ds a.tmps.size = true) (I : (Nat → Bool) → (Nat → Value) → World → Prop)
    (start : I (fun _ => false) (fun _ => undef) w.drew)
    (step : ∀ i o L vs ρ w, i < m → ops[i]? = some o → L i = false → (∀ j, afterB ops i j = true → L j = true) → ReadsF a ds vs ρ → I L vs w →
      stepTo P (fun v w' => I (updB L i) (updV vs i v) w') ((execOp ρ o).run P w))
    (fin : ∀ L vs w', (∀ i, i < m → L i = true) → I L vs w' → wpAny P .any ops Q (ops.size - m) (listedTo ops.size m) (putList vs ds a) w') :
    (Code.region id ops true).wp P Q a w := by
  have ok := slots_ok hok
  refine wp_region_any hm ?_
  have h0 : toCome m (Array.replicate ops.size false) = m := by
    have := List.countP_eq_length (l := List.range m) (p := fun i => !(Array.replicate ops.size false).getD i false) |>.2 fun i _ => by rw [rep_false]; rfl
    unfold toCome
    rw [this, List.length_range]
  have ha : a = putSel (fun i => (Array.replicate ops.size false).getD i false) (fun _ => undef) ds 0 a := by
    have : putSel (fun i => (Array.replicate ops.size false).getD i false) (fun _ => undef) ds 0 a = putSel (fun _ => false) (fun _ => undef) ds 0 a := putSel_congr _ _ _ _ ds 0 a fun j _ _ => ⟨rep_false _ j, fun _ => rfl⟩
    rw [this]
    exact (putSel_none ds 0 a).symm
  have hI : PInv ops a m ds I (Array.replicate ops.size false) (fun _ => undef) a { w with drawn := w.drawn + 1 } := {
    size := by simp
    tail := fun j _ => rep_false _ j
    closed := fun i o _ h => by rw [rep_false] at h; cases h
    inv := by
      have : (fun i => (Array.replicate ops.size false).getD i false) = fun _ => false := by funext i; exact rep_false _ i
      rw [this]
      exact start
    act := ha }
  have h1 := pre_go (Q := Q) ok (fun i o L vs w hi ho hl haft hI => step i o L vs (valOf a ds vs) w hi ho hl haft ⟨fun _ _ h => valOf_some h, fun _ h => valOf_none h, fun _ => rfl, fun _ => rfl⟩ hI) fin m _ _ a _ hI h0
  have e : ops.size - m + m = ops.size := Nat.sub_add_cancel ok.le
  rw [e] at h1
  exact h1
end
end Go.Proofs.Ytbbgeccbdellmaa

/- The rule of slots with a reader that knows functions; a step that enters a callee. -/
namespace Go.Proofs.Ytbbgeccbdellmaa
open Go Go.RowKit
set_option maxRecDepth 100000

theorem stepTo_enter {P : Program} {o : Oper} {ρ : Operand → Value} {w w' : World} {f : FuncId} {args : Array Value} {K : Value → World → Prop} (h : (execOp ρ o).run P w = .ok (.enter f args) w') (hk : Calls P f args w' fun e w'' => ∃ v, e = .returned v ∧ K v w'') : stepTo P K ((execOp ρ o).run P w) := by
  rw [h]
  exact hk

theorem wp_region_slots_f {P : Program} {ops : Array Oper} {Q : Exit → Act → World → Prop} {id : Nat} {a : Act} {w : World} (hm : P.follows .mixedOrders = true) (m : Nat) (ds : List Tmp) (hok : slotsB ops m ds a.tmps.size = true) (G : Nat → Value → World → Prop)
    (mono : ∀ i v w w', i < m → G i v w → Below w.heap.size w w' → G i v w')
    (step : ∀ i o vs ρ w', i < m → ops[i]? = some o → Reads a ds vs ρ → (∀ f, ρ (.func f) = a.eval (.func f)) → Below w.heap.size w w' → (∀ j, afterB ops i j = true → G j (vs j) w') →
      stepTo P (fun v w'' => Below w'.heap.size w' w'' ∧ G i v w'') ((execOp ρ o).run P w'))
    (fin : ∀ vs w', Below w.heap.size w w' → (∀ i, i < m → G i (vs i) w') → wpAny P .any ops Q (ops.size - m) (listedTo ops.size m) (putList vs ds a) w') :
    (Code.region id ops true).wp P Q a w :=
  wp_region_slots hm m ds hok G mono (fun i o vs w' hi ho hb hG => step i o vs (valOf a ds vs) w' hi ho ⟨fun _ _ h => valOf_some h, fun _ h => valOf_none h, fun _ => rfl⟩ (fun _ => rfl) hb hG) fin

end Go.Proofs.Ytbbgeccbdellmaa


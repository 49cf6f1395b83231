/- SlotsT, PgPut, RcBase, RcWrite. -/
import Derived.Test.YtfinmfmbbgakhaaQ3
import Derived.Test.YtfinmfmbbgakhaaQ4
/- The rule of slots where the region's first operation is taken ahead: one that only moves, and that what is walked by hand does not hang on (c.X = append(c.X, ..): the move of c). Nothing here speaks of the program. -/
namespace Go.Proofs.Ytfinmfmbbgakhaa
open Go Go.RowKit
set_option maxRecDepth 100000

section
variable {P : Program} {ops : Array Oper} {Q : Exit → Act → World → Prop}

/-- As slotsB; those of fs need not be behind what is walked by hand. -/
def slotsTB (ops : Array Oper) (m : Nat) (ds : List Tmp) (size : Nat) (fs : List Nat) : Bool :=
  decide (m ≤ ops.size) && decide (ds.length = m) && decide ds.Nodup && ds.all (fun d => decide (d < size)) &&
  (List.range m).all (fun i => match ops[i]? with
    | some o => o.guard.isNone && o.dst == ds[i]? && (match o.op with | .select .. => false | _ => true) &&
      o.after.all (fun e => !Region.binds .any e || decide (e.on < i)) &&
      o.op.operands.toList.all (fun x => match x with
        | .tmp t => match ds.idxOf? t with
          | some j => afterB ops i j
          | none => true
        | _ => true)
    | none => false) &&
  (List.range ops.size).all (fun j => decide (j < m) || (match ops[j]? with
    | some o => (o.after.any fun e => Region.binds .any e && decide (m ≤ e.on)) || (List.range m).all (fun i => fs.contains i || afterB ops j i || (List.range m).any (fun k => afterB ops k i))
    | none => false))

structure SlotsTOk (ops : Array Oper) (m : Nat) (ds : List Tmp) (size : Nat) (fs : List Nat) : Prop where
  le : m ≤ ops.size
  len : ds.length = m
  nodup : ds.Nodup
  small : ∀ d ∈ ds, d < size
  each : ∀ i, i < m → ∃ o, ops[i]? = some o ∧ o.guard = none ∧ o.dst = ds[i]? ∧ (∀ cs b, o.op ≠ .select cs b) ∧ (∀ e ∈ o.after, Region.binds .any e = true → e.on < i) ∧
    (∀ t j, Operand.tmp t ∈ o.op.operands → ds.idxOf? t = some j → afterB ops i j = true)
  tail : ∀ j o, m ≤ j → ops[j]? = some o → (∃ e ∈ o.after, Region.binds .any e = true ∧ m ≤ e.on) ∨ (∀ i, i < m → i ∈ fs ∨ afterB ops j i = true ∨ ∃ k, k < m ∧ afterB ops k i = true)

theorem slotsT_ok {m : Nat} {ds : List Tmp} {size : Nat} {fs : List Nat} (h : slotsTB ops m ds size fs = true) : SlotsTOk ops m ds size fs := by
  unfold slotsTB at h
  simp only [Bool.and_eq_true, decide_eq_true_eq, List.all_eq_true, List.mem_range] at h
  obtain ⟨⟨⟨⟨⟨h1, h2⟩, h3⟩, h4⟩, h5⟩, h6⟩ := h
  refine ⟨h1, h2, h3, h4, fun i hi => ?_, fun j o hj ho => ?_⟩
  · have h := h5 i hi
    cases ho : ops[i]? with
    | none => simp [ho] at h
    | some o =>
      simp only [ho, Bool.and_eq_true] at h
      obtain ⟨⟨⟨⟨g1, g2⟩, g3⟩, g4⟩, g5⟩ := h
      refine ⟨o, rfl, by simpa using g1, by simpa using g2, fun cs b hs => by simp [hs] at g3, fun e he hb => ?_, fun t j ht hj => ?_⟩
      · have := Array.all_eq_true_iff_forall_mem.1 g4 e he
        simpa [hb] using this
      · have := List.all_eq_true.1 g5 (.tmp t) (by simpa using ht)
        simpa [hj] using this
  · have hlt : j < ops.size := (Array.getElem?_eq_some_iff.1 ho).1
    have h := h6 j hlt
    simp only [ho, Bool.or_eq_true, decide_eq_true_eq] at h
    rcases h with h | h | h
    · omega
    · obtain ⟨e, he, hb⟩ := Array.any_eq_true'.1 h
      simp only [Bool.and_eq_true, decide_eq_true_eq] at hb
      exact .inl ⟨e, he, hb.1, hb.2⟩
    · refine .inr fun i hi => ?_
      have := List.all_eq_true.1 h i (by simpa using hi)
      simp only [Bool.or_eq_true, List.any_eq_true, List.mem_range] at this
      rcases this with (h | h) | h
      · exact .inl (by simpa using h)
      · exact .inr (.inl h)
      · exact .inr (.inr h)

variable {a0 : Act} {w0 : World} {m : Nat} {ds : List Tmp} {G : Nat → Value → World → Prop}

theorem slots_go_t {fs : List Nat} (ok : SlotsTOk ops m ds a0.tmps.size fs)
    (mono : ∀ i v w w', i < m → G i v w → Below w.heap.size w w' → G i v w')
    (step : ∀ i o vs w, i < m → ops[i]? = some o → Below w0.heap.size w0 w → (∀ j, afterB ops i j = true → G j (vs j) w) →
      stepTo P (fun v w' => Below w.heap.size w w' ∧ G i v w') ((execOp (valOf a0 ds vs) o).run P w))
    (fin : ∀ vs w', Below w0.heap.size w0 w' → (∀ i, i < m → G i (vs i) w') → wpAny P .any ops Q (ops.size - m) (listedTo ops.size m) (putList vs ds a0) w') :
    ∀ (r : Nat) (listed : Array Bool) (vs : Nat → Value) (a : Act) (w : World), SInv ops a0 w0 m ds G listed vs a w → (∀ i ∈ fs, listed.getD i false = true) → toCome m listed = r → wpAny P .any ops Q (ops.size - m + r) listed a w
  | 0, listed, vs, a, w, hI, hF, hr => by
    have hall := toCome_zero hr
    have hl : listed = listedTo ops.size m := by
      apply Array.ext
      · simp [listedTo, hI.size]
      · intro i h1 h2
        have e : listed.getD i false = listed[i] := by simp [h1]
        by_cases hi : i < m
        · have := hall i hi
          rw [e] at this
          simp [listedTo, this, hi]
        · have := hI.tail i (by omega)
          rw [e] at this
          simp [listedTo, this, hi]
    have ha : a = putList vs ds a0 := by
      rw [hI.act]
      exact putSel_congr _ _ _ _ ds 0 a0 fun j _ hj => ⟨hall j (by rw [← ok.len]; omega), fun _ => rfl⟩
    rw [hl, ha, Nat.add_zero]
    exact fin vs w hI.ext fun i hi => hI.good i hi (hall i hi)
  | r + 1, listed, vs, a, w, hI, hF, hr => by
    refine ⟨fun h0 => ?_, fun i hi => ?_⟩
    · -- the least one that is still to come may come
      exfalso
      have hex : ∃ i, i < m ∧ listed.getD i false = false := by
        apply Classical.byContradiction
        intro hn
        have : toCome m listed = 0 := by
          unfold toCome
          rw [List.countP_eq_zero]
          intro i hi
          have hi' := List.mem_range.1 hi
          cases hb : listed.getD i false
          · exact absurd ⟨i, hi', hb⟩ hn
          · simp
        omega
      have key : ∀ n i, i < n → i < m → listed.getD i false = false → False := by
        intro n
        induction n with
        | zero => intro i h; omega
        | succ n ih =>
          intro i hin him hf
          obtain ⟨o, ho, _, _, _, hlow, _⟩ := ok.each i him
          have hs : i < listed.size := by rw [hI.size]; exact Nat.lt_of_lt_of_le him ok.le
          have : i ∈ Region.ready .any ops listed := by
            rw [mem_ready]
            refine ⟨by rw [getD_false_true hs]; exact hf, o, ho, fun e he hb => ?_⟩
            cases hb' : listed.getD e.on false
            · exact (ih e.on (by have := hlow e he hb; omega) (by have := hlow e he hb; omega) hb').elim
            · rfl
          rw [h0] at this
          cases this
      obtain ⟨i, him, hf⟩ := hex
      exact key (i + 1) i (by omega) him hf
    · obtain ⟨hun, o, ho, hall⟩ := mem_ready.1 hi
      have hio : i < ops.size := (Array.getElem?_eq_some_iff.1 ho).1
      have hs : i < listed.size := by rw [hI.size]; exact hio
      have hf : listed.getD i false = false := by rw [← getD_false_true hs]; exact hun
      by_cases him : i < m
      · obtain ⟨o', ho', hgd, hdst, hsel, hlow, hopn⟩ := ok.each i him
        obtain rfl : o = o' := Option.some.inj (ho.symm.trans ho')
        unfold wpOp
        simp only [ho]
        have hw : Region.wanted o (yielded ops a.tmps) = true := by simp [Region.wanted, hgd]
        rw [if_pos hw]
        left
        have hρ : execOp a.eval o = execOp (valOf a0 ds vs) o := by
          refine execOp_congr o hsel fun x hx => ?_
          rw [hI.act]
          cases x with
          | tmp t =>
            cases hj : ds.idxOf? t with
            | none =>
              rw [valOf_none hj]
              exact putSel_out _ _ t ds 0 a0 (by rw [List.idxOf?_eq_none_iff] at hj; exact hj)
            | some j =>
              rw [valOf_some hj]
              have hdj : ds[j]? = some t := by
                have := List.of_findIdx?_eq_some (p := (· == t)) (xs := ds) (i := j) (by simpa [List.idxOf?] using hj)
                cases hd : ds[j]? with
                | none => simp [hd] at this
                | some d => simp [hd] at this; rw [this]
              obtain ⟨e, he, hb, rfl⟩ := afterB_iff ho (hopn t j hx hj)
              have := putSel_in (fun i => listed.getD i false) vs t ds 0 e.on a0 ok.nodup hdj (by simpa using hall e he hb) (ok.small t (List.mem_of_getElem? hdj))
              simpa using this
          | const v => simp only [valOf]; rfl
          | global g => simp only [valOf]; rfl
          | func f => simp only [valOf]; rfl
        have hst := step i o vs w him ho hI.ext fun j hj => by
          obtain ⟨e, he, hb, rfl⟩ := afterB_iff ho hj
          exact hI.good e.on (by have := hlow e he hb; omega) (hall e he hb)
        rw [← hρ] at hst
        refine wp_of_stepTo hst fun v w' ⟨hbel, hG⟩ => ?_
        have hdi : ∃ d, ds[i]? = some d := ⟨ds[i]'(by rw [ok.len]; exact him), List.getElem?_eq_getElem _⟩
        obtain ⟨d, hd⟩ := hdi
        refine slots_go_t ok mono step fin r (listed.setIfInBounds i true) (updV vs i v) (a.put o.dst v) w' ⟨?_, ?_, ?_, ?_, ?_, ?_⟩ (fun k hk => getD_set_true (hF k hk)) ?_
        · simp [hI.size]
        · intro j hj
          rw [getD_set_ne false (by omega)]
          exact hI.tail j hj
        · intro j oj hoj hl e he hb
          by_cases hji : j = i
          · subst hji
            obtain rfl : o = oj := Option.some.inj (ho.symm.trans hoj)
            exact getD_set_true (hall e he hb)
          · rw [getD_set_ne false (Ne.symm hji)] at hl
            exact getD_set_true (hI.closed j oj hoj hl e he hb)
        · exact below_tr hI.ext hbel
        · intro j hj hl
          by_cases hji : j = i
          · subst hji
            simpa [updV] using hG
          · rw [getD_set_ne false (Ne.symm hji)] at hl
            have := mono j _ w w' hj (hI.good j hj hl) hbel
            simpa [updV, hji] using this
        · rw [hdst, hd, hI.act]
          have := putSel_set (fun i => listed.getD i false) vs i v ds 0 a0 d ok.nodup (Nat.zero_le _) (by simpa using hd) hf
          rw [this, updB_listed hs]
        · have := toCome_set him hs hf
          omega
      · exfalso
        have hex : ∃ k, k < m ∧ listed.getD k false = false := by
          apply Classical.byContradiction
          intro hn
          have : toCome m listed = 0 := by
            unfold toCome
            rw [List.countP_eq_zero]
            intro k hk
            cases hb : listed.getD k false
            · exact absurd ⟨k, List.mem_range.1 hk, hb⟩ hn
            · simp
          omega
        rcases ok.tail i o (by omega) ho with ⟨e, he, hb, hme⟩ | hcov
        · have h1 := hall e he hb
          rw [hI.tail e.on hme] at h1
          cases h1
        · have key : ∀ n k, m - k ≤ n → k < m → listed.getD k false = true := by
            intro n
            induction n with
            | zero => intro k h1 h2; omega
            | succ n ih =>
              intro k h1 h2
              rcases hcov k h2 with h | h | ⟨k', hk', h⟩
              · exact hF k h
              · obtain ⟨e, he, hb, rfl⟩ := afterB_iff ho h
                exact hall e he hb
              · obtain ⟨ok', hok', _, _, _, hlow, _⟩ := ok.each k' hk'
                obtain ⟨e, he, hb, rfl⟩ := afterB_iff hok' h
                have hlt := hlow e he hb
                exact hI.closed k' ok' hok' (ih k' (by omega) hk') e he hb
          obtain ⟨k, hk, hkf⟩ := hex
          rw [key m k (by omega) hk] at hkf
          cases hkf

/-- THE RULE, with the first operation taken ahead. -/
theorem wp_region_slots_t {id : Nat} {a : Act} {w : World} (hm : P.follows .mixedOrders = true) (m : Nat) (ds : List Tmp) (hok : slotsTB ops m ds a.tmps.size [0] = true) (G : Nat → Value → World → Prop)
    (o0 : Oper) (v0 : Value) (ho0 : ops[0]? = some o0) (h0m : 0 < m) (hs : Region.noSelect ops = true) (hf : Region.free .any ops (Array.replicate ops.size false) 0 = true) (hr : (Region.ready .any ops (Array.replicate ops.size false)).contains 0 = true)
    (hQ : ∀ c a w, Q (.panic c) (a.put o0.dst v0) w → Q (.panic c) a w) (hy : Yields P ops o0 v0 a) (hG0 : ∀ W, G 0 v0 W)
    (mono : ∀ i v w w', i < m → G i v w → Below w.heap.size w w' → G i v w')
    (step : ∀ i o vs ρ w', i < m → ops[i]? = some o → Reads a ds vs ρ → (∀ f, ρ (.func f) = a.eval (.func f)) → Below w.heap.size w w' → (∀ j, afterB ops i j = true → G j (vs j) w') →
      stepTo P (fun v w'' => Below w'.heap.size w' w'' ∧ G i v w'') ((execOp ρ o).run P w'))
    (fin : ∀ vs w', Below w.heap.size w w' → (∀ i, i < m → G i (vs i) w') → wpAny P .any ops Q (ops.size - m) (listedTo ops.size m) (putList vs ds a) w') :
    (Code.region id ops true).wp P Q a w := by
  have ok := slotsT_ok hok
  have hd : Below w.heap.size w { w with drawn := w.drawn + 1 } := ⟨rfl, rfl, rfl, Nat.le_refl _, fun _ _ => rfl⟩
  refine wp_region_any hm ?_
  have hc : toCome m (Array.replicate ops.size false) = m := by
    have := List.countP_eq_length (l := List.range m) (p := fun i => !(Array.replicate ops.size false).getD i false) |>.2 fun i _ => by rw [rep_false]; rfl
    unfold toCome
    rw [this, List.length_range]
  have ha : a = putSel (fun i => (Array.replicate ops.size false).getD i false) (fun _ => undef) ds 0 a := by
    have : putSel (fun i => (Array.replicate ops.size false).getD i false) (fun _ => undef) ds 0 a = putSel (fun _ => false) (fun _ => undef) ds 0 a := putSel_congr _ _ _ _ ds 0 a fun j _ _ => ⟨rep_false _ j, fun _ => rfl⟩
    rw [this]
    exact (putSel_none ds 0 a).symm
  have hsz : 0 < (Array.replicate ops.size false).size := by
    have := ok.le
    simp
    omega
  have hc2 := toCome_set (listed := Array.replicate ops.size false) h0m hsz (rep_false _ 0)
  obtain ⟨o', ho', hgd, hdst, hsel, hlow, hopn⟩ := ok.each 0 h0m
  obtain rfl : o0 = o' := Option.some.inj (ho0.symm.trans ho')
  have hdi : ∃ d, ds[0]? = some d := ⟨ds[0]'(by rw [ok.len]; exact h0m), List.getElem?_eq_getElem _⟩
  obtain ⟨d, hdd⟩ := hdi
  have hI : SInv ops a w m ds G ((Array.replicate ops.size false).setIfInBounds 0 true) (updV (fun _ => undef) 0 v0) (a.put o0.dst v0) { w with drawn := w.drawn + 1 } := {
    size := by simp
    tail := fun j hj => by
      rw [getD_set_ne false (by omega)]
      exact rep_false _ j
    closed := fun i o hio h e he hb => by
      by_cases hi : i = 0
      · subst hi
        obtain rfl : o0 = o := Option.some.inj (ho0.symm.trans hio)
        have := hlow e he hb
        omega
      · rw [getD_set_ne false (Ne.symm hi), rep_false] at h
        cases h
    ext := hd
    good := fun i _ h => by
      by_cases hi : i = 0
      · subst hi
        simpa [updV] using hG0 _
      · rw [getD_set_ne false (Ne.symm hi), rep_false] at h
        cases h
    act := by
      have := putSel_set (fun i => (Array.replicate ops.size false).getD i false) (fun _ => undef) 0 v0 ds 0 a d ok.nodup (Nat.zero_le _) (by simpa using hdd) (rep_false _ 0)
      rw [hdst, hdd]
      conv => lhs; rw [ha]
      rw [this, updB_listed hsz] }
  have h1 := slots_go_t (Q := Q) (fs := [0]) ok mono (fun i o vs w' hi ho hb hG => step i o vs (valOf a ds vs) w' hi ho ⟨fun _ _ h => valOf_some h, fun _ h => valOf_none h, fun _ => rfl⟩ (fun _ => rfl) hb hG) fin (m - 1) _ _ _ _ hI (fun i hi => by
    obtain rfl : i = 0 := by simpa using hi
    simp
    have := ok.le
    omega) (by omega)
  have e : ops.size = (ops.size - m + (m - 1)) + 1 := by
    have := ok.le
    omega
  have h2 := wpAny_take (P := P) (md := .any) (ops := ops) (Q := Q) (fuel := ops.size - m + (m - 1)) ho0 hs hf hr hQ hy h1
  rw [← e] at h2
  exact h2
end
end Go.Proofs.Ytfinmfmbbgakhaa

/- The program puts a snapshot behind the others: a new row. -/
namespace Go.Proofs.Ytfinmfmbbgakhaa.ch.pg
open Go Go.RowKit Go.Sort Go.Proofs.Ytfinmfmbbgakhaa.ib
set_option maxRecDepth 100000

theorem ok_push' {d : CH} (h : d.ok) (s : Sn) (hl : d.snaps.length < 20) (hs : volOk d.live.length s.bs) (hg : gdB s.g) : CH.ok ⟨d.live, d.snaps ++ [s]⟩ := by
  refine ⟨h.live, h.n1, h.n8, fun x hx => ?_, ?_, fun x hx => ?_⟩
  · rcases List.mem_append.1 hx with hx | hx
    · exact h.snaps x hx
    · obtain rfl : x = s := by simpa using hx
      exact hs
  · show (d.snaps ++ [s]).length ≤ 20
    rw [List.length_append, List.length_singleton]
    omega
  · rcases List.mem_append.1 hx with hx | hx
    · exact h.gds x hx
    · obtain rfl : x = s := by simpa using hx
      exact hg
/-- Another row behind the chain, that is new. -/
theorem PgAt.rerow {w w1 : World} {own : Nat → Prop} {p : Nat} {v v' : Value} {d : CH} {l : List Sn} (h : PgAt w own p v d) (hb : Below w.heap.size w w1) (hr : SRow w1 v' l) (ho : d.ok) (hn : ∀ k, v'.ownBlock = some k → own k ∨ w.heap.size ≤ k) :
    PgAt (w1.setCell ⟨p, 257, none⟩ v') (fun j => own j ∨ v'.ownBlock = some j) p v' ⟨d.live, l⟩ := by
  have hb1 := h.blk.of_block (hb.block p h.blk.lt)
  have hp := hr.ne hb1 (by decide)
  refine ⟨?_, hr.of_block (fun k hk => set_oth _ _ _ _ _ (hp k hk)), .inl h.op, fun k hk => .inr hk, fun j hj => ?_⟩
  · have := hb1.set_ 257 v'
    rw [ccells_setv ho.live ho.n8] at this
    exact this
  · have e : (w1.setCell ⟨p, 257, none⟩ v').heap.size = w1.heap.size := by simp [World.setCell]
    rw [e]
    rcases hj with hj | hj
    · exact Nat.lt_of_lt_of_le (h.low j hj) hb.size
    · exact hr.lt j hj

def PuG (p : Nat) (A : Option Addr) (n c B : Nat) (S : List Value) : Nat → Value → World → Prop
  | 0, v, _ => v = .pointer (some ⟨p, 0, none⟩)
  | 1, v, _ => v = .pointer (some ⟨p, 0, none⟩)
  | 2, v, _ => v = .pointer (some ⟨p, 0, none⟩)
  | 3, v, _ => v = .pointer (some ⟨p, 257, none⟩)
  | 4, v, _ => v = .slice A n c
  | 5, v, _ => v = .int .i64 (n : Int)
  | 6, v, _ => v = .int .i64 (n : Int)
  | 7, v, _ => v = .slice A n n
  | 8, v, _ => v = .agg S.toArray
  | 9, v, w => ∃ b, v = .slice (some ⟨b, 0, none⟩) 1 1 ∧ Blk w b 84 S.toArray ∧ B ≤ b
  | _, _, _ => True
theorem PuG_mono (p : Nat) (A : Option Addr) (n c B : Nat) (S : List Value) (i : Nat) (v : Value) (w w' : World) (hi : i < 10) (h : PuG p A n c B S i v w) (hb : Below w.heap.size w w') : PuG p A n c B S i v w' := by
  match i, hi, h with
  | 0, _, h | 1, _, h | 2, _, h | 3, _, h | 4, _, h | 5, _, h | 6, _, h | 7, _, h | 8, _, h => exact h
  | 9, _, ⟨b, h1, h2, h3⟩ => exact ⟨b, h1, h2.below hb, h3⟩

set_option maxHeartbeats 6400000 in
theorem put_any {own : Nat → Prop} {w : World} {p : Nat} {v : Value} {d : CH} (h : PgAt w own p v d) (ho : d.ok) (hl : d.snaps.length < 20) (s : Sn) (hs : volOk d.live.length s.bs) :
    Calls Try.prog 46 #[.pointer (some ⟨p, 0, none⟩), .agg (sc s).toArray] w fun e w' => e = .returned (.tuple #[]) ∧ ∃ v' own', PgAt w' own' p v' ⟨d.live, d.snaps ++ [s]⟩ ∧ But (fun j => j = p) w w' ∧ ∀ j, own' j → own j ∨ w.heap.size ≤ j := by
  obtain ⟨i0, hi, hz0, hz1, hz2⟩ := info_parts infoSnp
  have HSL : Hid ((sc s).length = 259) := sc_len hs ho.n8
  have HS1 := Lib.hid (sc_one s)
  have HSN := Lib.hid (srow_snoc d.snaps s)
  have HLEN := Lib.hid (srow_len ho.snaps ho.n8)
  obtain ⟨S, hS⟩ : ∃ S, sc s = S := ⟨_, rfl⟩
  rw [hS] at HSL HS1 HSN ⊢
  have hb0 := (Below.refl w.heap.size w).alloc (Nat.le_refl _) (.cells S.toArray 84)
  have hr1 := h.below hb0
  have HBX : Hid (Blk (w.alloc (.cells S.toArray 84)) w.heap.size 84 S.toArray) := Blk.new _ _ _
  have HB := Lib.hid hb0
  have HR := Lib.hid hr1
  have HR0 := Lib.hid h
  have HO := Lib.hid ho
  obtain ⟨A, c, rfl, hlc, hA, _⟩ := srow_view h.row ho.snaps ho.n8
  have hcl := hr1.row.cells
  have HA := Lib.hid hcl.2.1
  have HCE := Lib.hid hcl.2.2
  have c2 := hr1.c2 ho
  have hci : ((d.snaps.length : Nat) : Int) ≤ (c : Int) := by omega
  have HL := Lib.hid hl
  clear h hb0 hr1 hcl hA hS ho hl hs
  have hplt := HR.out.blk.lt
  go_enter Try.func46, Try.ntmps46
  go_wp2_with (refine wpList_value rfl (exec_box 84 (.tmp 1) S.toArray rfl rfl (by rw [sizeSnp, List.size_toArray, HSL.out]) (cells_all HS1.out)) ?_)
  have C2 := Lib.hid c2
  obtain ⟨n, hn⟩ : ∃ n, d.snaps.length = n := ⟨_, rfl⟩
  have HN := Lib.hid hn
  rw [hn] at HA HL HLEN hlc hci C2 c2 ⊢
  clear hn c2
  obtain ⟨W1, hW1⟩ : ∃ W, w.alloc (.cells S.toArray 84) = W := ⟨_, rfl⟩
  rw [hW1] at HBX HB HR HCE C2 hplt ⊢
  clear hW1
  refine wp_region_slots_t (by kernel_rfl) 10 [10, 11, 12, 13, 14, 15, 16, 17, 18, 19] (by kernel_rfl) (PuG p A n c W1.heap.size S) _ (.pointer (some ⟨p, 0, none⟩)) rfl (by decide) (by kernel_rfl) (by kernel_rfl) (by kernel_rfl) (fun _ _ _ h => h) (Or.inl ⟨by rfl, fun w => by go_simp⟩) (fun _ => rfl) (PuG_mono _ _ _ _ _ _) ?_ ?_
  · intro i o vs ρ W hi10 hop hρ hfn hb hG
    have t0 : ρ (.tmp 0) = .pointer (some ⟨p, 0, none⟩) := hρ.out 0 rfl
    have t3 : ρ (.tmp 3) = .pointer (some ⟨w.heap.size, 0, none⟩) := hρ.out 3 rfl
    have t4 : ρ (.tmp 4) = .int .i64 (n : Int) := hρ.out 4 rfl
    have s11 := hρ.at_ 11 1 rfl
    have s12 := hρ.at_ 12 2 rfl
    have s13 := hρ.at_ 13 3 rfl
    have s14 := hρ.at_ 14 4 rfl
    have s15 := hρ.at_ 15 5 rfl
    have s16 := hρ.at_ 16 6 rfl
    have s18 := hρ.at_ 18 8 rfl
    have c2 : W.cell? ⟨p, 257, none⟩ = some (.slice A n c) := (hb.cell (p := ⟨p, 257, none⟩) hplt).trans C2.out
    rcases i with _ | _ | _ | _ | _ | _ | _ | _ | _ | _ | i
    all_goals (first | omega | skip)
    all_goals simp only [List.getElem?_toArray, List.getElem?_cons_zero, List.getElem?_cons_succ, Option.some.injEq] at hop
    all_goals subst hop
    · exact stepTo_value (w' := W) (by unfold execOp; simp only [t0]; go_simp) ⟨Below.refl _ _, rfl⟩
    · exact stepTo_value (w' := W) (by unfold execOp; simp only [t0]; go_simp) ⟨Below.refl _ _, rfl⟩
    · have g1 : vs 1 = _ := hG 1 (by kernel_rfl)
      exact stepTo_value (w' := W) (by unfold execOp; simp only [s11, g1]; go_simp) ⟨Below.refl _ _, rfl⟩
    · have g2 : vs 2 = _ := hG 2 (by kernel_rfl)
      exact stepTo_value (w' := W) (by unfold execOp; simp only [s12, g2]; go_simp) ⟨Below.refl _ _, rfl⟩
    · have g3 : vs 3 = _ := hG 3 (by kernel_rfl)
      exact stepTo_value (w' := W) (by unfold execOp; simp only [s13, g3]; go_simp) ⟨Below.refl _ _, rfl⟩
    · exact stepTo_value (w' := W) (by unfold execOp; simp only [t4]; go_simp) ⟨Below.refl _ _, rfl⟩
    · exact stepTo_value (w' := W) (by unfold execOp; simp only [t4]; go_simp) ⟨Below.refl _ _, rfl⟩
    · have g4 : vs 4 = _ := hG 4 (by kernel_rfl)
      have g5 : vs 5 = _ := hG 5 (by kernel_rfl)
      have g6 : vs 6 = _ := hG 6 (by kernel_rfl)
      exact stepTo_value (w' := W) (by unfold execOp; simp only [s14, g4, s15, g5, s16, g6]; go_simp) ⟨Below.refl _ _, rfl⟩
    · exact stepTo_value (w' := W) (exec_load_part 84 (.tmp 3) rfl w.heap.size 0 t3 _ _ S _ _ (HBX.out.below hb) Try.underlying84 rfl (by rw [sizeSnp, HSL.out]) (fun j u hu => by rw [Nat.zero_add]; simpa using hu)) ⟨Below.refl _ _, rfl⟩
    · have g8 : vs 8 = _ := hG 8 (by kernel_rfl)
      exact stepTo_value (exec_one 70 84 (.tmp 18) S.toArray 259 rfl (s18.trans g8) Try.underlying70 i0 _ hi hz0 hz1 (by decide) (by decide) (by rw [List.size_toArray, HSL.out])) ⟨(Below.refl _ W).alloc (Nat.le_refl _) _, W.heap.size, rfl, Blk.new _ _ _, hb.size⟩
  · intro vs W hb hG
    have g0 : vs 0 = _ := hG 0 (by decide)
    have g7 : vs 7 = _ := hG 7 (by decide)
    obtain ⟨bb, g9, hbk, hbB⟩ := hG 9 (by decide)
    have B2 := Lib.hid (HB.out.trans (hb.mono HB.out.size))
    have HR2 := Lib.hid (HR.out.below hb)
    have HCE2 : Hid (∀ b, A = some b → ∀ j u, (srow d.snaps)[j]? = some u → W.cell? (b.add j) = some u) := (HR2.out.row.cells).2.2
    have HNW : Hid (∀ j u, S[j]? = some u → W.cell? ((⟨bb, 0, none⟩ : Addr).add j) = some u) := fun j u hu => by
      rw [addr_add, Nat.zero_add, hbk.cell j]
      simpa using hu
    simp only [putList, putSel, if_true]
    rw [g0, g7, g9]
    generalize vs 1 = z1
    generalize vs 2 = z2
    generalize vs 3 = z3
    generalize vs 4 = z4
    generalize vs 5 = z5
    generalize vs 6 = z6
    generalize vs 8 = z8
    clear hG g0 g7 g9 hb hbk hbB
    simp only [Act.put, List.setIfInBounds_toArray, List.set_cons_succ, List.set_cons_zero]
    refine wpAny_one (i := 10) (by kernel_rfl) rfl rfl ?_
    refine wp_append_full (.tmp 17) (.tmp 19) 70 rfl 84 i0 _ 259 280 Try.underlying70 hi hz0 hz1 hz2 A n (srow d.snaps) rfl HLEN.out HA.out HCE2.out ⟨bb, 0, none⟩ 1 1 S rfl (by rw [HSL.out]) HNW.out (by decide) (by have := HL.out; unfold maxLen; omega) (by have := HL.out; omega) ?_
    intro cap cur w1 hb1 hk1 ht1 hc1 hc2 hsz
    have HRW : Hid (SRow w1 (.slice (some ⟨W.heap.size, 0, none⟩) (n + 1) cap) (d.snaps ++ [s])) := by
      refine ⟨some ⟨W.heap.size, 0, none⟩, cap, ?_, ?_, hc2, .inr ⟨W.heap.size, cur, rfl, hk1, ?_⟩⟩
      · rw [List.length_append, HN.out]
        rfl
      · rw [List.length_append, HN.out]
        exact hc1
      · rw [List.length_append, HN.out, HSN.out]
        exact ht1
    have HP := Lib.hid (PgAt.rerow HR2.out hb1 HRW.out HO.out (fun k hk => by
      simp [Value.ownBlock] at hk
      exact .inr (by omega)))
    have HBU := Lib.hid (((But.of_below (S := fun j => j = p) B2.out).trans (S' := fun _ => False) (But.of_below hb1) (fun _ h => h.elim)).setCell ⟨p, 257, none⟩ (.slice (some ⟨W.heap.size, 0, none⟩) (n + 1) cap) (.inl rfl))
    have HOW : Hid (∀ j, (own j ∨ (Value.slice (some ⟨W.heap.size, 0, none⟩) (n + 1) cap).ownBlock = some j) → own j ∨ w.heap.size ≤ j) := fun j hj => by
      rcases hj with hj | hj
      · exact .inl hj
      · simp [Value.ownBlock] at hj
        have := B2.out.size
        exact .inr (by omega)
    have f1 : w1.frozen? ⟨p, 257, none⟩ = false := (HR2.out.blk.of_block (hb1.block p HR2.out.blk.lt)).frozen 257
    obtain ⟨b1, hb1'⟩ : ∃ z, w1.cell? ⟨p, 257, none⟩ = some z := ⟨_, (hb1.cell (p := ⟨p, 257, none⟩) HR2.out.blk.lt).trans (HR2.out.c2 HO.out)⟩
    clear hb1 hk1 ht1 hc1 hc2 hsz HRW HCE2 HNW HCE
    go_simp
    refine wpAny_one (i := 11) (by kernel_rfl) rfl rfl ?_
    go_simp
    refine wpAny_one (i := 12) (by kernel_rfl) rfl rfl ?_
    go_simp
    refine wpAny_one (i := 13) (by kernel_rfl) rfl rfl ?_
    go_simp
    refine ⟨by kernel_rfl, ?_⟩
    go_wp2_with fail
    go_end0
    exact ⟨rfl, _, _, HP.out, HBU.out, HOW.out⟩
end Go.Proofs.Ytfinmfmbbgakhaa.ch.pg

/- The document's volume of the last snapshot. -/
namespace Go.Proofs.Ytfinmfmbbgakhaa.ch
open Go Go.RowKit Go.Sort Go.Proofs.Ytfinmfmbbgakhaa.ib
set_option maxRecDepth 100000

set_option maxHeartbeats 1600000 in
theorem rbase_any {own : Nat → Prop} {w : World} {p : Nat} {d : CH} (h : RcIs own w p d) : Calls Try.prog 52 #[.pointer (some ⟨p, 0, none⟩)] w (okTb d.base w) := by
  obtain ⟨h0, gn, cn, v, xs, hr⟩ := h
  obtain ⟨c0, c1⟩ := blk2 hr.blk
  obtain ⟨A, c, rfl, _, _, _, hx⟩ := row_view hr.row
  have h20 : xs.length ≤ 20 := by have := h0.few; rw [hr.len]; exact this
  have HL1 := Lib.hid (hr.last_none)
  have HL2 := Lib.hid (hr.last_some)
  have HN1 := Lib.hid h0.n1
  have HN8 := Lib.hid h0.n8
  by_cases hz : xs.length = 0
  · have hl := (HL1.out hz).2
    have HL := Lib.hid hl
    rw [hz] at c1
    have HZ := Lib.hid (rzeros_any d.live.length w h0.n1 h0.n8)
    clear HL1 HL2 hl hx hr h0
    go_enter Try.func52, Try.ntmps52
    go_wp2_with fail
    refine HZ.out.mono ?_
    rintro e w' ⟨g, cc, rfl, hg, hcc, ht, hb⟩
    go_wp2_with fail
    go_ret
    rw [HL.out]
    exact ⟨g, cc, rfl, hg, hcc, ht, hb⟩
  · have hpos : 0 < xs.length := by omega
    have hl := (HL2.out hpos).2
    obtain ⟨k, hk⟩ : ∃ k, xs.length - 1 = k := ⟨_, rfl⟩
    have hkl : k < xs.length := by omega
    have hl2 : d.base = xs[k].1.bs := by
      subst hk
      exact hl
    obtain ⟨g, rfl, hg, _, _, _, g2, _⟩ := hx k hkl
    have HL := Lib.hid hl2
    have hmem : xs[k] ∈ xs := List.getElem_mem hkl
    have hok := h0.snaps xs[k].1 (by rw [← hr.eq]; exact List.mem_map_of_mem hmem)
    have hlen : xs[k].1.bs.length = d.live.length := hok.1
    have HO := Lib.hid (fun W (hw : Below w.heap.size w W) => rown_any (some ⟨xs[k].2.1, 0, none⟩) xs[k].2.2 xs[k].1.bs W ((hr.vols _ hmem).txl.below hw) (by rw [hlen]; exact h0.n1) (by have := h0.n8; omega) (hr.room.2 _ hmem))
    have hw : IntKind.i64.wrap ((xs.length : Int) - 1) = (k : Int) := by rw [IntWalk.i64_in _ (by omega)]; omega
    have hki : (k : Int) < (xs.length : Int) := by omega
    have hnz : ((xs.length : Int) == 0) = false := beq_false_of_ne (by omega)
    clear HL1 HL2 hl hl2 hx hz hpos hk hmem hok hlen hr h0
    rw [HL.out]
    generalize xs[k] = x at *
    go_enter Try.func52, Try.ntmps52
    go_wp2_with fail
    refine wp_region_still_w 13 (by kernel_rfl) (by kernel_rfl) ?_
    simp only [List.take_succ_cons, List.take_zero, List.drop_succ_cons, List.drop_zero]
    iterate 13 still_step
    refine wpStill_nil ?_
    go_wp2_with fail
    refine (HO.out w.drew (drewC (Below.refl _ _) 1)).mono ?_
    rintro e w' ⟨g, cc, rfl, hg, hcc, ht, hb⟩
    go_wp2_with fail
    go_ret
    exact ⟨g, cc, rfl, hg, hcc, ht, (drewC (Below.refl _ _) 1 : Below w.heap.size w w.drew).trans hb⟩
end Go.Proofs.Ytfinmfmbbgakhaa.ch

/- The document's Write. -/
namespace Go.Proofs.Ytfinmfmbbgakhaa.ch
open Go Go.RowKit Go.Sort Go.Proofs.Ytfinmfmbbgakhaa.ib
set_option maxRecDepth 100000

theorem set_oth (w : World) (g i : Nat) (u : Value) (k : Nat) (h : k ≠ g) : (w.setCell ⟨g, i, none⟩ u).heap[k]? = w.heap[k]? := Below.heap_setCell _ _ _ _ h
theorem RcIs.same {own : Nat → Prop} {w w' : World} {p : Nat} {d : CH} {r : Int} {e : Ending} (h : RcIs own w p d) (hb : Below w.heap.size w w') (he : e = .returned (.int .i64 r)) : Aft RcIs own p (d, r) w e w' :=
  ⟨he, own, h.below hb, But.of_below hb, fun j hj => .inl hj⟩

theorem RcAt.put {own : Nat → Prop} {w : World} {p gn cn : Nat} {v : Value} {xs : List RSn} {d : CH} (h : RcAt w own p gn cn v xs d) (k : Nat) (hk : k < d.live.length) (s : Bt) :
    RcAt (w.setCell ⟨gn, k, none⟩ (.string (str s))) own p gn cn v xs ⟨d.live.set k s, d.snaps⟩ := by
  have hn : (d.live.set k s).length = d.live.length := by simp
  refine ⟨?_, h.now.set_ k hk s, row_of_block h.row (fun j hj => set_oth _ _ _ _ _ (h.vn j hj)), h.eq, fun x hx => (h.vols x hx).of_block (set_oth _ _ _ _ _ (h.ne x hx)), ?_, h.op, h.on_, h.om, h.ov, h.ne, fun j hj => ?_⟩
  · show Blk _ _ _ #[.slice _ (d.live.set k s).length _, _]
    rw [hn]
    exact h.blk.of_block (set_oth _ _ _ _ _ h.pn)
  · show (d.live.set k s).length ≤ cn ∧ _
    rw [hn]
    exact h.room
  · have := h.low j hj
    simpa [World.setCell] using this

theorem ok_put {d : CH} (h : d.ok) (k : Nat) (s : Bt) (hs : s.length = 32) : CH.ok ⟨d.live.set k s, d.snaps⟩ := by
  have hn : (d.live.set k s).length = d.live.length := by simp
  refine ⟨?_, ?_, ?_, ?_, h.few, h.gds⟩
  · show volOk (d.live.set k s).length (d.live.set k s)
    rw [hn]
    exact set_ok h.live hs
  · show 1 ≤ (d.live.set k s).length
    rw [hn]
    exact h.n1
  · show (d.live.set k s).length ≤ 8
    rw [hn]
    exact h.n8
  · intro x hx
    show volOk (d.live.set k s).length x.bs
    rw [hn]
    exact h.snaps x hx

set_option maxHeartbeats 1600000 in
theorem rwrite_any {own : Nat → Prop} {w : World} {p : Nat} {d : CH} (h : RcIs own w p d) (k : Int) (s : Bt) : Calls Try.prog 34 #[.pointer (some ⟨p, 0, none⟩), .int .i64 k, .string (str s)] w (Aft RcIs own p (d.write k s) w) := by
  have HI := Lib.hid h
  obtain ⟨h0, gn, cn, v, xs, hr⟩ := h
  obtain ⟨c0, c1⟩ := blk2 hr.blk
  have h1 := h0.n1
  have h8 := h0.n8
  have HR := Lib.hid hr
  have HH0 := Lib.hid h0
  clear hr h0 c1
  by_cases hbad : k < 0 ∨ (d.live.length : Int) ≤ k ∨ s.length ≠ 32
  · have HW : Hid (d.write k s = (d, 2)) := by unfold Hid CH.write; rw [if_pos hbad]
    rw [HW.out]
    have hcs : k < 0 ∨ (0 ≤ k ∧ (d.live.length : Int) ≤ k) ∨ (0 ≤ k ∧ k < (d.live.length : Int) ∧ ((str s).size : Int) ≠ 32) := by
      rw [str_size]
      omega
    clear hbad HW
    rcases hcs with hk | ⟨hk, hk2⟩ | ⟨hk, hk2, hs⟩
    · go_enter Try.func34, Try.ntmps34
      go_wp2_with fail
      go_ret
      exact HI.out.same (Below.refl _ _) rfl
    · have hk3 : ¬ k < 0 := by omega
      go_enter Try.func34, Try.ntmps34
      go_wp2_with fail
      go_ret
      exact HI.out.same (Below.refl _ _) rfl
    · have hk3 : ¬ k < 0 := by omega
      have hk4 : ¬ (d.live.length : Int) ≤ k := by omega
      have hsq : (((str s).size : Int) == 32) = false := beq_false_of_ne hs
      go_enter Try.func34, Try.ntmps34
      go_wp2_with fail
      go_ret
      exact HI.out.same (Below.refl _ _) rfl
  · have HW : Hid (d.write k s = (⟨d.live.set k.toNat s, d.snaps⟩, 0)) := by unfold Hid CH.write; rw [if_neg hbad]
    rw [HW.out]
    obtain ⟨m, rfl⟩ : ∃ m : Nat, k = (m : Int) := ⟨k.toNat, by omega⟩
    have hm : m < d.live.length := by omega
    have hs : s.length = 32 := by omega
    have hsq : (str s).size = 32 := by rw [str_size]; exact hs
    have hs := Lib.hid hs
    have hmi : (m : Int) < (d.live.length : Int) := by omega
    have hk3 : ¬ (m : Int) < 0 := by omega
    have f0 := HR.out.now.frozen m
    have cm := HR.out.now.cell m hm
    clear hbad HW
    go_enter Try.func34, Try.ntmps34
    go_wp2_with fail
    go_ret
    refine ⟨rfl, own, ⟨?_, gn, cn, v, xs, ?_⟩, (But.refl own w).setCell _ _ (.inl HR.out.on_), fun j hj => .inl hj⟩
    · exact ok_put HH0.out _ s hs.out
    · exact HR.out.put m hm s
end Go.Proofs.Ytfinmfmbbgakhaa.ch


/- StreamCuts, of every input: the frame. -/
import Derived.Test.YtchdamlnbmngbaaDoorQ11
import Derived.Test.YtchdamlnbmngbaaDoorQ13
import Derived.Test.YtchdamlnbmngbaaDoorQ7
import Derived.Test.YtchdamlnbmngbaaDoorQ9
import Derived.Test.YtchdamlnbmngbaaDoorRows
import Derived.Test.YtchdamlnbmngbaaDoorCards
import Derived.Test.YtchdamlnbmngbaaDoorTie
import Derived.SevenTiedAt
import Derived.Deep.DeepHandedRow
import Derived.ProofKit
import Derived.OpenShut
import Derived.ShutString
import Derived.SizedLaws
import Derived.ChangeOld
import Derived.Below
import Derived.SliceStrings
set_option linter.unusedVariables false
set_option linter.unusedSimpArgs false
/- As SlotsI, where an operation may yield into no slot (a store). Nothing here speaks of the program. -/
namespace Go.Proofs.YtchdamlnbmngbaaDoor
open Go Go.RowKit
set_option maxRecDepth 100000

/-- As stepTo, a store too. -/
def stepToS (P : Program) (K : Value → World → Prop) : Result Next → Prop
  | .ok (.value v) w' => K v w'
  | .ok .skip w' => K undef w'
  | .ok (.enter f args) w' => Calls P f args w' fun e w'' => ∃ v, e = .returned v ∧ K v w''
  | _ => False

theorem wp_of_stepToS {P : Program} {o : Oper} {a : Act} {w : World} {Q : Exit → Act → World → Prop} {K : Value → World → Prop} {next : Act → World → Prop} (h : stepToS P K ((execOp a.eval o).run P w)) (hn : ∀ v w', K v w' → next (a.put o.dst v) w') : o.wp P a w next Q := by
  unfold Oper.wp
  generalize (execOp a.eval o).run P w = r at *
  cases r with
  | ok n w' =>
    cases n <;> simp only [stepToS] at h <;> simp only [Oper.upon]
    case value v => exact hn _ _ h
    case skip => exact hn _ _ h
    case enter f args =>
      refine h.mono fun e w'' he => ?_
      obtain ⟨v, rfl, hk⟩ := he
      exact hn _ _ hk
  | halt x w' => simp only [stepToS] at h

theorem stepToS_value {P : Program} {o : Oper} {ρ : Operand → Value} {w w' : World} {v : Value} {K : Value → World → Prop} (h : (execOp ρ o).run P w = .ok (.value v) w') (hk : K v w') : stepToS P K ((execOp ρ o).run P w) := by
  rw [h]; exact hk
theorem stepToS_skip {P : Program} {o : Oper} {ρ : Operand → Value} {w w' : World} {K : Value → World → Prop} (h : (execOp ρ o).run P w = .ok .skip w') (hk : K undef w') : stepToS P K ((execOp ρ o).run P w) := by
  rw [h]; exact hk

section
variable {P : Program} {ops : Array Oper} {Q : Exit → Act → World → Prop}

/-- As slotsGB, but an operation may yield into no slot at all (a store): its own slot is then one that the frame has not. -/
def slotsNB (ops : Array Oper) (ds : List Tmp) (size : Nat) : Bool :=
  decide (ds.length = ops.size) && decide ds.Nodup &&
  (List.range ops.size).all (fun i => match ops[i]? with
    | some o => (match o.dst with | some d => decide (ds[i]? = some d) && decide (d < size) | none => (match ds[i]? with | some d => decide (size ≤ d) | none => false)) && (match o.op with | .select .. => false | _ => true) &&
      o.after.all (fun e => !Region.binds .any e || decide (e.on < i)) &&
      (match o.guard with | none => true | some g => afterB ops i g.1 && (match ops[g.1]? with | some q => q.dst.isSome | none => false)) &&
      o.op.operands.toList.all (fun x => match x with
        | .tmp t => match ds.idxOf? t with
          | some j => afterB ops i j && decide (t < size)
          | none => true
        | _ => true)
    | none => false)

structure SlotsN (ops : Array Oper) (ds : List Tmp) (size : Nat) : Prop where
  len : ds.length = ops.size
  nodup : ds.Nodup
  each : ∀ i, i < ops.size → ∃ o d, ops[i]? = some o ∧ ds[i]? = some d ∧ ((o.dst = some d ∧ d < size) ∨ (o.dst = none ∧ size ≤ d)) ∧ (∀ cs b, o.op ≠ .select cs b) ∧ (∀ e ∈ o.after, Region.binds .any e = true → e.on < i) ∧
    (∀ j want, o.guard = some (j, want) → afterB ops i j = true ∧ ∃ q, ops[j]? = some q ∧ q.dst.isSome = true) ∧ (∀ t j, Operand.tmp t ∈ o.op.operands → ds.idxOf? t = some j → afterB ops i j = true ∧ t < size)

theorem slotsN_ok {ds : List Tmp} {size : Nat} (h : slotsNB ops ds size = true) : SlotsN ops ds size := by
  unfold slotsNB at h
  simp only [Bool.and_eq_true, decide_eq_true_eq, List.all_eq_true, List.mem_range] at h
  obtain ⟨⟨h2, h3⟩, h5⟩ := h
  refine ⟨h2, h3, fun i hi => ?_⟩
  have h := h5 i hi
  cases ho : ops[i]? with
  | none => simp [ho] at h
  | some o =>
    simp only [ho, Bool.and_eq_true] at h
    obtain ⟨⟨⟨⟨g2, g3⟩, g4⟩, g1⟩, g5⟩ := h
    have hd : ∃ d, ds[i]? = some d := ⟨ds[i]'(by omega), List.getElem?_eq_getElem _⟩
    obtain ⟨d, hd⟩ := hd
    refine ⟨o, d, rfl, hd, ?_, fun cs b hs => by simp [hs] at g3, fun e he hb => ?_, fun j want hg => ?_, fun t j ht hj => ?_⟩
    · cases hq : o.dst with
      | some d' =>
        rw [hq] at g2
        simp only [Bool.and_eq_true, decide_eq_true_eq] at g2
        rw [hd] at g2
        obtain ⟨g2a, g2b⟩ := g2
        injection g2a with g2a
        subst g2a
        exact .inl ⟨rfl, g2b⟩
      | none =>
        rw [hq, hd] at g2
        simp only [decide_eq_true_eq] at g2
        exact .inr ⟨rfl, g2⟩
    · have := Array.all_eq_true_iff_forall_mem.1 g4 e he
      simpa [hb] using this
    · rw [hg] at g1
      simp only [Bool.and_eq_true] at g1
      refine ⟨g1.1, ?_⟩
      have g1b := g1.2
      cases hq : ops[j]? with
      | none => rw [hq] at g1b; cases g1b
      | some q => rw [hq] at g1b; exact ⟨q, rfl, g1b⟩
    · have := List.all_eq_true.1 g5 (.tmp t) (by simpa using ht)
      simpa [hj] using this

theorem put_beyond (a : Act) (d : Tmp) (v : Value) (h : a.tmps.size ≤ d) : a.put none v = a.put (some d) v := by
  unfold Act.put
  simp only
  congr 1
  rw [Array.setIfInBounds_eq_of_size_le h]

structure NInv (ops : Array Oper) (a0 : Act) (ds : List Tmp) (I : (Nat → Bool) → (Nat → Value) → World → Prop) (listed : Array Bool) (vs : Nat → Value) (a : Act) (w : World) : Prop where
  size : listed.size = ops.size
  act : a = putSel (fun i => listed.getD i false) vs ds 0 a0
  inv : I (fun i => listed.getD i false) vs w

variable {a0 : Act} {ds : List Tmp} {I : (Nat → Bool) → (Nat → Value) → World → Prop}

theorem idx_getN {t : Tmp} {j : Nat} (hj : ds.idxOf? t = some j) : ds[j]? = some t := by
  have := List.of_findIdx?_eq_some (p := (· == t)) (xs := ds) (i := j) (by simpa [List.idxOf?] using hj)
  cases hd : ds[j]? with
  | none => simp [hd] at this
  | some d => simp [hd] at this; rw [this]

theorem ninv_go (ok : SlotsN ops ds a0.tmps.size)
    (step : ∀ i o L vs ρ w, ops[i]? = some o → L i = false → (∀ j, afterB ops i j = true → L j = true) → ReadsF a0 ds vs ρ → (∀ j want, o.guard = some (j, want) → vs j = .bool want) → I L vs w →
      stepToS P (fun v w' => I (updB L i) (updV vs i v) w') ((execOp ρ o).run P w))
    (skip : ∀ i o L vs w j want, ops[i]? = some o → L i = false → (∀ j, afterB ops i j = true → L j = true) → o.guard = some (j, want) → vs j ≠ .bool want → I L vs w → I (updB L i) (updV vs i undef) w)
    (fin : ∀ vs w', I (fun j => decide (j < ops.size)) vs w' → Q .normal (putList vs ds a0) w') :
    ∀ (r : Nat) (listed : Array Bool) (vs : Nat → Value) (a : Act) (w : World), NInv ops a0 ds I listed vs a w → toCome ops.size listed = r → wpAny P .any ops Q r listed a w
  | 0, listed, vs, a, w, hI, hr => by
    have hall := toCome_zero hr
    have hn : Region.ready .any ops listed = [] := by
      apply List.eq_nil_iff_forall_not_mem.2
      intro i hi
      obtain ⟨hun, o, ho, _⟩ := mem_ready.1 hi
      have hio : i < ops.size := (Array.getElem?_eq_some_iff.1 ho).1
      have := hall i hio
      rw [getD_false_true (by rw [hI.size]; exact hio)] at hun
      rw [this] at hun
      cases hun
    have ha : a = putList vs ds a0 := by
      rw [hI.act]
      exact putSel_congr _ _ _ _ ds 0 a0 fun j _ hj => ⟨hall j (by rw [← ok.len]; omega), fun _ => rfl⟩
    have hL : (fun i => listed.getD i false) = fun j => decide (j < ops.size) := by
      funext j
      by_cases hj : j < ops.size
      · rw [hall j hj, decide_eq_true hj]
      · rw [decide_eq_false hj]
        simp [Array.getD, hI.size, hj]
    rw [ha]
    have h2 := hI.inv
    rw [hL] at h2
    exact wpAny_done hn (fin vs w h2) 0
  | r + 1, listed, vs, a, w, hI, hr => by
    refine ⟨fun h0 => ?_, fun i hi => ?_⟩
    · exfalso
      have hex : ∃ i, i < ops.size ∧ listed.getD i false = false := by
        apply Classical.byContradiction
        intro hn
        have : toCome ops.size listed = 0 := by
          unfold toCome
          rw [List.countP_eq_zero]
          intro i hi
          have hi' := List.mem_range.1 hi
          cases hb : listed.getD i false
          · exact absurd ⟨i, hi', hb⟩ hn
          · simp
        omega
      have key : ∀ n i, i < n → i < ops.size → listed.getD i false = false → False := by
        intro n
        induction n with
        | zero => intro i h; omega
        | succ n ih =>
          intro i hin him hf
          obtain ⟨o, _, ho, _, _, _, hlow, _⟩ := ok.each i him
          have hs : i < listed.size := by rw [hI.size]; exact him
          have : i ∈ Region.ready .any ops listed := by
            rw [mem_ready]
            refine ⟨by rw [getD_false_true hs]; exact hf, o, ho, fun e he hb => ?_⟩
            cases hb' : listed.getD e.on false
            · exact (ih e.on (by have := hlow e he hb; omega) (by have := hlow e he hb; omega) hb').elim
            · rfl
          rw [h0] at this
          cases this
      obtain ⟨i, him, hf⟩ := hex
      exact key (i + 1) i (by omega) him hf
    · obtain ⟨hun, o, ho, hall⟩ := mem_ready.1 hi
      have him : i < ops.size := (Array.getElem?_eq_some_iff.1 ho).1
      have hs : i < listed.size := by rw [hI.size]; exact him
      have hf : listed.getD i false = false := by rw [← getD_false_true hs]; exact hun
      obtain ⟨o', d, ho', hd, hdst, hsel, hlow, hgrd, hopn⟩ := ok.each i him
      obtain rfl : o = o' := Option.some.inj (ho.symm.trans ho')
      have haft : ∀ j, afterB ops i j = true → listed.getD j false = true := fun j hj => by
        obtain ⟨e, he, hb, rfl⟩ := afterB_iff ho hj
        exact hall e he hb
      have hread : ∀ t j, ds[j]? = some t → t < a0.tmps.size → listed.getD j false = true → a.eval (.tmp t) = vs j := fun t j hdj hts hl => by
        rw [hI.act]
        have := putSel_in (fun i => listed.getD i false) vs t ds 0 j a0 ok.nodup hdj (by simpa using hl) hts
        simpa using this
      have hnext : ∀ v w', I (updB (fun i => listed.getD i false) i) (updV vs i v) w' → wpAny P .any ops Q r (listed.setIfInBounds i true) (a.put o.dst v) w' := by
        intro v w' h
        refine ninv_go ok step skip fin r (listed.setIfInBounds i true) (updV vs i v) (a.put o.dst v) w' ⟨by simp [hI.size], ?_, ?_⟩ ?_
        · have hput : a.put o.dst v = a.put (some d) v := by
            rcases hdst with ⟨e, _⟩ | ⟨e, hs2⟩
            · rw [e]
            · rw [e]
              exact put_beyond a d v (by rw [hI.act, putSel_size]; exact hs2)
          rw [hput, hI.act]
          have := putSel_set (fun i => listed.getD i false) vs i v ds 0 a0 d ok.nodup (Nat.zero_le _) (by simpa using hd) hf
          rw [this, updB_listed hs]
        · rw [← updB_listed hs]
          exact h
        · have := toCome_set him hs hf
          omega
      have hyield : ∀ j want, o.guard = some (j, want) → yielded ops a.tmps j = (match vs j with | .bool b => some b | _ => none) := by
        intro j want hg
        obtain ⟨hj, q, hq1, hq2⟩ := hgrd j want hg
        obtain ⟨e, he, hb, he2⟩ := afterB_iff ho hj
        have hji : j < i := by rw [← he2]; exact hlow e he hb
        obtain ⟨oj, t, hoj, hdj2, hdj, _⟩ := ok.each j (by omega)
        obtain rfl : q = oj := Option.some.inj (hq1.symm.trans hoj)
        have hdj3 : q.dst = some t ∧ t < a0.tmps.size := by
          rcases hdj with h | ⟨h, _⟩
          · exact h
          · rw [h] at hq2; cases hq2
        obtain ⟨hdj, hts⟩ := hdj3
        have hr := hread t j hdj2 hts (haft j hj)
        unfold yielded
        rw [hoj]
        simp only [Option.bind_some, hdj, hdj2]
        have he : a.eval (.tmp t) = a.tmps.getD t undef := rfl
        rw [he] at hr
        cases hx : a.tmps[t]? with
        | none =>
          have : a.tmps.getD t undef = undef := by simp [Array.getD_eq_getD_getElem?, hx]
          rw [← hr, this]
          rfl
        | some x =>
          have : a.tmps.getD t undef = x := by simp [Array.getD_eq_getD_getElem?, hx]
          rw [← hr, this]
          cases x <;> rfl
      unfold wpOp
      simp only [ho]
      by_cases hw : Region.wanted o (yielded ops a.tmps) = true
      · rw [if_pos hw]
        left
        have hρ : execOp a.eval o = execOp (valOf a0 ds vs) o := by
          refine execOp_congr o hsel fun x hx => ?_
          cases x with
          | tmp t =>
            cases hj : ds.idxOf? t with
            | none =>
              rw [valOf_none hj, hI.act]
              exact putSel_out _ _ t ds 0 a0 (by rw [List.idxOf?_eq_none_iff] at hj; exact hj)
            | some j =>
              rw [valOf_some hj]
              exact hread t j (idx_getN hj) (hopn t j hx hj).2 (haft j (hopn t j hx hj).1)
          | const v => simp only [valOf]; rfl
          | global g => simp only [valOf]; rfl
          | func f => simp only [valOf]; rfl
        have hst := step i o (fun i => listed.getD i false) vs (valOf a0 ds vs) w ho hf haft ⟨fun _ _ h => valOf_some h, fun _ h => valOf_none h, fun _ => rfl, fun _ => rfl⟩ (fun j want hg => by
          have hy := hyield j want hg
          unfold Region.wanted at hw
          rw [hg] at hw
          simp only [hy] at hw
          cases hv : vs j <;> rw [hv] at hw <;> simp at hw
          rw [hw]) hI.inv
        rw [← hρ] at hst
        exact wp_of_stepToS hst fun v w' h => hnext v w' h
      · rw [if_neg hw]
        cases hg : o.guard with
        | none => exact absurd (by simp [Region.wanted, hg]) hw
        | some g =>
          obtain ⟨j, want⟩ := g
          refine hnext undef w (skip i o _ vs w j want ho hf haft hg (fun hv => hw ?_) hI.inv)
          have hy := hyield j want hg
          unfold Region.wanted
          rw [hg]
          simp only [hy, hv]
          simp

/-- THE RULE. -/
theorem wp_region_invN {id : Nat} {a : Act} {w : World} (hm : P.follows .mixedOrders = true) (ds : List Tmp) (hok : slotsNB ops ds a.tmps.size = true) (I : (Nat → Bool) → (Nat → Value) → World → Prop)
    (start : I (fun _ => false) (fun _ => undef) w.drew)
    (step : ∀ i o L vs ρ w, ops[i]? = some o → L i = false → (∀ j, afterB ops i j = true → L j = true) → ReadsF a ds vs ρ → (∀ j want, o.guard = some (j, want) → vs j = .bool want) → I L vs w →
      stepToS P (fun v w' => I (updB L i) (updV vs i v) w') ((execOp ρ o).run P w))
    (skip : ∀ i o L vs w j want, ops[i]? = some o → L i = false → (∀ j, afterB ops i j = true → L j = true) → o.guard = some (j, want) → vs j ≠ .bool want → I L vs w → I (updB L i) (updV vs i undef) w)
    (fin : ∀ vs w', I (fun j => decide (j < ops.size)) vs w' → Q .normal (putList vs ds a) w') :
    (Code.region id ops true).wp P Q a w := by
  have ok := slotsN_ok hok
  refine wp_region_any hm ?_
  have h0 : toCome ops.size (Array.replicate ops.size false) = ops.size := by
    have := List.countP_eq_length (l := List.range ops.size) (p := fun i => !(Array.replicate ops.size false).getD i false) |>.2 fun i _ => by rw [rep_false]; rfl
    unfold toCome
    rw [this, List.length_range]
  have hf : (fun i => (Array.replicate ops.size false).getD i false) = fun _ => false := by
    funext i
    exact rep_false _ i
  refine ninv_go ok step skip fin ops.size (Array.replicate ops.size false) (fun _ => undef) a _ ⟨by simp, ?_, ?_⟩ h0
  · rw [hf]
    exact (putSel_none ds 0 a).symm
  · rw [hf]
    exact start
end
end Go.Proofs.YtchdamlnbmngbaaDoor

/- StreamCuts' walk. -/
namespace Go.Proofs.YtchdamlnbmngbaaDoor.st
open Go Go.RowKit Go.Sort Go.Proofs.YtchdamlnbmngbaaDoor.ib Go.Proofs.YtchdamlnbmngbaaDoor.wi Go.Proofs.YtchdamlnbmngbaaDoor.mt
open Go.Proofs.YtchdamlnbmngbaaDoor.ch (ChL OChs chVals infoCh)
set_option maxRecDepth 100000

theorem stepToS_enter {P : Program} {o : Oper} {ρ : Operand → Value} {w w' : World} {f : FuncId} {args : Array Value} {K : Value → World → Prop} (h : (execOp ρ o).run P w = .ok (.enter f args) w') (hk : Calls P f args w' fun e w'' => ∃ v, e = .returned v ∧ K v w'') : stepToS P K ((execOp ρ o).run P w) := by
  rw [h]; exact hk
def CuG (gd : Nat) (g t : Gd) (a : Option Addr) (N c : Nat) (fr : Int) (L : List Ch) (Q : Pa) (E : Int) (A5 : Option Addr) (c5 : Nat) (A7 : Option Addr) (c7 gq : Nat) : Nat → Value → Prop
  | 0, v => v = .pointer (some ⟨gd, 0, none⟩)
  | 1, v => v = gv g
  | 2, v => v = .pointer (some ⟨gd, 2, none⟩)
  | 3, v => v = gv t
  | 4, v => v = .slice a N c
  | 5, v => v = .slice A5 L.length c5
  | 6, v => v = .int .i64 fr
  | 7, v => v = .tuple #[.agg (paC Q A7 c7), .int .i64 E]
  | 8, v => v = .tuple #[.agg (paC Q A7 c7), .int .i64 E]
  | 9, v => v = .agg (paC Q A7 c7)
  | 10, v => v = .int .i64 E
  | 11, v => v = .pointer (some ⟨gq, 0, none⟩)
  | 13, v => v = .int .i64 E
  | _, _ => True
/-- A drawn region under way: the second cut, whose block may be laid at any time. -/
structure CuI (W3 : World) (gd : Nat) (g t : Gd) (a : Option Addr) (N c : Nat) (fr : Int) (L : List Ch) (Q : Pa) (E : Int) (A5 : Option Addr) (c5 : Nat) (A7 : Option Addr) (c7 gq : Nat) (L1 : Nat → Bool) (vs : Nat → Value) (W : World) : Prop where
  b : Below W3.heap.size W3 W
  g : ∀ i, L1 i = true → CuG gd g t a N c fr L Q E A5 c5 A7 c7 gq i (vs i)
  c : L1 5 = true → L1 12 = false → ChL W A5 L
  p : L1 7 = true → PaL W A7 c7 Q ∧ ∀ b o, A7 = some ⟨b, o, none⟩ → b < W.heap.size
  q : L1 11 = true → W3.heap.size ≤ gq ∧ Blk W gq 30 (if L1 12 = true then paC Q A7 c7 else pZ)
  n : L1 7 = true → L1 11 = true → ∀ b o, A7 = some ⟨b, o, none⟩ → b ≠ gq
  o1 : L1 12 = true → L1 7 = true
  o2 : L1 12 = true → L1 5 = true
  o3 : L1 12 = true → L1 11 = true
  o4 : L1 7 = true → L1 5 = true
  o5 : ∀ i, i = 8 ∨ i = 9 ∨ i = 10 ∨ i = 13 → L1 i = true → L1 7 = true
  o6 : L1 13 = true → L1 12 = true
section
variable {W3 : World} {gd : Nat} {g t : Gd} {a : Option Addr} {N c : Nat} {fr : Int} {L : List Ch} {Q : Pa} {E : Int} {A5 : Option Addr} {c5 : Nat} {A7 : Option Addr} {c7 gq : Nat} {L1 : Nat → Bool} {vs : Nat → Value} {W W' : World}
theorem CuI.val (h : CuI W3 gd g t a N c fr L Q E A5 c5 A7 c7 gq L1 vs W) (i : Nat) (v : Value) (hi : i ∈ [0, 1, 2, 3, 4, 6, 8, 9, 10, 13]) (hv : CuG gd g t a N c fr L Q E A5 c5 A7 c7 gq i v) (h7 : i = 8 ∨ i = 9 ∨ i = 10 ∨ i = 13 → L1 7 = true) (h12 : i = 13 → L1 12 = true) :
    CuI W3 gd g t a N c fr L Q E A5 c5 A7 c7 gq (updB L1 i) (updV vs i v) W := by
  have ne : ∀ j, j ∈ [5, 7, 11, 12] → updB L1 i j = L1 j := fun j hj => by
    simp only [updB]
    rw [if_neg]
    rintro rfl
    simp only [List.mem_cons, List.not_mem_nil, or_false] at hi hj
    omega
  refine ⟨h.b, fun j hj => ?_, ?_, ?_, ?_, ?_, ?_, ?_, ?_, ?_, fun j hj hl => ?_, fun hl => ?_⟩
  · by_cases hji : j = i
    · subst hji
      simpa [updV] using hv
    · simp only [updB, if_neg hji] at hj
      simpa [updV, hji] using h.g j hj
  · rw [ne 5 (by simp), ne 12 (by simp)]; exact h.c
  · rw [ne 7 (by simp)]; exact h.p
  · rw [ne 11 (by simp), ne 12 (by simp)]; exact h.q
  · rw [ne 7 (by simp), ne 11 (by simp)]; exact h.n
  · rw [ne 12 (by simp), ne 7 (by simp)]; exact h.o1
  · rw [ne 12 (by simp), ne 5 (by simp)]; exact h.o2
  · rw [ne 12 (by simp), ne 11 (by simp)]; exact h.o3
  · rw [ne 7 (by simp), ne 5 (by simp)]; exact h.o4
  · rw [ne 7 (by simp)]
    by_cases hji : j = i
    · subst hji; exact h7 hj
    · simp only [updB, if_neg hji] at hl
      exact h.o5 j hj hl
  · rw [ne 12 (by simp)]
    by_cases hji : 13 = i
    · exact h12 hji.symm
    · simp only [updB, if_neg hji] at hl
      exact h.o6 hl
theorem CuI.five {Ax : Option Addr} {cx : Nat} (h : CuI W3 gd g t a N c fr L Q E A5 c5 A7 c7 gq L1 vs W) (hb : Below W.heap.size W W') (hli : L1 5 = false) (hc : ChL W' Ax L) :
    CuI W3 gd g t a N c fr L Q E Ax cx A7 c7 gq (updB L1 5) (updV vs 5 (.slice Ax L.length cx)) W' := by
  have ne : ∀ j, j ≠ 5 → updB L1 5 j = L1 j := fun j hj => by simp only [updB]; rw [if_neg hj]
  have f7 : L1 7 = true → False := fun h7 => by have := h.o4 h7; rw [hli] at this; cases this
  have f12 : L1 12 = true → False := fun h7 => by have := h.o2 h7; rw [hli] at this; cases this
  refine ⟨below_step h.b hb, fun j hj => ?_, fun _ _ => hc, fun h7 => ?_, fun h11 => ?_, fun h7 => ?_, fun h12 => ?_, fun h12 => ?_, fun h12 => ?_, fun h7 => ?_, fun j hj hl => ?_, fun hl => ?_⟩
  · by_cases hji : j = 5
    · subst hji
      simp [updV, CuG]
    · simp only [updB, if_neg hji] at hj
      have := h.g j hj
      have h2 : CuG gd g t a N c fr L Q E Ax cx A7 c7 gq j (vs j) := by
        rcases j with _ | _ | _ | _ | _ | _ | _ | _ | _ | _ | _ | _ | _ | _ | j <;> first | exact absurd rfl hji | exact this
      simpa [updV, hji] using h2
  · rw [ne 7 (by omega)] at h7; exact (f7 h7).elim
  · rw [ne 11 (by omega)] at h11
    rw [ne 12 (by omega)]
    exact ⟨(h.q h11).1, (h.q h11).2.below hb⟩
  · rw [ne 7 (by omega)] at h7; exact (f7 h7).elim
  · rw [ne 12 (by omega)] at h12; exact (f12 h12).elim
  · simp [updB]
  · rw [ne 12 (by omega)] at h12; exact (f12 h12).elim
  · simp [updB]
  · rw [ne j (by omega)] at hl; rw [ne 7 (by omega)]; exact h.o5 j hj hl
  · rw [ne 13 (by omega)] at hl; rw [ne 12 (by omega)]; exact h.o6 hl
theorem CuI.seven {Ax : Option Addr} {cx : Nat} (h : CuI W3 gd g t a N c fr L Q E A5 c5 A7 c7 gq L1 vs W) (hb : Below W.heap.size W W') (hli : L1 7 = false) (h5 : L1 5 = true) (hp : PaL W' Ax cx Q) (hn : NewA W W' Ax) :
    CuI W3 gd g t a N c fr L Q E A5 c5 Ax cx gq (updB L1 7) (updV vs 7 (.tuple #[.agg (paC Q Ax cx), .int .i64 E])) W' := by
  have ne : ∀ j, j ≠ 7 → updB L1 7 j = L1 j := fun j hj => by simp only [updB]; rw [if_neg hj]
  have f12 : L1 12 = true → False := fun h7 => by have := h.o1 h7; rw [hli] at this; cases this
  refine ⟨below_step h.b hb, fun j hj => ?_, fun h5 h12 => ?_, fun _ => ⟨hp, fun b o e => (hn b o e).2⟩, fun h11 => ?_, fun _ h11 b o e => ?_, fun h12 => ?_, fun h12 => ?_, fun h12 => ?_, fun _ => ?_, fun j hj hl => ?_, fun hl => ?_⟩
  · by_cases hji : j = 7
    · subst hji
      simp [updV, CuG]
    · simp only [updB, if_neg hji] at hj
      have := h.g j hj
      have n8 : j = 8 ∨ j = 9 ∨ j = 10 ∨ j = 13 → False := fun hk => by have := h.o5 j hk hj; rw [hli] at this; cases this
      have h2 : CuG gd g t a N c fr L Q E A5 c5 Ax cx gq j (vs j) := by
        rcases j with _ | _ | _ | _ | _ | _ | _ | _ | _ | _ | _ | _ | _ | _ | j <;> first | exact absurd rfl hji | exact this | exact (n8 (by omega)).elim
      simpa [updV, hji] using h2
  · rw [ne 5 (by omega)] at h5
    rw [ne 12 (by omega)] at h12
    exact (h.c h5 h12).below hb
  · rw [ne 11 (by omega)] at h11
    rw [ne 12 (by omega)]
    refine ⟨(h.q h11).1, ?_⟩
    have := (h.q h11).2.below hb
    rw [if_neg (fun h12 => f12 h12)] at this ⊢
    exact this
  · rw [ne 11 (by omega)] at h11
    have h1 := (h.q h11).2.lt
    have h2 := (hn b o e).1
    omega
  · rw [ne 12 (by omega)] at h12; exact (f12 h12).elim
  · rw [ne 12 (by omega)] at h12; exact (f12 h12).elim
  · rw [ne 12 (by omega)] at h12; exact (f12 h12).elim
  · rw [ne 5 (by omega)]; exact h5
  · simp [updB]
  · rw [ne 13 (by omega)] at hl; rw [ne 12 (by omega)]; exact h.o6 hl
theorem CuI.eleven (h : CuI W3 gd g t a N c fr L Q E A5 c5 A7 c7 gq L1 vs W) (hli : L1 11 = false) :
    CuI W3 gd g t a N c fr L Q E A5 c5 A7 c7 W.heap.size (updB L1 11) (updV vs 11 (.pointer (some ⟨W.heap.size, 0, none⟩))) (W.alloc (.cells pZ 30)) := by
  have hb := (Below.refl W.heap.size W).alloc (Nat.le_refl _) (.cells pZ 30)
  have ne : ∀ j, j ≠ 11 → updB L1 11 j = L1 j := fun j hj => by simp only [updB]; rw [if_neg hj]
  have f12 : L1 12 = true → False := fun h7 => by have := h.o3 h7; rw [hli] at this; cases this
  refine ⟨below_step h.b hb, fun j hj => ?_, fun h5 h12 => ?_, fun h7 => ?_, fun h11 => ?_, fun h7 _ b o e => ?_, fun h12 => ?_, fun h12 => ?_, fun h12 => ?_, fun h7 => ?_, fun j hj hl => ?_, fun hl => ?_⟩
  · by_cases hji : j = 11
    · subst hji
      simp [updV, CuG]
    · simp only [updB, if_neg hji] at hj
      have := h.g j hj
      have h2 : CuG gd g t a N c fr L Q E A5 c5 A7 c7 W.heap.size j (vs j) := by
        rcases j with _ | _ | _ | _ | _ | _ | _ | _ | _ | _ | _ | _ | _ | _ | j <;> first | exact absurd rfl hji | exact this
      simpa [updV, hji] using h2
  · rw [ne 5 (by omega)] at h5
    rw [ne 12 (by omega)] at h12
    exact (h.c h5 h12).below hb
  · rw [ne 7 (by omega)] at h7
    exact ⟨(h.p h7).1.below hb, fun b o e => Nat.lt_of_lt_of_le ((h.p h7).2 b o e) hb.size⟩
  · rw [ne 12 (by omega), if_neg (fun h12 => f12 h12)]
    exact ⟨h.b.size, Blk.new W _ _⟩
  · rw [ne 7 (by omega)] at h7
    have := (h.p h7).2 b o e
    omega
  · rw [ne 12 (by omega)] at h12; exact (f12 h12).elim
  · rw [ne 12 (by omega)] at h12; exact (f12 h12).elim
  · simp [updB]
  · rw [ne 7 (by omega)] at h7; rw [ne 5 (by omega)]; exact h.o4 h7
  · rw [ne j (by omega)] at hl; rw [ne 7 (by omega)]; exact h.o5 j hj hl
  · rw [ne 13 (by omega)] at hl; rw [ne 12 (by omega)]; exact h.o6 hl
theorem CuI.twelve (h : CuI W3 gd g t a N c fr L Q E A5 c5 A7 c7 gq L1 vs W) (hli : L1 12 = false) (h7 : L1 7 = true) (h11 : L1 11 = true) :
    CuI W3 gd g t a N c fr L Q E A5 c5 A7 c7 gq (updB L1 12) (updV vs 12 undef) (setPa W gq Q.base Q.target Q.fr Q.all (.slice A7 Q.chs.length c7)) := by
  have ne : ∀ j, j ≠ 12 → updB L1 12 j = L1 j := fun j hj => by simp only [updB]; rw [if_neg hj]
  have hq := (h.q h11).2
  rw [if_neg (by rw [hli]; decide)] at hq
  refine ⟨setPa_below h.b (h.q h11).1, fun j hj => ?_, fun _ h12 => ?_, fun _ => ⟨pal_set (h.p h7).1 (h.n h7 h11), fun b o e => by rw [setPa_size]; exact (h.p h7).2 b o e⟩, fun _ => ⟨(h.q h11).1, ?_⟩, fun _ _ => h.n h7 h11, fun _ => ?_, fun _ => ?_, fun _ => ?_, fun h7 => ?_, fun j hj hl => ?_, fun hl => ?_⟩
  · by_cases hji : j = 12
    · subst hji
      exact trivial
    · simp only [updB, if_neg hji] at hj
      simpa [updV, hji] using h.g j hj
  · simp [updB] at h12
  · rw [if_pos (by simp [updB])]
    exact setPa_blk (by rw [← pZ_is]; exact hq)
  · rw [ne 7 (by omega)]; exact h7
  · rw [ne 5 (by omega)]; exact h.o4 h7
  · rw [ne 11 (by omega)]; exact h11
  · rw [ne 7 (by omega)] at h7; rw [ne 5 (by omega)]; exact h.o4 h7
  · rw [ne j (by omega)] at hl; rw [ne 7 (by omega)]; exact h.o5 j hj hl
  · simp [updB]
end
theorem cut_two (b t : Gd) (l : List Ch) (k : Int) : (pCut b t l k).1.chs.length ≤ 2 := by
  unfold pCut
  split
  · decide
  · show ((l.drop k.toNat).take 2).length ≤ 2
    rw [List.length_take]
    omega
/-- A row of changes that a call owns, by its block alone. -/
def RowB (W : World) (A : Option Addr) (n : Nat) : Prop := n = 0 ∨ ∃ b cs, A = some ⟨b, 0, none⟩ ∧ Blk W b 36 cs ∧ n * 2 ≤ cs.size
theorem rowb_of {W : World} {B : Nat} {A : Option Addr} {n c : Nat} {l : List Ch} (h : OChs W B (.slice A n c) l) (hn : l.length = n) : RowB W A n ∧ ∀ b o, A = some ⟨b, o, none⟩ → B ≤ b := by
  subst hn
  rcases h.2 with ⟨e1, e2⟩ | ⟨g, cap, cur, e1, e2, e3, e4, e5, e6, e7⟩
  · simp only [Value.slice.injEq] at e1
    obtain ⟨rfl, _, _⟩ := e1
    exact ⟨.inl e2, fun b o e => by cases e⟩
  · simp only [Value.slice.injEq] at e1
    obtain ⟨rfl, _, rfl⟩ := e1
    refine ⟨.inr ⟨g, cur, rfl, e3, by omega⟩, fun b o e => ?_⟩
    simp only [Option.some.injEq, Addr.mk.injEq, and_true] at e
    omega

set_option maxHeartbeats 12800000 in
theorem streamCuts_walk (g t : Gd) (hg : gdB g) (hgt : gdB t) (a : Option Addr) (c : Nat) (zs : List Mk) (fr : Int) (hfw : (Lit.int .i64 fr).wf = true) (w : World) (hl : zs.length ≤ 9223372036854775807) (hM : MkL w a zs) (ht : CTab w) :
    Calls Tryd.prog 3 #[.agg (ggC g t), .slice a zs.length c, .int .i64 fr] w fun e w' => e = .returned (.bool true) ∧ Below w.heap.size w w' := by
  have hfr : b64 fr := bounds_i64 hfw
  have hb0 := (Below.refl w.heap.size w).alloc (Nat.le_refl _) (.cells (ggC g t) 25)
  have hk0 := Blk.new w 25 (ggC g t)
  have HMK : Hid (∀ W, Below w.heap.size w W → Calls Tryd.prog 9 #[.slice a zs.length c] W (endO (mdOf zs) W)) := fun W h => made_any a c zs W (hM.below h) hl
  obtain ⟨W0, hW0⟩ : ∃ z, w.alloc (.cells (ggC g t) 25) = z := ⟨_, rfl⟩
  rw [hW0] at hb0 hk0
  obtain ⟨gd, hgd⟩ : ∃ z, w.heap.size = z := ⟨_, rfl⟩
  have HB0 := Lib.hid hb0
  rw [hgd] at hk0
  have HK0 := Lib.hid hk0
  have HW0 := Lib.hid hW0
  have HG0 := Lib.hid hgd
  have HT := Lib.hid ht
  have HGA := Lib.hid hg
  have HGT := Lib.hid hgt
  have HFR := Lib.hid hfr
  have HBZ := Lib.hid (mdOf_b64 hM)
  have HFW : Hid ((mdOf zs).length ≤ 30) := by unfold Hid; rw [mdOf_len]; omega
  have HTN : Hid (∀ c ∈ mdOf zs, c.2.length ≤ 1000000) := fun c hc => by have := mdOf_len32 zs c hc; omega
  obtain ⟨N, hN⟩ : ∃ z, zs.length = z := ⟨_, rfl⟩
  rw [hN] at HMK ⊢
  obtain ⟨L, hL⟩ : ∃ z, mdOf zs = z := ⟨_, rfl⟩
  rw [hL] at HMK HBZ HFW HTN
  clear hb0 hk0 hW0 hgd ht hg hgt hM hl hN hL hfr hfw
  unfold ggC at HK0 HW0 ⊢
  go_enter Tryd.func3, Tryd.ntmps3
  go_upto_region 1 with fail
  try rw [HW0.out]
  try rw [HG0.out]
  clear HW0
  go_wp2_with fail
  refine (HMK.out W0 HB0.out).mono ?_
  rintro e W1 ⟨v, rfl, ho, hb⟩
  obtain ⟨A, cp, rfl, k1, k2, k3, k4⟩ := ochs_cut ho HBZ.out
  have HC1 := Lib.hid k1
  have HB1 := Lib.hid (below_step HB0.out hb)
  have HT1 := Lib.hid (HT.out.below HB1.out HT.out.1)
  have HK1 := Lib.hid (HK0.out.below hb)
  have hfe := HFW.out
  have HC := Lib.hid (cuto_any g t A cp L fr W1 HGA.out HGT.out k1 (by omega) k2 k3 HTN.out HFR.out)
  have HRC : Hid (∀ W A' c', ChL W A' L → Calls Tryd.prog 11 #[gv g, gv t, .slice A' L.length c', .int .i64 fr] W (endP (pCut g t L fr) W)) := fun W A' c' h => rcut_any g t A' c' L fr W HGA.out HGT.out h (by have := HFW.out; omega) HFR.out
  have HQ2 := Lib.hid (cut_two g t L fr)
  obtain ⟨X, hX⟩ : ∃ z, pCut g t L fr = z := ⟨_, rfl⟩
  rw [hX] at HC HRC HQ2
  obtain ⟨Q, E⟩ := X
  dsimp only at HQ2
  have hk := HK1.out
  have b0 := hk.cell 0
  have b1 := hk.cell 1
  have b2 := hk.cell 2
  have b3 := hk.cell 3
  have bl := hk.lt
  simp only [List.getElem?_toArray, List.getElem?_cons_zero, List.getElem?_cons_succ] at b0 b1 b2 b3
  clear ho hb k1 k2 k3 k4 HB0 HK0 HT hk hfe hX
  unfold gv at HC
  go_wp2_with fail
  refine HC.out.mono ?_
  rintro e W2 ⟨A1, d1, rfl, hp2, ho2, hn2, c2⟩
  dsimp only at hp2 ho2 ⊢
  unfold paC
  have cb := (Below.refl W2.heap.size W2).alloc (Nat.le_refl _) (.cells #[.int .u64 (Q.base.1 : Int), .int .u64 (Q.base.2 : Int), .int .u64 (Q.target.1 : Int), .int .u64 (Q.target.2 : Int), .int .i64 Q.fr, .int .i64 Q.all, .slice A1 Q.chs.length d1] 30)
  have kb := Blk.new W2 30 #[.int .u64 (Q.base.1 : Int), .int .u64 (Q.base.2 : Int), .int .u64 (Q.target.1 : Int), .int .u64 (Q.target.2 : Int), .int .i64 Q.fr, .int .i64 Q.all, .slice A1 Q.chs.length d1]
  obtain ⟨W3, hW3⟩ : ∃ z, W2.alloc (.cells #[.int .u64 (Q.base.1 : Int), .int .u64 (Q.base.2 : Int), .int .u64 (Q.target.1 : Int), .int .u64 (Q.target.2 : Int), .int .i64 Q.fr, .int .i64 Q.all, .slice A1 Q.chs.length d1] 30) = z := ⟨_, rfl⟩
  rw [hW3] at cb kb
  obtain ⟨gp, hgp⟩ : ∃ z, W2.heap.size = z := ⟨_, rfl⟩
  rw [hgp] at kb
  have HB3 := Lib.hid (below_step c2 cb)
  have HK3 := Lib.hid (HK1.out.below HB3.out)
  have HP3 := Lib.hid (hp2.below cb)
  have HO3 : Hid (OChs W3 W1.heap.size (.slice A1 Q.chs.length d1) Q.chs) := row_of_block ho2 (fun j hj => cb.block j (ho2.lt j hj).2)
  have HM3 := Lib.hid kb
  have HW3 := Lib.hid hW3
  have HGP := Lib.hid hgp
  have HMD : Hid (∀ W, Below W3.heap.size W3 W → Calls Tryd.prog 9 #[.slice a N c] W (endO L W)) := fun W h => HMK.out W (below_step HB1.out (below_step HB3.out h))
  clear cb kb hW3 hgp c2 hp2 ho2 hn2 HC b0 b1 b2 b3 bl
  go_upto_region 3 with fail
  try rw [HW3.out]
  try rw [HGP.out]
  clear HW3 HGP
  refine wp_region_invN (by kernel_rfl) [28, 29, 30, 31, 32, 33, 34, 35, 27, 36, 37, 10, 77, 11] (by kernel_rfl) (fun L1 vs W => ∃ A5 c5 A7 c7 gq, CuI W3 gd g t a N c fr L Q E A5 c5 A7 c7 gq L1 vs W) ⟨none, 0, none, 0, 0, ⟨(Below.refl _ _).drew, fun i hi => (by cases hi), (fun h => by cases h), (fun h => by cases h), (fun h => by cases h), (fun h => by cases h), (fun h => by cases h), (fun h => by cases h), (fun h => by cases h), (fun h => by cases h), fun _ _ h => (by cases h), (fun h => by cases h)⟩⟩ ?_ ?_ ?_
  · intro i o L1 vs ρ W ho hli haft hρ hgd hIE
    obtain ⟨A5, c5, A7, c7, gq, hI⟩ := hIE
    have hi14 : i < 14 := (Array.getElem?_eq_some_iff.1 ho).1
    have hc := hρ.const
    have hfn := hρ.fn
    have hK := HK3.out.below hI.b
    have q0 := hK.cell 0
    have q1 := hK.cell 1
    have q2 := hK.cell 2
    have q3 := hK.cell 3
    have lq := hK.lt
    simp only [List.getElem?_toArray, List.getElem?_cons_zero, List.getElem?_cons_succ] at q0 q1 q2 q3
    have h7 : i = 8 ∨ i = 9 ∨ i = 10 ∨ i = 13 → afterB (#[] : Array Oper) 0 0 = true → True := fun _ _ => trivial
    have next : ∀ v, i ∈ [0, 1, 2, 3, 4, 6, 8, 9, 10, 13] → CuG gd g t a N c fr L Q E A5 c5 A7 c7 gq i v → (i = 8 ∨ i = 9 ∨ i = 10 ∨ i = 13 → L1 7 = true) → (i = 13 → L1 12 = true) → ∃ A5 c5 A7 c7 gq, CuI W3 gd g t a N c fr L Q E A5 c5 A7 c7 gq (updB L1 i) (updV vs i v) W := fun v h1 h2 h3 h4 => ⟨A5, c5, A7, c7, gq, hI.val i v h1 h2 h3 h4⟩
    clear hK h7
    rcases i with _ | _ | _ | _ | _ | _ | _ | _ | _ | _ | _ | _ | _ | _ | i
    all_goals (first | omega | skip)
    all_goals simp only [List.getElem?_toArray, List.getElem?_cons_zero, List.getElem?_cons_succ, Option.some.injEq] at ho
    all_goals subst ho
    · have o0 : ρ (.tmp 3) = .pointer (some ⟨gd, 0, none⟩) := hρ.out 3 rfl
      exact stepToS_value (w' := W) (by unfold execOp; simp only [o0, hc]; go_simp) (next _ (by decide) rfl (fun h => by omega) (fun h => by omega))
    · have s28 : ρ (.tmp 28) = .pointer (some ⟨gd, 0, none⟩) := (hρ.at_ 28 0 rfl).trans (hI.g 0 (haft 0 (by kernel_rfl)))
      exact stepToS_value (v := gv g) (w' := W) (by unfold execOp gv; simp only [s28]; go_simp) (next _ (by decide) rfl (fun h => by omega) (fun h => by omega))
    · have o0 : ρ (.tmp 3) = .pointer (some ⟨gd, 0, none⟩) := hρ.out 3 rfl
      exact stepToS_value (w' := W) (by unfold execOp; simp only [o0, hc]; go_simp) (next _ (by decide) rfl (fun h => by omega) (fun h => by omega))
    · have s30 : ρ (.tmp 30) = .pointer (some ⟨gd, 2, none⟩) := (hρ.at_ 30 2 rfl).trans (hI.g 2 (haft 2 (by kernel_rfl)))
      exact stepToS_value (v := gv t) (w' := W) (by unfold execOp gv; simp only [s30]; go_simp) (next _ (by decide) rfl (fun h => by omega) (fun h => by omega))
    · have o1 : ρ (.tmp 1) = .slice a N c := hρ.out 1 rfl
      exact stepToS_value (w' := W) (by unfold execOp; simp only [o1]; go_simp) (next _ (by decide) rfl (fun h => by omega) (fun h => by omega))
    · have s32 : ρ (.tmp 32) = .slice a N c := (hρ.at_ 32 4 rfl).trans (hI.g 4 (haft 4 (by kernel_rfl)))
      refine stepToS_enter (f := 9) (args := #[.slice a N c]) (w' := W) (by unfold execOp; simp only [hfn, s32]; go_simp) ((HMD.out W hI.b).mono ?_)
      rintro x W' ⟨v, rfl, ho, hb'⟩
      obtain ⟨Ax, cx, rfl, hcx, _⟩ := ochs_chl ho HBZ.out
      have n12 : L1 12 = false := by
        cases hx : L1 12 with
        | false => rfl
        | true => have := hI.o2 hx; rw [hli] at this; cases this
      exact ⟨_, rfl, Ax, cx, A7, c7, gq, hI.five hb' hli hcx⟩
    · have o2 : ρ (.tmp 2) = .int .i64 fr := hρ.out 2 rfl
      exact stepToS_value (w' := W) (by unfold execOp; simp only [o2]; go_simp) (next _ (by decide) rfl (fun h => by omega) (fun h => by omega))
    · have s29 : ρ (.tmp 29) = gv g := (hρ.at_ 29 1 rfl).trans (hI.g 1 (haft 1 (by kernel_rfl)))
      have s31 : ρ (.tmp 31) = gv t := (hρ.at_ 31 3 rfl).trans (hI.g 3 (haft 3 (by kernel_rfl)))
      have s33 : ρ (.tmp 33) = .slice A5 L.length c5 := (hρ.at_ 33 5 rfl).trans (hI.g 5 (haft 5 (by kernel_rfl)))
      have s34 : ρ (.tmp 34) = .int .i64 fr := (hρ.at_ 34 6 rfl).trans (hI.g 6 (haft 6 (by kernel_rfl)))
      have n12 : L1 12 = false := by
        cases hx : L1 12 with
        | false => rfl
        | true => have := hI.o1 hx; rw [hli] at this; cases this
      have hch : ChL W A5 L := hI.c (haft 5 (by kernel_rfl)) n12
      refine stepToS_enter (f := 11) (args := #[gv g, gv t, .slice A5 L.length c5, .int .i64 fr]) (w' := W) (by unfold execOp; simp only [hfn, s29, s31, s33, s34]; go_simp) ((HRC.out W A5 c5 hch).mono ?_)
      rintro x W' ⟨Ax, cx, rfl, hp, hn, hb'⟩
      exact ⟨_, rfl, A5, c5, Ax, cx, gq, hI.seven hb' hli (haft 5 (by kernel_rfl)) hp hn⟩
    · have s35 : ρ (.tmp 35) = .tuple #[.agg (paC Q A7 c7), .int .i64 E] := (hρ.at_ 35 7 rfl).trans (hI.g 7 (haft 7 (by kernel_rfl)))
      exact stepToS_value (w' := W) (by unfold execOp; simp only [s35]; go_simp) (next _ (by decide) rfl (fun _ => haft 7 (by kernel_rfl)) (fun h => by omega))
    · have s27 : ρ (.tmp 27) = .tuple #[.agg (paC Q A7 c7), .int .i64 E] := (hρ.at_ 27 8 rfl).trans (hI.g 8 (haft 8 (by kernel_rfl)))
      exact stepToS_value (w' := W) (by unfold execOp; simp only [s27, hc]; go_simp) (next _ (by decide) rfl (fun _ => hI.o5 8 (by omega) (haft 8 (by kernel_rfl))) (fun h => by omega))
    · have s27 : ρ (.tmp 27) = .tuple #[.agg (paC Q A7 c7), .int .i64 E] := (hρ.at_ 27 8 rfl).trans (hI.g 8 (haft 8 (by kernel_rfl)))
      exact stepToS_value (w' := W) (by unfold execOp; simp only [s27, hc]; go_simp) (next _ (by decide) rfl (fun _ => hI.o5 8 (by omega) (haft 8 (by kernel_rfl))) (fun h => by omega))
    · refine stepToS_value (v := .pointer (some ⟨W.heap.size, 0, none⟩)) (w' := W.alloc (.cells pZ 30)) (by unfold execOp pZ; simp only [hc]; go_simp) ?_
      exact ⟨A5, c5, A7, c7, W.heap.size, hI.eleven hli⟩
    · have s10 : ρ (.tmp 10) = .pointer (some ⟨gq, 0, none⟩) := (hρ.at_ 10 11 rfl).trans (hI.g 11 (haft 11 (by kernel_rfl)))
      have s36 : ρ (.tmp 36) = .agg (paC Q A7 c7) := (hρ.at_ 36 9 rfl).trans (hI.g 9 (haft 9 (by kernel_rfl)))
      have hq := (hI.q (haft 11 (by kernel_rfl))).2
      rw [if_neg (by rw [hli]; decide)] at hq
      have zh := hq
      have z0 := zh.cell 0
      have fz0 := zh.frozen 0
      have z1 := zh.cell 1
      have fz1 := zh.frozen 1
      have z2 := zh.cell 2
      have fz2 := zh.frozen 2
      have z3 := zh.cell 3
      have fz3 := zh.frozen 3
      have z4 := zh.cell 4
      have fz4 := zh.frozen 4
      have z5 := zh.cell 5
      have fz5 := zh.frozen 5
      have z6 := zh.cell 6
      have fz6 := zh.frozen 6
      have zl := zh.lt
      simp only [paC, pZ, List.getElem?_toArray, List.getElem?_cons_zero, List.getElem?_cons_succ] at z0 z1 z2 z3 z4 z5 z6
      clear zh
      have ha7 := haft 7 (by kernel_rfl)
      have ha11 := haft 11 (by kernel_rfl)
      have hE := hI.twelve hli ha7 ha11
      unfold paC at s36
      refine stepToS_skip (w' := setPa W gq Q.base Q.target Q.fr Q.all (.slice A7 Q.chs.length c7)) (by unfold execOp setPa; simp only [s10, s36]; go_simp) ⟨A5, c5, A7, c7, gq, hE⟩
    · have s37 : ρ (.tmp 37) = .int .i64 E := (hρ.at_ 37 10 rfl).trans (hI.g 10 (haft 10 (by kernel_rfl)))
      exact stepToS_value (w' := W) (by unfold execOp; simp only [s37]; go_simp) (next _ (by decide) rfl (fun _ => hI.o5 10 (by omega) (haft 10 (by kernel_rfl))) (fun _ => haft 12 (by kernel_rfl)))
  · intro i o L1 vs W j want ho hli haft hgd
    exfalso
    have hi14 : i < 14 := (Array.getElem?_eq_some_iff.1 ho).1
    rcases i with _ | _ | _ | _ | _ | _ | _ | _ | _ | _ | _ | _ | _ | _ | i
    all_goals (first | omega | skip)
    all_goals simp only [List.getElem?_toArray, List.getElem?_cons_zero, List.getElem?_cons_succ, Option.some.injEq] at ho
    all_goals subst ho
    all_goals simp only [reduceCtorEq] at hgd
  · intro vs W4 hIE
    obtain ⟨A5, c5, A7, c7, gq, hI⟩ := hIE
    have g11 : vs 11 = .pointer (some ⟨gq, 0, none⟩) := hI.g 11 (by kernel_rfl)
    have g13 : vs 13 = .int .i64 E := hI.g 13 (by kernel_rfl)
    have HB4 := Lib.hid hI.b
    have HQ4 := Lib.hid (hI.p (by kernel_rfl)).1
    have hq := (hI.q (by kernel_rfl)).2
    rw [if_pos (by kernel_rfl)] at hq
    have HN4 := Lib.hid hq
    have HM4 := Lib.hid (HM3.out.below hI.b)
    have HP4 := Lib.hid (HP3.out.below hI.b)
    clear hI hq HRC HMD HK3 HGA HGT HTN HFR HK1
    simp only [putList, putSel, if_true]
    rw [g11, g13]
    generalize vs 0 = y0
    generalize vs 1 = y1
    generalize vs 2 = y2
    generalize vs 3 = y3
    generalize vs 4 = y4
    generalize vs 5 = y5
    generalize vs 6 = y6
    generalize vs 7 = y7
    generalize vs 8 = y8
    generalize vs 9 = y9
    generalize vs 10 = y10
    generalize vs 12 = y12
    clear g11 g13
    obtain ⟨len, hlen⟩ : ∃ z, L.length = z := ⟨_, rfl⟩
    have HLL := Lib.hid hlen
    rw [hlen]
    have hl30 : len ≤ 30 := by have := HFW.out; omega
    clear hlen
    obtain ⟨n, hn⟩ : ∃ z, Q.chs.length = z := ⟨_, rfl⟩
    have HNN := Lib.hid hn
    have hn2 := HQ2.out
    have HSA := Lib.hid (rsame_any A1 A7 d1 c7 Q Q W4 HP4.out HQ4.out (by omega) (by omega))
    rw [decide_eq_true (rfl : Q = Q)] at HSA
    rw [hn] at hn2 ⊢
    have HM4' := Lib.hid HM4.out
    unfold paC at HSA HN4
    rw [hn] at HSA HN4 HM4' HO3
    clear hn HM4
    have ah := HM4'.out
    have a0 := ah.cell 0
    have a1 := ah.cell 1
    have a2 := ah.cell 2
    have a3 := ah.cell 3
    have a4 := ah.cell 4
    have a5 := ah.cell 5
    have a6 := ah.cell 6
    have al := ah.lt
    simp only [paC, pZ, List.getElem?_toArray, List.getElem?_cons_zero, List.getElem?_cons_succ] at a0 a1 a2 a3 a4 a5 a6
    clear ah
    have qh := HN4.out
    have q0 := qh.cell 0
    have q1 := qh.cell 1
    have q2 := qh.cell 2
    have q3 := qh.cell 3
    have q4 := qh.cell 4
    have q5 := qh.cell 5
    have q6 := qh.cell 6
    have ql := qh.lt
    simp only [paC, pZ, List.getElem?_toArray, List.getElem?_cons_zero, List.getElem?_cons_succ] at q0 q1 q2 q3 q4 q5 q6
    clear qh
    go_wp2_with fail
    refine HSA.out.mono ?_
    rintro e W5 ⟨rfl, c5⟩
    have HB5 := Lib.hid (below_step HB3.out (below_step HB4.out c5))
    have hrb := rowb_of HO3.out HNN.out
    have HRB : Hid (RowB W5 A1 n) := by
      rcases hrb.1 with h | ⟨b, cs, h1, h2, h3⟩
      · exact .inl h
      · exact .inr ⟨b, cs, h1, (h2.below HB4.out).below c5, h3⟩
    have HBB : Hid (∀ b o, A1 = some ⟨b, o, none⟩ → W1.heap.size ≤ b) := hrb.2
    have HM5 := Lib.hid (HM4'.out.below c5)
    clear a0 a1 a2 a3 a4 a5 a6 al
    clear q0 q1 q2 q3 q4 q5 q6 ql
    clear c5 hrb HSA HM4' HN4 HP4 HQ4 HB4 HB3 HP3 HO3 HM3 HNN HQ2
    go_wp2_with fail
    go_loopw [12] (fun i wr => ∃ k : Nat, k ≤ n ∧ i = .int .i64 (k : Int) ∧ RowB wr A1 n ∧ Blk wr gp 30 #[.int .u64 (Q.base.1 : Int), .int .u64 (Q.base.2 : Int), .int .u64 (Q.target.1 : Int), .int .u64 (Q.target.2 : Int), .int .i64 Q.fr, .int .i64 Q.all, .slice A1 n d1] ∧ Below W1.heap.size W1 wr) (fun i _ => n - (intOf i).toNat)
    case atStart => exact ⟨0, Nat.zero_le _, rfl, HRB.out, HM5.out, HB5.out⟩
    case round =>
      obtain ⟨k, hk, rfl, hrb, hm, hB⟩ := hrel
      have HRW := Lib.hid hrb
      have HMW := Lib.hid hm
      have HBW := Lib.hid hB
      have a6 := hm.cell 6
      have al := hm.lt
      simp only [List.getElem?_toArray, List.getElem?_cons_zero, List.getElem?_cons_succ] at a6
      clear hrb hm hB
      by_cases hlt : k < n
      · have hki : (k : Int) < (n : Int) := by omega
        obtain ⟨b, cs, e1, e2, e3⟩ := HRW.out.resolve_left (by omega)
        subst e1
        have q0 := e2.cell (k * 2)
        have q1 := e2.frozen (k * 2)
        have ql := e2.lt
        rw [Array.getElem?_eq_getElem (by omega)] at q0
        obtain ⟨x0, hx0⟩ : ∃ z, cs[k * 2] = z := ⟨_, rfl⟩
        rw [hx0] at q0
        have hbg : b ≠ gp := blk_type e2 HMW.out (by decide)
        have hge : W1.heap.size ≤ b := HBB.out b 0 rfl
        have HR' : Hid (RowB (wr.setCell ⟨b, k * 2, none⟩ (.int .i64 77)) (some ⟨b, 0, none⟩) n) := .inr ⟨b, _, rfl, e2.set_ (k * 2) (.int .i64 77), by simpa using e3⟩
        have HM' := Lib.hid (HMW.out.of_block (set_oth wr b (k * 2) (.int .i64 77) gp hbg.symm))
        have HB' : Hid (Below W1.heap.size W1 (wr.setCell ⟨b, k * 2, none⟩ (.int .i64 77))) := HBW.out.setCell hge _
        clear hx0 e2 e3 hbg hge HRW HMW HBW
        go_wp2_with fail
        go_roundw
        case rel => exact ⟨k + 1, by omega, by go_num, HR'.out, HM'.out, HB'.out⟩
        case measure => simp [intOf]; omega
      · have hki : ¬ (k : Int) < (n : Int) := by omega
        have HMA := Lib.hid (HMK.out wr (below_step HB1.out HBW.out))
        go_wp2_with fail
        refine HMA.out.mono ?_
        rintro e W6 ⟨v, rfl, ho, c6⟩
        obtain ⟨A9, d9, rfl, hc9, _⟩ := ochs_chl ho HBZ.out
        have HB6 := Lib.hid (below_step HBW.out c6)
        have HCL := Lib.hid hc9
        have HCM : Hid (ChL W6 A L) := HC1.out.below HB6.out
        rw [HLL.out]
        clear ho c6 hc9 HMA HRW HMW HBW a6 al
        go_wp2_with fail
        obtain ⟨wo, rfl⟩ : ∃ wo : World, wo = wr := ⟨_, rfl⟩
        go_loopw [14] (fun i wr => ∃ k : Nat, k ≤ len ∧ i = .int .i64 (k : Int) ∧ Below W6.heap.size W6 wr) (fun i _ => len - (intOf i).toNat)
        case atStart => exact ⟨0, Nat.zero_le _, rfl, Below.refl _ _⟩
        case round =>
          obtain ⟨k, hk, rfl, hB⟩ := hrel
          have HBW := Lib.hid hB
          have HQ2 : Hid (∀ n, Below W6.heap.size W6 (wr.drewN n)) := fun n => ⟨hB.os, hB.tape, hB.output, hB.size, hB.block⟩
          clear hB
          by_cases hlt : k < len
          · have hki : (k : Int) < (len : Int) := by omega
            have hkl : k < L.length := by rw [HLL.out]; exact hlt
            obtain ⟨x1, y1, rfl, hb1, c0, c2, -⟩ := HCM.out k hkl
            obtain ⟨x2, y2, rfl, hb2, d0, d1, -⟩ := HCL.out k hkl
            have e0 : wr.cell? ⟨x1, y1 + k * 2, none⟩ = some (.int .i64 L[k].1) := by rw [HBW.out.cell (p := ⟨x1, y1 + k * 2, none⟩) hb1]; exact c0
            have e1 : wr.cell? ⟨x1, y1 + k * 2 + 1, none⟩ = some (.string (str L[k].2)) := by rw [HBW.out.cell (p := ⟨x1, y1 + k * 2 + 1, none⟩) hb1]; exact c2
            have f0 : wr.cell? ⟨x2, y2 + k * 2, none⟩ = some (.int .i64 L[k].1) := by rw [HBW.out.cell (p := ⟨x2, y2 + k * 2, none⟩) hb2]; exact d0
            have f1 : wr.cell? ⟨x2, y2 + k * 2 + 1, none⟩ = some (.string (str L[k].2)) := by rw [HBW.out.cell (p := ⟨x2, y2 + k * 2 + 1, none⟩) hb2]; exact d1
            have l1 : x1 < wr.heap.size := Nat.lt_of_lt_of_le hb1 HBW.out.size
            have l2 : x2 < wr.heap.size := Nat.lt_of_lt_of_le hb2 HBW.out.size
            clear c0 c2 d0 d1 hb1 hb2
            generalize L[k].1 = z1 at *
            generalize str L[k].2 = z2 at *
            have hq1 : (z1 == z1) = true := by simp
            have hq2 : (z2.toList == z2.toList) = true := by simp
            clear hkl
            go_wp2_with fail
            go_quiet (fail)
            go_wp2_with fail
            go_roundw
            case rel => exact ⟨k + 1, by omega, by go_num, HQ2.out _⟩
            case measure => simp [intOf]; omega
          · have hki : ¬ (k : Int) < (len : Int) := by omega
            have HWK := Lib.hid (works_any wr (HT1.out.below (below_step HB6.out HBW.out) HT1.out.1))
            go_wp2_with fail
            refine HWK.out.mono ?_
            rintro e W9 ⟨rfl, c9⟩
            have HB9 := Lib.hid (below_step HB1.out (below_step (below_step HB6.out HBW.out) c9))
            clear c9 HWK
            go_wp2_with fail
            go_ret
            exact ⟨rfl, HB9.out⟩
end Go.Proofs.YtchdamlnbmngbaaDoor.st

/- StreamCuts, of every input: the frame. -/
namespace Go.Proofs.YtchdamlnbmngbaaDoor.streamCuts
open Go.ChangeShapes Go.WideShapes Go.ChangeAt Go.RowKit
open Go.ChangeMaps (open_string shut_string)
open Go.Proofs.YtchdamlnbmngbaaDoor.ib Go.Proofs.YtchdamlnbmngbaaDoor.wi Go.Proofs.YtchdamlnbmngbaaDoor.mt Go.Proofs.YtchdamlnbmngbaaDoor.st

theorem own : ownKnob Tryd.prog.godebug = none := by kernel_rfl
theorem laidOut : laidOutB Tryd.prog = true := by kernel_rfl

theorem laid_met (os : Os) (args : Array Value) : laidMet Tryd.prog Rows.streamCutsRow.laid ((laidWorld os).forCall (fun _ _ => 0) ⟨#[], args, []⟩).memory :=
  laidMet_of_run' 8 (by kernel_rfl) (by kernel_rfl)

theorem witness (os : Os) {H : Type} (enc : TypeId × Value → H) :
    (OpenSpec.ofChange Rows.streamCutsSpec).preRow enc Tryd.prog Tryd.f3 Rows.streamCutsRow.domain false Rows.streamCutsRow.laid ((laidWorld os).forCall (fun _ _ => 0) ⟨#[], #[.agg #[.int .u64 0, .int .u64 0, .int .u64 0, .int .u64 0], .slice none 0 0, .int .i64 0], []⟩).memory #[.agg #[.int .u64 0, .int .u64 0, .int .u64 0, .int .u64 0], .slice none 0 0, .int .i64 0] := by
  have hw : (DataW.whole enc Tryd.prog ((laidWorld os).forCall (fun _ _ => 0) ⟨#[], #[.agg #[.int .u64 0, .int .u64 0, .int .u64 0, .int .u64 0], .slice none 0 0, .int .i64 0], []⟩).memory Tryd.f3.params.toList (OpenSpec.ofChange Rows.streamCutsSpec).vars false (#[.agg #[.int .u64 0, .int .u64 0, .int .u64 0, .int .u64 0], .slice none 0 0, .int .i64 0] : Array Value).toList 8).map (fun x => (x.1, x.2.1)) =
      some ([.agg [.agg [.lit (.int .u64 0), .lit (.int .u64 0)], .agg [.lit (.int .u64 0), .lit (.int .u64 0)]], .nil, .lit (.int .i64 0)], []) := by kernel_rfl
  obtain ⟨⟨x1, x2, x3⟩, hx, hx1⟩ := Option.map_eq_some_iff.1 hw
  simp only [Prod.mk.injEq] at hx1
  obtain ⟨rfl, rfl⟩ := hx1
  exact OpenSpec.preRow_of_cond 8 hx (by kernel_rfl) (fun k hk => by cases hk) (by kernel_rfl) (laid_met os _)

set_option maxRecDepth 100000 in
set_option maxHeartbeats 1600000 in
theorem lifted (os : Os) (started : os.Started) (H : Type) (enc : TypeId × Value → H) (F : Stop.Interp) :
    ReturnsInHanded {} Tryd.checked os 3 .any ((OpenSpec.ofChange Rows.streamCutsSpec).preRow enc Tryd.prog Tryd.f3 Rows.streamCutsRow.domain false Rows.streamCutsRow.laid) (((OpenSpec.ofChange Rows.streamCutsSpec).at F).post enc Tryd.prog Tryd.f3 false true false false) := by
  refine returnsInHanded_of_row (C := Tryd.checked) (s := OpenSpec.ofChange Rows.streamCutsSpec) own started (by kernel_rfl) Tryd.func3
    (witness_row_at (enc := enc) (C := Tryd.checked) false (laidWorld os) #[.agg #[.int .u64 0, .int .u64 0, .int .u64 0, .int .u64 0], .slice none 0 0, .int .i64 0] rfl (by kernel_rfl) (by kernel_rfl) (by kernel_rfl) (witness os enc)) ?_
  intro W base args ds gs before hval0 hW _ _ hsz0 hL _ _
  have ht : CTab W := ctab_of_laid hL (by kernel_rfl)
  have hval : ∀ (j : Nat) t v, Tryd.f3.params[j]? = some t → args[j]? = some v → Value.okWide Tryd.prog W .any base t v := hval0
  have hW' := hW
  obtain ⟨p, q, hA0, hV, rfl, hfz, hnd⟩ := hW
  have hA : DataW.TrodAll enc Tryd.prog W 0 (fun _ => true) true Tryd.f3.params.toList args.toList ds p := hA0
  rw [Tryd.params3] at hA hval
  obtain ⟨v0, vs0, d0, ds0, p0, q0, hargs, rfl, rfl, h0, r0⟩ := trodAll_cons hA
  obtain ⟨v1, vs1, d1, ds1, p1, q1, rfl, rfl, rfl, h1, r1⟩ := trodAll_cons r0
  obtain ⟨v2, vs2, d2, ds2, p2, q2, rfl, rfl, rfl, h2, r2⟩ := trodAll_cons r1
  obtain ⟨rfl, rfl, rfl⟩ := trodAll_nil r2
  obtain rfl : args = #[v0, v1, v2] := by cases args; simp_all
  obtain ⟨rfl, rfl⟩ := trodVars_none hV
  have k0 := h0
  have lt0 : ∀ x ∈ p0, x.block < W.heap.size := by obtain ⟨m, hm⟩ := k0; exact DataW.trod_lt m _ _ _ hm
  obtain ⟨g0, t0, rfl, bg0, bt0⟩ := gds2_of (hval 0 25 v0 rfl rfl) k0
  obtain ⟨a1, l1, c1, rfl⟩ := okWide_slice Tryd.underlying26 (hval 1 26 v1 rfl rfl)
  have k1 := h1
  have lt1 : ∀ x ∈ p1, x.block < W.heap.size := by obtain ⟨m, hm⟩ := k1; exact DataW.trod_lt m _ _ _ hm
  obtain ⟨zs1, hzl1, hl1, hT1⟩ := marks_of k1
  subst hzl1
  obtain ⟨a2, rfl, rfl, rfl, w2⟩ := open_int Tryd.underlying3 (hval 2 3 v2 rfl rfl) h2
  clear hA0 hval0 hsz0
  simp only [List.append_nil] at hW'
  refine (streamCuts_walk g0 t0 bg0 bt0 a1 c1 zs1 a2 w2 W hl1 hT1 ht).mono fun e W' ⟨he, hg⟩ => ?_
  subst he
  exact ⟨_, rfl, _, _, _, [], _, [], hW', trodAll_mk1 (shut_bool Tryd.underlying4 _), (trodAll_cons_mk (Below.trod laidOut (by kernel_rfl) (of_decide_eq_true (by kernel_rfl)) k0 hg lt0) (trodAll_cons_mk (Below.trod laidOut (by kernel_rfl) (of_decide_eq_true (by kernel_rfl)) k1 hg lt1) (trodAll_cons_mk (shut_int Tryd.underlying3 w2) trodAll_mk0))), rfl, hg.frame _, fun h => by cases h⟩

theorem over : Rows.StreamCutsSaid :=
  OpenClaim.holds_of_cond 3 Tryd.f3 rfl rfl rfl rfl rfl rfl rfl ⟨rfl, rfl, rfl, rfl, rfl⟩ rfl rfl rfl rfl rfl (by kernel_rfl) Tryd.func3 (by kernel_rfl)
    (of_decide_eq_true (by kernel_rfl)) (by unfold Func.isWrapper; first | (rw [if_pos (by decide +kernel)]; kernel_rfl) | (rw [if_neg (by decide +kernel)]; exact ⟨rfl, rfl⟩))
    (fun os started H enc _ F => by rw [OpenClaim.pre_eq_preRow]; exact lifted os started H enc F)

theorem proved : Rows.StreamCutsCardSaid :=
  Claim7.holds_tied_plain_at .later [] [.data] true Rows.streamCutsCard.stood.harness false
    over (fun _ h => by cases h) (by kernel_rfl) (fun _ h => by cases h) streamCuts_row_tie rfl ⟨rfl, rfl⟩ (by kernel_rfl) rfl
    (fun f fn hf hfn => by
      obtain rfl : f = 3 := Option.some.inj ((show Tryd.prog.funcNamed Rows.streamCutsRow.func = some 3 by kernel_rfl).symm.trans hf) |>.symm
      obtain rfl : fn = Tryd.f3 := (Option.some.inj (Tryd.func3.symm.trans hfn)).symm
      exact ⟨by kernel_rfl, fun j t ht => by
        rw [Tryd.params3] at ht
        rcases j with _ | j
        · have : t = 25 := by simpa using ht.symm
          subst this
          exact (show Tryd.prog.wantsStandIn 25 = false by kernel_rfl)
        rcases j with _ | j
        · have : t = 26 := by simpa using ht.symm
          subst this
          exact (show Tryd.prog.wantsStandIn 26 = false by kernel_rfl)
        rcases j with _ | j
        · have : t = 3 := by simpa using ht.symm
          subst this
          exact (show Tryd.prog.wantsStandIn 3 = false by kernel_rfl)
        simp at ht⟩)
    (by kernel_rfl)
#print axioms proved
end Go.Proofs.YtchdamlnbmngbaaDoor.streamCuts


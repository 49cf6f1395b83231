/- SlotsN, DkApp2, DkCopy, DkCopy2. -/
import Derived.Test.YtjllpbckmioiiaaDoorQ10
import Derived.Test.YtjllpbckmioiiaaDoorQ20
import Derived.Test.YtjllpbckmioiiaaDoorQ4
import Derived.Shelf.SlMaps.Clone
import Derived.Laws.Cover3
/- As SlotsI, where an operation may yield into no slot (a store). Nothing here speaks of the program. -/
namespace Go.Proofs.YtjllpbckmioiiaaDoor
open Go Go.RowKit
set_option maxRecDepth 100000

/-- As stepTo, a store too. -/
def stepToS (P : Program) (K : Value → World → Prop) : Result Next → Prop
  | .ok (.value v) w' => K v w'
  | .ok .skip w' => K undef w'
  | .ok (.enter f args) w' => Calls P f args w' fun e w'' => ∃ v, e = .returned v ∧ K v w''
  | _ => False

theorem wp_of_stepToS {P : Program} {o : Oper} {a : Act} {w : World} {Q : Exit → Act → World → Prop} {K : Value → World → Prop} {next : Act → World → Prop} (h : stepToS P K ((execOp a.eval o).run P w)) (hn : ∀ v w', K v w' → next (a.put o.dst v) w') : o.wp P a w next Q := by
  unfold Oper.wp
  generalize (execOp a.eval o).run P w = r at *
  cases r with
  | ok n w' =>
    cases n <;> simp only [stepToS] at h <;> simp only [Oper.upon]
    case value v => exact hn _ _ h
    case skip => exact hn _ _ h
    case enter f args =>
      refine h.mono fun e w'' he => ?_
      obtain ⟨v, rfl, hk⟩ := he
      exact hn _ _ hk
  | halt x w' => simp only [stepToS] at h

theorem stepToS_value {P : Program} {o : Oper} {ρ : Operand → Value} {w w' : World} {v : Value} {K : Value → World → Prop} (h : (execOp ρ o).run P w = .ok (.value v) w') (hk : K v w') : stepToS P K ((execOp ρ o).run P w) := by
  rw [h]; exact hk
theorem stepToS_skip {P : Program} {o : Oper} {ρ : Operand → Value} {w w' : World} {K : Value → World → Prop} (h : (execOp ρ o).run P w = .ok .skip w') (hk : K undef w') : stepToS P K ((execOp ρ o).run P w) := by
  rw [h]; exact hk

section
variable {P : Program} {ops : Array Oper} {Q : Exit → Act → World → Prop}

/-- As slotsGB, but an operation may yield into no slot at all (a store): its own slot is then one that the frame has not. -/
def slotsNB (ops : Array Oper) (ds : List Tmp) (size : Nat) : Bool :=
  decide (ds.length = ops.size) && decide ds.Nodup &&
  (List.range ops.size).all (fun i => match ops[i]? with
    | some o => (match o.dst with | some d => decide (ds[i]? = some d) && decide (d < size) | none => (match ds[i]? with | some d => decide (size ≤ d) | none => false)) && (match o.op with | .select .. => false | _ => true) &&
      o.after.all (fun e => !Region.binds .any e || decide (e.on < i)) &&
      (match o.guard with | none => true | some g => afterB ops i g.1 && (match ops[g.1]? with | some q => q.dst.isSome | none => false)) &&
      o.op.operands.toList.all (fun x => match x with
        | .tmp t => match ds.idxOf? t with
          | some j => afterB ops i j && decide (t < size)
          | none => true
        | _ => true)
    | none => false)

structure SlotsN (ops : Array Oper) (ds : List Tmp) (size : Nat) : Prop where
  len : ds.length = ops.size
  nodup : ds.Nodup
  each : ∀ i, i < ops.size → ∃ o d, ops[i]? = some o ∧ ds[i]? = some d ∧ ((o.dst = some d ∧ d < size) ∨ (o.dst = none ∧ size ≤ d)) ∧ (∀ cs b, o.op ≠ .select cs b) ∧ (∀ e ∈ o.after, Region.binds .any e = true → e.on < i) ∧
    (∀ j want, o.guard = some (j, want) → afterB ops i j = true ∧ ∃ q, ops[j]? = some q ∧ q.dst.isSome = true) ∧ (∀ t j, Operand.tmp t ∈ o.op.operands → ds.idxOf? t = some j → afterB ops i j = true ∧ t < size)

theorem slotsN_ok {ds : List Tmp} {size : Nat} (h : slotsNB ops ds size = true) : SlotsN ops ds size := by
  unfold slotsNB at h
  simp only [Bool.and_eq_true, decide_eq_true_eq, List.all_eq_true, List.mem_range] at h
  obtain ⟨⟨h2, h3⟩, h5⟩ := h
  refine ⟨h2, h3, fun i hi => ?_⟩
  have h := h5 i hi
  cases ho : ops[i]? with
  | none => simp [ho] at h
  | some o =>
    simp only [ho, Bool.and_eq_true] at h
    obtain ⟨⟨⟨⟨g2, g3⟩, g4⟩, g1⟩, g5⟩ := h
    have hd : ∃ d, ds[i]? = some d := ⟨ds[i]'(by omega), List.getElem?_eq_getElem _⟩
    obtain ⟨d, hd⟩ := hd
    refine ⟨o, d, rfl, hd, ?_, fun cs b hs => by simp [hs] at g3, fun e he hb => ?_, fun j want hg => ?_, fun t j ht hj => ?_⟩
    · cases hq : o.dst with
      | some d' =>
        rw [hq] at g2
        simp only [Bool.and_eq_true, decide_eq_true_eq] at g2
        rw [hd] at g2
        obtain ⟨g2a, g2b⟩ := g2
        injection g2a with g2a
        subst g2a
        exact .inl ⟨rfl, g2b⟩
      | none =>
        rw [hq, hd] at g2
        simp only [decide_eq_true_eq] at g2
        exact .inr ⟨rfl, g2⟩
    · have := Array.all_eq_true_iff_forall_mem.1 g4 e he
      simpa [hb] using this
    · rw [hg] at g1
      simp only [Bool.and_eq_true] at g1
      refine ⟨g1.1, ?_⟩
      have g1b := g1.2
      cases hq : ops[j]? with
      | none => rw [hq] at g1b; cases g1b
      | some q => rw [hq] at g1b; exact ⟨q, rfl, g1b⟩
    · have := List.all_eq_true.1 g5 (.tmp t) (by simpa using ht)
      simpa [hj] using this

theorem put_beyond (a : Act) (d : Tmp) (v : Value) (h : a.tmps.size ≤ d) : a.put none v = a.put (some d) v := by
  unfold Act.put
  simp only
  congr 1
  rw [Array.setIfInBounds_eq_of_size_le h]

structure NInv (ops : Array Oper) (a0 : Act) (ds : List Tmp) (I : (Nat → Bool) → (Nat → Value) → World → Prop) (listed : Array Bool) (vs : Nat → Value) (a : Act) (w : World) : Prop where
  size : listed.size = ops.size
  act : a = putSel (fun i => listed.getD i false) vs ds 0 a0
  inv : I (fun i => listed.getD i false) vs w

variable {a0 : Act} {ds : List Tmp} {I : (Nat → Bool) → (Nat → Value) → World → Prop}

theorem idx_getN {t : Tmp} {j : Nat} (hj : ds.idxOf? t = some j) : ds[j]? = some t := by
  have := List.of_findIdx?_eq_some (p := (· == t)) (xs := ds) (i := j) (by simpa [List.idxOf?] using hj)
  cases hd : ds[j]? with
  | none => simp [hd] at this
  | some d => simp [hd] at this; rw [this]

theorem ninv_go (ok : SlotsN ops ds a0.tmps.size)
    (step : ∀ i o L vs ρ w, ops[i]? = some o → L i = false → (∀ j, afterB ops i j = true → L j = true) → ReadsF a0 ds vs ρ → (∀ j want, o.guard = some (j, want) → vs j = .bool want) → I L vs w →
      stepToS P (fun v w' => I (updB L i) (updV vs i v) w') ((execOp ρ o).run P w))
    (skip : ∀ i o L vs w j want, ops[i]? = some o → L i = false → (∀ j, afterB ops i j = true → L j = true) → o.guard = some (j, want) → vs j ≠ .bool want → I L vs w → I (updB L i) (updV vs i undef) w)
    (fin : ∀ vs w', I (fun j => decide (j < ops.size)) vs w' → Q .normal (putList vs ds a0) w') :
    ∀ (r : Nat) (listed : Array Bool) (vs : Nat → Value) (a : Act) (w : World), NInv ops a0 ds I listed vs a w → toCome ops.size listed = r → wpAny P .any ops Q r listed a w
  | 0, listed, vs, a, w, hI, hr => by
    have hall := toCome_zero hr
    have hn : Region.ready .any ops listed = [] := by
      apply List.eq_nil_iff_forall_not_mem.2
      intro i hi
      obtain ⟨hun, o, ho, _⟩ := mem_ready.1 hi
      have hio : i < ops.size := (Array.getElem?_eq_some_iff.1 ho).1
      have := hall i hio
      rw [getD_false_true (by rw [hI.size]; exact hio)] at hun
      rw [this] at hun
      cases hun
    have ha : a = putList vs ds a0 := by
      rw [hI.act]
      exact putSel_congr _ _ _ _ ds 0 a0 fun j _ hj => ⟨hall j (by rw [← ok.len]; omega), fun _ => rfl⟩
    have hL : (fun i => listed.getD i false) = fun j => decide (j < ops.size) := by
      funext j
      by_cases hj : j < ops.size
      · rw [hall j hj, decide_eq_true hj]
      · rw [decide_eq_false hj]
        simp [Array.getD, hI.size, hj]
    rw [ha]
    have h2 := hI.inv
    rw [hL] at h2
    exact wpAny_done hn (fin vs w h2) 0
  | r + 1, listed, vs, a, w, hI, hr => by
    refine ⟨fun h0 => ?_, fun i hi => ?_⟩
    · exfalso
      have hex : ∃ i, i < ops.size ∧ listed.getD i false = false := by
        apply Classical.byContradiction
        intro hn
        have : toCome ops.size listed = 0 := by
          unfold toCome
          rw [List.countP_eq_zero]
          intro i hi
          have hi' := List.mem_range.1 hi
          cases hb : listed.getD i false
          · exact absurd ⟨i, hi', hb⟩ hn
          · simp
        omega
      have key : ∀ n i, i < n → i < ops.size → listed.getD i false = false → False := by
        intro n
        induction n with
        | zero => intro i h; omega
        | succ n ih =>
          intro i hin him hf
          obtain ⟨o, _, ho, _, _, _, hlow, _⟩ := ok.each i him
          have hs : i < listed.size := by rw [hI.size]; exact him
          have : i ∈ Region.ready .any ops listed := by
            rw [mem_ready]
            refine ⟨by rw [getD_false_true hs]; exact hf, o, ho, fun e he hb => ?_⟩
            cases hb' : listed.getD e.on false
            · exact (ih e.on (by have := hlow e he hb; omega) (by have := hlow e he hb; omega) hb').elim
            · rfl
          rw [h0] at this
          cases this
      obtain ⟨i, him, hf⟩ := hex
      exact key (i + 1) i (by omega) him hf
    · obtain ⟨hun, o, ho, hall⟩ := mem_ready.1 hi
      have him : i < ops.size := (Array.getElem?_eq_some_iff.1 ho).1
      have hs : i < listed.size := by rw [hI.size]; exact him
      have hf : listed.getD i false = false := by rw [← getD_false_true hs]; exact hun
      obtain ⟨o', d, ho', hd, hdst, hsel, hlow, hgrd, hopn⟩ := ok.each i him
      obtain rfl : o = o' := Option.some.inj (ho.symm.trans ho')
      have haft : ∀ j, afterB ops i j = true → listed.getD j false = true := fun j hj => by
        obtain ⟨e, he, hb, rfl⟩ := afterB_iff ho hj
        exact hall e he hb
      have hread : ∀ t j, ds[j]? = some t → t < a0.tmps.size → listed.getD j false = true → a.eval (.tmp t) = vs j := fun t j hdj hts hl => by
        rw [hI.act]
        have := putSel_in (fun i => listed.getD i false) vs t ds 0 j a0 ok.nodup hdj (by simpa using hl) hts
        simpa using this
      have hnext : ∀ v w', I (updB (fun i => listed.getD i false) i) (updV vs i v) w' → wpAny P .any ops Q r (listed.setIfInBounds i true) (a.put o.dst v) w' := by
        intro v w' h
        refine ninv_go ok step skip fin r (listed.setIfInBounds i true) (updV vs i v) (a.put o.dst v) w' ⟨by simp [hI.size], ?_, ?_⟩ ?_
        · have hput : a.put o.dst v = a.put (some d) v := by
            rcases hdst with ⟨e, _⟩ | ⟨e, hs2⟩
            · rw [e]
            · rw [e]
              exact put_beyond a d v (by rw [hI.act, putSel_size]; exact hs2)
          rw [hput, hI.act]
          have := putSel_set (fun i => listed.getD i false) vs i v ds 0 a0 d ok.nodup (Nat.zero_le _) (by simpa using hd) hf
          rw [this, updB_listed hs]
        · rw [← updB_listed hs]
          exact h
        · have := toCome_set him hs hf
          omega
      have hyield : ∀ j want, o.guard = some (j, want) → yielded ops a.tmps j = (match vs j with | .bool b => some b | _ => none) := by
        intro j want hg
        obtain ⟨hj, q, hq1, hq2⟩ := hgrd j want hg
        obtain ⟨e, he, hb, he2⟩ := afterB_iff ho hj
        have hji : j < i := by rw [← he2]; exact hlow e he hb
        obtain ⟨oj, t, hoj, hdj2, hdj, _⟩ := ok.each j (by omega)
        obtain rfl : q = oj := Option.some.inj (hq1.symm.trans hoj)
        have hdj3 : q.dst = some t ∧ t < a0.tmps.size := by
          rcases hdj with h | ⟨h, _⟩
          · exact h
          · rw [h] at hq2; cases hq2
        obtain ⟨hdj, hts⟩ := hdj3
        have hr := hread t j hdj2 hts (haft j hj)
        unfold yielded
        rw [hoj]
        simp only [Option.bind_some, hdj, hdj2]
        have he : a.eval (.tmp t) = a.tmps.getD t undef := rfl
        rw [he] at hr
        cases hx : a.tmps[t]? with
        | none =>
          have : a.tmps.getD t undef = undef := by simp [Array.getD_eq_getD_getElem?, hx]
          rw [← hr, this]
          rfl
        | some x =>
          have : a.tmps.getD t undef = x := by simp [Array.getD_eq_getD_getElem?, hx]
          rw [← hr, this]
          cases x <;> rfl
      unfold wpOp
      simp only [ho]
      by_cases hw : Region.wanted o (yielded ops a.tmps) = true
      · rw [if_pos hw]
        left
        have hρ : execOp a.eval o = execOp (valOf a0 ds vs) o := by
          refine execOp_congr o hsel fun x hx => ?_
          cases x with
          | tmp t =>
            cases hj : ds.idxOf? t with
            | none =>
              rw [valOf_none hj, hI.act]
              exact putSel_out _ _ t ds 0 a0 (by rw [List.idxOf?_eq_none_iff] at hj; exact hj)
            | some j =>
              rw [valOf_some hj]
              exact hread t j (idx_getN hj) (hopn t j hx hj).2 (haft j (hopn t j hx hj).1)
          | const v => simp only [valOf]; rfl
          | global g => simp only [valOf]; rfl
          | func f => simp only [valOf]; rfl
        have hst := step i o (fun i => listed.getD i false) vs (valOf a0 ds vs) w ho hf haft ⟨fun _ _ h => valOf_some h, fun _ h => valOf_none h, fun _ => rfl, fun _ => rfl⟩ (fun j want hg => by
          have hy := hyield j want hg
          unfold Region.wanted at hw
          rw [hg] at hw
          simp only [hy] at hw
          cases hv : vs j <;> rw [hv] at hw <;> simp at hw
          rw [hw]) hI.inv
        rw [← hρ] at hst
        exact wp_of_stepToS hst fun v w' h => hnext v w' h
      · rw [if_neg hw]
        cases hg : o.guard with
        | none => exact absurd (by simp [Region.wanted, hg]) hw
        | some g =>
          obtain ⟨j, want⟩ := g
          refine hnext undef w (skip i o _ vs w j want ho hf haft hg (fun hv => hw ?_) hI.inv)
          have hy := hyield j want hg
          unfold Region.wanted
          rw [hg]
          simp only [hy, hv]
          simp

/-- THE RULE. -/
theorem wp_region_invN {id : Nat} {a : Act} {w : World} (hm : P.follows .mixedOrders = true) (ds : List Tmp) (hok : slotsNB ops ds a.tmps.size = true) (I : (Nat → Bool) → (Nat → Value) → World → Prop)
    (start : I (fun _ => false) (fun _ => undef) w.drew)
    (step : ∀ i o L vs ρ w, ops[i]? = some o → L i = false → (∀ j, afterB ops i j = true → L j = true) → ReadsF a ds vs ρ → (∀ j want, o.guard = some (j, want) → vs j = .bool want) → I L vs w →
      stepToS P (fun v w' => I (updB L i) (updV vs i v) w') ((execOp ρ o).run P w))
    (skip : ∀ i o L vs w j want, ops[i]? = some o → L i = false → (∀ j, afterB ops i j = true → L j = true) → o.guard = some (j, want) → vs j ≠ .bool want → I L vs w → I (updB L i) (updV vs i undef) w)
    (fin : ∀ vs w', I (fun j => decide (j < ops.size)) vs w' → Q .normal (putList vs ds a) w') :
    (Code.region id ops true).wp P Q a w := by
  have ok := slotsN_ok hok
  refine wp_region_any hm ?_
  have h0 : toCome ops.size (Array.replicate ops.size false) = ops.size := by
    have := List.countP_eq_length (l := List.range ops.size) (p := fun i => !(Array.replicate ops.size false).getD i false) |>.2 fun i _ => by rw [rep_false]; rfl
    unfold toCome
    rw [this, List.length_range]
  have hf : (fun i => (Array.replicate ops.size false).getD i false) = fun _ => false := by
    funext i
    exact rep_false _ i
  refine ninv_go ok step skip fin ops.size (Array.replicate ops.size false) (fun _ => undef) a _ ⟨by simp, ?_, ?_⟩ h0
  · rw [hf]
    exact (putSel_none ds 0 a).symm
  · rw [hf]
    exact start
end
end Go.Proofs.YtjllpbckmioiiaaDoor

/- append of a whole slice, as an operation. -/
namespace Go.Proofs.YtjllpbckmioiiaaDoor.dk
open Go Go.RowKit

theorem exec_append2 {P : Program} {ρ : Operand → Value} {o : Oper} {w w' : World} {vx vy v' : Value} {t : TypeId} (x y : Operand) (ho : o.op = .call { callee := .builtin .append, args := #[x, y], argTypes := #[t, t] }) (ht : o.type = t) (hx : ρ x = vx) (hy : ρ y = vy)
    (hrun : (Builtin.append_ #[t, t] t #[vx, vy]).run P w = .ok v' w') : (execOp ρ o).run P w = .ok (.value v') w' := by
  simp [execOp, ho, resolve, invoke, builtin, hx, hy, ht, hrun, Result.andThen]

end Go.Proofs.YtjllpbckmioiiaaDoor.dk

/- What Copy of package disk does. -/
namespace Go.Proofs.YtjllpbckmioiiaaDoor.dk
open Go Go.RowKit
set_option maxRecDepth 100000

theorem MapIs.twin {w w' : World} {m n : Nat} {s : Sects} (h : MapIs w m s) : ∃ es clock, w.heap[m]? = some (.map es clock) ∧ ∀ (w' : World) (n : Nat), w'.heap[n]? = some (.map es clock) → MapIs w' n s := by
  obtain ⟨D, ⟨es, clock, h1, h2⟩, h3⟩ := h
  exact ⟨es, clock, h1, fun w' n hn => ⟨D, ⟨es, clock, hn, h2⟩, h3⟩⟩

theorem mclone_any (b : Nat) (es : Array MapEntry) (clock : Nat) (w : World) (hb : w.heap[b]? = some (.map es clock)) :
    Calls Tryd.prog 37 #[.map (some b)] w fun e w' => e = .returned (.map (some w.heap.size)) ∧ w' = w.alloc (.map es clock) := by
  have hq := fun w => run_eql_map_nil_sl (P := Tryd.prog) w 71 _ _ (some b) Tryd.underlying71
  go_enter Tryd.func37, Tryd.ntmps37
  go_wp2
  rw [run_callFunc_extern Tryd.func57 (by kernel_rfl) (by kernel_rfl) (by kernel_rfl) (e := Extern.MapsClone.clone) (by kernel_rfl), run_maps_clone_sl w 71 hb]
  simp only [Result.andThen]
  rw [Oper.upon_value]
  go_wp2
  rw [run_typeAssert_map_sl _ 71 _ _ _ _ Tryd.underlying71]
  simp only [Result.andThen]
  rw [Oper.upon_value]
  go_wp2
  go_ret
  exact ⟨rfl, rfl⟩

theorem exec_zero70 {ρ : Operand → Value} {o : Oper} {w : World} (ho : o.op = .buildSlice 72 0 #[]) :
    (execOp ρ o).run Tryd.prog w = .ok (.value (.slice (some ⟨w.heap.size, 0, none⟩) 0 0)) (w.alloc (.cells #[] 80)) := by
  unfold execOp
  rw [ho]
  go_simp

theorem eql_nil (w : World) (a : Option Addr) (n c : Nat) : (binOp .eql 72 (.slice a n c) (.slice none 0 0)).run Tryd.prog w = .ok (.bool a.isNone) w := by
  simp only [binOp]
  simp [run_equal_slice_nil _ _ _ _ _ _ Tryd.underlying72]

def SClonePost (n : Nat) (xs : List Value) (w : World) (e : Ending) (w' : World) : Prop := ∃ v', e = .returned v' ∧ w'.ownsRow w.heap.size 80 66 v' n xs ∧ Below w.heap.size w w'

set_option maxRecDepth 100000 in
theorem sclone_any (w : World) (v : Value) (n : Nat) (xs : List Value) (h : w.ownsRow 0 80 66 v n xs) (h1 : ∀ u ∈ xs, u.oneCell' = true) (hn : n ≤ 100000) :
    Calls Tryd.prog 38 #[v] w (SClonePost n xs w) := by
  have hown := h
  rcases h.2 with ⟨rfl, h0⟩ | ⟨g, cap, cur, rfl, hg, hh, hc, hm, hcs, hcur⟩
  · subst h0
    have hx : xs = [] := by have := h.1; simpa using this
    subst hx
    have hq := fun w => eql_nil w none 0 0
    clear hown h
    go_enter Tryd.func38, Tryd.ntmps38
    go_wp2_with fail
    go_ret
    exact ⟨_, rfl, World.ownsRow_nil _ _ _ _, Below.refl _ _⟩
  · obtain ⟨i0, hi, hz0, hz1, hz2⟩ := info_parts info70
    have hcell : ∀ (j : Nat) (u : Value), xs[j]? = some u → (w.alloc (.cells #[] 80)).cell? ((⟨g, 0, none⟩ : Addr).add j) = some u := by
      intro j u hu
      rw [addr_add, Nat.zero_add]
      have hj : j < xs.length := (List.getElem?_eq_some_iff.1 hu).1
      have := World.ownsRow.cellAt hown j (by rw [← hown.1]; exact hj)
      rw [World.cell?_of_block (a := ⟨g, j, none⟩) (Below.heap_alloc w _ g (Array.getElem?_eq_some_iff.1 hh).1), this]
      exact hu
    obtain ⟨v', w', hrun, h2, h3, _⟩ := run_append_own (P := Tryd.prog) (w.alloc (.cells #[] 80)) w.heap.size 72 72 80 i0 _ 66 80 Tryd.underlying72 hi hz0 hz1 hz2 (by simp [Value.cells, wrCells_len, zz_length]) (by decide) (.slice (some ⟨w.heap.size, 0, none⟩) 0 0) 0 [] (World.ownsRow_made w #[] 0 (Nat.le_refl _) (by decide) rfl) ⟨g, 0, none⟩ n cap xs h.1 hcell h1 (by unfold maxLen; omega) (by omega) (by simp)
    rw [Nat.zero_add, List.nil_append] at h2
    have HR := Lib.hid hrun
    have H2 := Lib.hid h2
    have H3 := Lib.hid h3
    clear hown h hcell h1 hrun h2 h3 hi hz0 hz1 hz2 hcs hcur hh
    have hq := fun w => eql_nil w (some ⟨g, 0, none⟩) n cap
    go_enter Tryd.func38, Tryd.ntmps38
    go_wp2_with (first | (refine wpList_value rfl (exec_zero70 rfl) ?_) | (refine wpList_value rfl (exec_append2 (.tmp 5) (.tmp 6) rfl rfl rfl rfl HR.out) ?_))
    go_ret
    refine ⟨_, rfl, H2.out, ?_⟩
    have hb : Below w.heap.size w (w.alloc (.cells #[] 80)) := (Below.refl _ _).alloc (Nat.le_refl _) _
    exact hb.grown H3.out hb.size (fun k hk => by simp [Value.ownBlock] at hk; omega)
end Go.Proofs.YtjllpbckmioiiaaDoor.dk

/- What Copy of package disk does: the walk. -/
namespace Go.Proofs.YtjllpbckmioiiaaDoor.dk
open Go Go.RowKit
set_option maxRecDepth 100000

theorem size61 : (Tryd.prog.info? 74).map (·.size) = some 6 := by kernel_rfl

def DkCopyPost (most : Nat) (d : DD) (w : World) (e : Ending) (w' : World) : Prop :=
  ∃ q own, e = .returned (.pointer (some ⟨q, 0, none⟩)) ∧ DkIs most w' own q d ∧ Below w.heap.size w w' ∧ ∀ k, own k → w.heap.size ≤ k

theorem unOf_at {s : Sects} : ∀ {l : List (Nat × Bt)}, (∀ v, some v ∈ s → v.length = 32) → (∀ x ∈ l, x.2.length = 32) → ∀ x ∈ unOf s l, x.2.1.length = 32 ∧ x.2.2.1.length = 32
  | [], _, _, x, hx => by simp [unOf] at hx
  | (k, v) :: r, hs, hl, x, hx => by
    simp only [unOf, List.mem_cons] at hx
    rcases hx with rfl | hx
    · refine ⟨hl (k, v) (by simp), ?_⟩
      show ((look s (k : Int)).getD zz).length = 32
      cases hq : look s (k : Int) with
      | none => exact zz_length
      | some u => exact hs u (look_mem hq)
    · refine unOf_at (s := put s k v) (fun u hu => ?_) (fun y hy => hl y (by simp [hy])) x hx
      rcases mem_set hu with h' | h'
      · exact hs u h'
      · injection h' with h'; subst h'; exact hl (k, v) (by simp)

section
variable {w : World} {own : Nat → Prop} {p : Nat} {d : DD}

set_option maxRecDepth 100000 in
set_option maxHeartbeats 1600000 in
theorem copy_any {most : Nat} (h : DkIs most w own p d) (hmost : most ≤ 100000) :
    Calls Tryd.prog 11 #[.pointer (some ⟨p, 0, none⟩)] w (DkCopyPost most d w) := by
  obtain ⟨h0, m, v, h1⟩ := h
  have H0 := Lib.hid h0
  have H1 := Lib.hid h1
  have hml : d.more.length ≤ 100000 := Nat.le_trans h0.more1 hmost
  have HML := Lib.hid hml
  have HON : Hid (∀ u ∈ wrRow (unOf d.base d.more), u.oneCell' = true) := by
    intro u hu
    simp only [wrRow, List.mem_flatMap] at hu
    obtain ⟨x, _, hu⟩ := hu
    exact wrCells_one x u hu
  obtain ⟨c0, c1, c2, c3, c4, c5⟩ := blk6 h1.1
  obtain ⟨V, cv, hA⟩ := own_form h1.2.2.1
  have hplt := h1.1.lt
  obtain ⟨es, clock, hm, hmk⟩ := h1.2.1.twin (w' := w) (n := 0)
  have HM := Lib.hid hm
  have HMK := Lib.hid hmk
  subst hA
  clear h0 h1 hmost hml hm hmk
  go_enter Tryd.func11, Tryd.ntmps11
  go_wp2_with (refine wpList_skip rfl (exec_store_new w 74 _ #[.int .i64 (d.n : Int), .int .i64 d.room, .map (some m), .slice V d.more.length cv, .bool d.on, .int .i64 d.fuse] (.tmp 3) (.tmp 8) rfl rfl rfl (by rw [size61]; rfl) rfl (by rfl)) ?_)
  have HP1 : Hid (Blk (w.alloc (.cells #[.int .i64 (d.n : Int), .int .i64 d.room, .map (some m), .slice V d.more.length cv, .bool d.on, .int .i64 d.fuse] 74)) w.heap.size 74 #[.int .i64 (d.n : Int), .int .i64 d.room, .map (some m), .slice V d.more.length cv, .bool d.on, .int .i64 d.fuse]) := Blk.new _ _ _
  have HB1 : Hid (Below w.heap.size w (w.alloc (.cells #[.int .i64 (d.n : Int), .int .i64 d.room, .map (some m), .slice V d.more.length cv, .bool d.on, .int .i64 d.fuse] 74))) := (Below.refl _ _).alloc (Nat.le_refl _) _
  generalize w.alloc (.cells #[.int .i64 (d.n : Int), .int .i64 d.room, .map (some m), .slice V d.more.length cv, .bool d.on, .int .i64 d.fuse] 74) = X1 at *
  clear c0 c1 c2 c3 c4 c5
  obtain ⟨q, hq⟩ : ∃ q, q = w.heap.size := ⟨_, rfl⟩
  rw [← hq] at HP1 ⊢
  have HQ := Lib.hid hq
  clear hq
  refine (mclone_any m es clock X1 ((HB1.out.block m (Array.getElem?_eq_some_iff.1 HM.out).1).trans HM.out)).mono ?_
  rintro e W2 ⟨rfl, rfl⟩
  have HP2 : Hid (Blk (X1.alloc (.map es clock)) q 74 #[.int .i64 (d.n : Int), .int .i64 d.room, .map (some m), .slice V d.more.length cv, .bool d.on, .int .i64 d.fuse]) := HP1.out.of_block (Below.heap_alloc _ _ _ HP1.out.lt)
  have HB2 : Hid (Below w.heap.size w (X1.alloc (.map es clock))) := HB1.out.alloc HB1.out.size _
  have HM2 : Hid (MapIs (X1.alloc (.map es clock)) X1.heap.size d.now) := HMK.out _ _ (heap_alloc_new _ _)
  have HQM : Hid (q < X1.heap.size) := HP1.out.lt
  obtain ⟨m2, hm2⟩ : ∃ x, x = X1.heap.size := ⟨_, rfl⟩
  rw [← hm2] at HM2 HQM ⊢
  have HML2 : Hid (m2 < (X1.alloc (.map es clock)).heap.size) := HM2.out.lt
  clear hm2
  generalize X1.alloc (.map es clock) = X2 at *
  obtain ⟨q0, q1, q2, q3, q4, q5⟩ := blk6 HP2.out
  have fq := HP2.out.frozen 2
  have hql := HP2.out.lt
  obtain ⟨s0, s1, s2, s3, s4, s5⟩ := blk6 (H1.out.keep HB2.out.size (fun k hk => HB2.out.block k (H1.out.2.2.2.2.2.2 k hk))).1
  have hpl : p < X2.heap.size := Nat.lt_of_lt_of_le hplt HB2.out.size
  have hpq : p < q := by rw [HQ.out]; exact hplt
  go_wp2_with fail
  have HP3 : Hid (Blk (X2.setCell ⟨q, 2, none⟩ (.map (some m2))) q 74 #[.int .i64 (d.n : Int), .int .i64 d.room, .map (some m2), .slice V d.more.length cv, .bool d.on, .int .i64 d.fuse]) := HP2.out.set_ 2 _
  have HB3 : Hid (Below w.heap.size w (X2.setCell ⟨q, 2, none⟩ (.map (some m2)))) := HB2.out.setCell (by rw [HQ.out]; exact Nat.le_refl _) _
  have HM3 : Hid (MapIs (X2.setCell ⟨q, 2, none⟩ (.map (some m2))) m2 d.now) := HM2.out.of_block (set_other _ _ _ _ _ (Nat.ne_of_gt HQM.out))
  generalize X2.setCell ⟨q, 2, none⟩ (.map (some m2)) = X3 at *
  clear q0 q1 q2 q3 q4 q5 fq hql s0 s1 s2 s3 s4 s5 hpl
  have hown3 : X3.ownsRow 0 80 66 (.slice V d.more.length cv) d.more.length (wrRow (unOf d.base d.more)) := (H1.out.keep HB3.out.size (fun k hk => HB3.out.block k (H1.out.2.2.2.2.2.2 k hk))).2.2.1
  refine (sclone_any X3 _ _ _ hown3 HON.out HML.out).mono ?_
  rintro e W4 ⟨v4, rfl, ho4, hb4⟩
  obtain ⟨A4, c4, rfl⟩ := own_form ho4
  have HO4 := Lib.hid ho4
  have HB4 := Lib.hid hb4
  clear hown3 ho4 hb4
  have HP4 : Hid (Blk W4 q 74 #[.int .i64 (d.n : Int), .int .i64 d.room, .map (some m2), .slice V d.more.length cv, .bool d.on, .int .i64 d.fuse]) := HP3.out.of_block (HB4.out.block q HP3.out.lt)
  obtain ⟨q0, q1, q2, q3, q4, q5⟩ := blk6 HP4.out
  have fq := HP4.out.frozen 3
  have hql := HP4.out.lt
  go_wp2_with fail
  go_ret
  have hq3 := HP3.out.lt
  have hm3 := HM3.out.lt
  have hx3 := HB3.out.size
  have qm := HQM.out
  have qq := HQ.out
  have h4 := HB4.out.size
  refine ⟨q, fun k => w.heap.size ≤ k ∧ k < W4.heap.size, rfl, ⟨H0.out, m2, .slice A4 d.more.length c4, ?_⟩, ?_, fun k hk => hk.1⟩
  · refine ⟨HP4.out.set_ 3 _, (HM3.out.of_block (HB4.out.block m2 hm3)).of_block (set_other _ _ _ _ _ (Nat.ne_of_gt qm)), ?_, ⟨by omega, by omega⟩, ⟨by omega, by omega⟩, fun j hj => ?_, fun k hk => by rw [size_set]; exact hk.2⟩
    · have h5 : (W4.setCell ⟨q, 3, none⟩ (.slice A4 d.more.length c4)).ownsRow X3.heap.size 80 66 (.slice A4 d.more.length c4) d.more.length (wrRow (unOf d.base d.more)) := own_of_block HO4.out (fun j hj => set_other _ _ _ _ _ (by have h := (HO4.out.lt j hj).1; omega))
      obtain ⟨h1, h2⟩ := h5
      refine ⟨h1, ?_⟩
      rcases h2 with h2 | ⟨g, cap, cur, e1, _, e3⟩
      · exact .inl h2
      · exact .inr ⟨g, cap, cur, e1, Nat.zero_le _, e3⟩
    · have h := HO4.out.lt j hj
      exact ⟨Nat.le_trans hx3 h.1, h.2⟩
  · exact (HB3.out.trans (HB4.out.mono HB3.out.size)).setCell (by rw [qq]; exact Nat.le_refl _) _
end
end Go.Proofs.YtjllpbckmioiiaaDoor.dk


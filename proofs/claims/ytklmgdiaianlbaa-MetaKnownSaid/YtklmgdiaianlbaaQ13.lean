/- MtSize, SlotsP. -/
import Derived.Test.YtklmgdiaianlbaaQ12
import Derived.Test.YtklmgdiaianlbaaQ6
set_option linter.unusedVariables false
set_option linter.unusedSimpArgs false
/- How many sectors a text takes, as the document's own Size tells it. -/
namespace Go.Proofs.Ytklmgdiaianlbaa.mt
open Go Go.RowKit Go.Proofs.Ytklmgdiaianlbaa.ib Go.Proofs.Ytklmgdiaianlbaa.wi
set_option maxRecDepth 100000

theorem rsize_any (s : ByteArray) (w : World) (hs : s.size ≤ 4611686018427387904) :
    Calls Try.prog 50 #[.string s] w fun e w' => e = .returned (.int .i64 (nsec s.size : Int)) ∧ w = w' := by
  by_cases h : (s.size + 6) / 32 * 32 < s.size + 6
  · have e1 : (nsec s.size : Int) = (6 + (s.size : Int)) / 32 + 1 := by unfold nsec; omega
    have hc : (6 + (s.size : Int)) / 32 * 32 < 6 + (s.size : Int) := by omega
    have E1 := Lib.hid e1
    clear e1
    go_enter Try.func50, Try.ntmps50
    go_wp2
    go_ret
    exact ⟨by rw [E1.out]; rfl, rfl⟩
  · have e1 : (nsec s.size : Int) = (6 + (s.size : Int)) / 32 := by unfold nsec; omega
    have hc : ¬ (6 + (s.size : Int)) / 32 * 32 < 6 + (s.size : Int) := by omega
    have E1 := Lib.hid e1
    clear e1
    go_enter Try.func50, Try.ntmps50
    go_wp2
    go_ret
    exact ⟨by rw [E1.out]; rfl, rfl⟩
end Go.Proofs.Ytklmgdiaianlbaa.mt

/- A region that draws its order, told by one invariant over what is listed, the values and the world, as far as its first m operations go (those that all others come behind). Nothing here speaks of the program. -/
namespace Go.Proofs.Ytklmgdiaianlbaa
open Go Go.RowKit
set_option maxRecDepth 100000

section
variable {P : Program} {ops : Array Oper} {Q : Exit → Act → World → Prop} {a0 : Act} {m : Nat} {ds : List Tmp} {I : (Nat → Bool) → (Nat → Value) → World → Prop}

structure PInv (ops : Array Oper) (a0 : Act) (m : Nat) (ds : List Tmp) (I : (Nat → Bool) → (Nat → Value) → World → Prop) (listed : Array Bool) (vs : Nat → Value) (a : Act) (w : World) : Prop where
  size : listed.size = ops.size
  tail : ∀ j, m ≤ j → listed.getD j false = false
  closed : ∀ i o, ops[i]? = some o → listed.getD i false = true → ∀ e ∈ o.after, Region.binds .any e = true → listed.getD e.on false = true
  inv : I (fun i => listed.getD i false) vs w
  act : a = putSel (fun i => listed.getD i false) vs ds 0 a0

theorem pre_go (ok : SlotsOk ops m ds a0.tmps.size)
    (step : ∀ i o L vs w, i < m → ops[i]? = some o → L i = false → (∀ j, afterB ops i j = true → L j = true) → I L vs w →
      stepTo P (fun v w' => I (updB L i) (updV vs i v) w') ((execOp (valOf a0 ds vs) o).run P w))
    (fin : ∀ L vs w', (∀ i, i < m → L i = true) → I L vs w' → wpAny P .any ops Q (ops.size - m) (listedTo ops.size m) (putList vs ds a0) w') :
    ∀ (r : Nat) (listed : Array Bool) (vs : Nat → Value) (a : Act) (w : World), PInv ops a0 m ds I listed vs a w → toCome m listed = r → wpAny P .any ops Q (ops.size - m + r) listed a w
  | 0, listed, vs, a, w, hI, hr => by
    have hall := toCome_zero hr
    have hl : listed = listedTo ops.size m := by
      apply Array.ext
      · simp [listedTo, hI.size]
      · intro i h1 h2
        have e : listed.getD i false = listed[i] := by simp [h1]
        by_cases hi : i < m
        · have := hall i hi
          rw [e] at this
          simp [listedTo, this, hi]
        · have := hI.tail i (by omega)
          rw [e] at this
          simp [listedTo, this, hi]
    have ha : a = putList vs ds a0 := by
      rw [hI.act]
      exact putSel_congr _ _ _ _ ds 0 a0 fun j _ hj => ⟨hall j (by rw [← ok.len]; omega), fun _ => rfl⟩
    rw [hl, ha, Nat.add_zero]
    exact fin (fun i => listed.getD i false) vs w hall hI.inv
  | r + 1, listed, vs, a, w, hI, hr => by
    refine ⟨fun h0 => ?_, fun i hi => ?_⟩
    · -- the least one that is still to come may come
      exfalso
      have hex : ∃ i, i < m ∧ listed.getD i false = false := by
        apply Classical.byContradiction
        intro hn
        have : toCome m listed = 0 := by
          unfold toCome
          rw [List.countP_eq_zero]
          intro i hi
          have hi' := List.mem_range.1 hi
          cases hb : listed.getD i false
          · exact absurd ⟨i, hi', hb⟩ hn
          · simp
        omega
      have key : ∀ n i, i < n → i < m → listed.getD i false = false → False := by
        intro n
        induction n with
        | zero => intro i h; omega
        | succ n ih =>
          intro i hin him hf
          obtain ⟨o, ho, _, _, _, hlow, _⟩ := ok.each i him
          have hs : i < listed.size := by rw [hI.size]; exact Nat.lt_of_lt_of_le him ok.le
          have : i ∈ Region.ready .any ops listed := by
            rw [mem_ready]
            refine ⟨by rw [getD_false_true hs]; exact hf, o, ho, fun e he hb => ?_⟩
            cases hb' : listed.getD e.on false
            · exact (ih e.on (by have := hlow e he hb; omega) (by have := hlow e he hb; omega) hb').elim
            · rfl
          rw [h0] at this
          cases this
      obtain ⟨i, him, hf⟩ := hex
      exact key (i + 1) i (by omega) him hf
    · obtain ⟨hun, o, ho, hall⟩ := mem_ready.1 hi
      have hio : i < ops.size := (Array.getElem?_eq_some_iff.1 ho).1
      have hs : i < listed.size := by rw [hI.size]; exact hio
      have hf : listed.getD i false = false := by rw [← getD_false_true hs]; exact hun
      by_cases him : i < m
      · obtain ⟨o', ho', hgd, hdst, hsel, hlow, hopn⟩ := ok.each i him
        obtain rfl : o = o' := Option.some.inj (ho.symm.trans ho')
        unfold wpOp
        simp only [ho]
        have hw : Region.wanted o (yielded ops a.tmps) = true := by simp [Region.wanted, hgd]
        rw [if_pos hw]
        left
        have hρ : execOp a.eval o = execOp (valOf a0 ds vs) o := by
          refine execOp_congr o hsel fun x hx => ?_
          rw [hI.act]
          cases x with
          | tmp t =>
            cases hj : ds.idxOf? t with
            | none =>
              rw [valOf_none hj]
              exact putSel_out _ _ t ds 0 a0 (by rw [List.idxOf?_eq_none_iff] at hj; exact hj)
            | some j =>
              rw [valOf_some hj]
              have hdj : ds[j]? = some t := by
                have := List.of_findIdx?_eq_some (p := (· == t)) (xs := ds) (i := j) (by simpa [List.idxOf?] using hj)
                cases hd : ds[j]? with
                | none => simp [hd] at this
                | some d => simp [hd] at this; rw [this]
              obtain ⟨e, he, hb, rfl⟩ := afterB_iff ho (hopn t j hx hj)
              have := putSel_in (fun i => listed.getD i false) vs t ds 0 e.on a0 ok.nodup hdj (by simpa using hall e he hb) (ok.small t (List.mem_of_getElem? hdj))
              simpa using this
          | const v => simp only [valOf]; rfl
          | global g => simp only [valOf]; rfl
          | func f => simp only [valOf]; rfl
        have hst := step i o (fun i => listed.getD i false) vs w him ho hf (fun j hj => by
          obtain ⟨e, he, hb, rfl⟩ := afterB_iff ho hj
          exact hall e he hb) hI.inv
        rw [← hρ] at hst
        refine wp_of_stepTo hst fun v w' hG => ?_
        have hdi : ∃ d, ds[i]? = some d := ⟨ds[i]'(by rw [ok.len]; exact him), List.getElem?_eq_getElem _⟩
        obtain ⟨d, hd⟩ := hdi
        refine pre_go ok step fin r (listed.setIfInBounds i true) (updV vs i v) (a.put o.dst v) w' ⟨?_, ?_, ?_, ?_, ?_⟩ ?_
        · simp [hI.size]
        · intro j hj
          rw [getD_set_ne false (by omega)]
          exact hI.tail j hj
        · intro j oj hoj hl e he hb
          by_cases hji : j = i
          · subst hji
            obtain rfl : o = oj := Option.some.inj (ho.symm.trans hoj)
            exact getD_set_true (hall e he hb)
          · rw [getD_set_ne false (Ne.symm hji)] at hl
            exact getD_set_true (hI.closed j oj hoj hl e he hb)
        · rw [← updB_listed hs]
          exact hG
        · rw [hdst, hd, hI.act]
          have := putSel_set (fun i => listed.getD i false) vs i v ds 0 a0 d ok.nodup (Nat.zero_le _) (by simpa using hd) hf
          rw [this, updB_listed hs]
        · have := toCome_set him hs hf
          omega
      · exfalso
        have hex : ∃ k, k < m ∧ listed.getD k false = false := by
          apply Classical.byContradiction
          intro hn
          have : toCome m listed = 0 := by
            unfold toCome
            rw [List.countP_eq_zero]
            intro k hk
            cases hb : listed.getD k false
            · exact absurd ⟨k, List.mem_range.1 hk, hb⟩ hn
            · simp
          omega
        rcases ok.tail i o (by omega) ho with ⟨e, he, hb, hme⟩ | hcov
        · have h1 := hall e he hb
          rw [hI.tail e.on hme] at h1
          cases h1
        · have key : ∀ n k, m - k ≤ n → k < m → listed.getD k false = true := by
            intro n
            induction n with
            | zero => intro k h1 h2; omega
            | succ n ih =>
              intro k h1 h2
              rcases hcov k h2 with h | ⟨k', hk', h⟩
              · obtain ⟨e, he, hb, rfl⟩ := afterB_iff ho h
                exact hall e he hb
              · obtain ⟨ok', hok', _, _, _, hlow, _⟩ := ok.each k' hk'
                obtain ⟨e, he, hb, rfl⟩ := afterB_iff hok' h
                have hlt := hlow e he hb
                exact hI.closed k' ok' hok' (ih k' (by omega) hk') e he hb
          obtain ⟨k, hk, hkf⟩ := hex
          rw [key m k (by omega) hk] at hkf
          cases hkf

theorem wp_region_pre {id : Nat} {a : Act} {w : World} (hm : P.follows .mixedOrders = true) (m : Nat) (ds : List Tmp) (hok : slotsB ops m ds a.tmps.size = true) (I : (Nat → Bool) → (Nat → Value) → World → Prop)
    (start : I (fun _ => false) (fun _ => undef) w.drew)
    (step : ∀ i o L vs ρ w, i < m → ops[i]? = some o → L i = false → (∀ j, afterB ops i j = true → L j = true) → ReadsF a ds vs ρ → I L vs w →
      stepTo P (fun v w' => I (updB L i) (updV vs i v) w') ((execOp ρ o).run P w))
    (fin : ∀ L vs w', (∀ i, i < m → L i = true) → I L vs w' → wpAny P .any ops Q (ops.size - m) (listedTo ops.size m) (putList vs ds a) w') :
    (Code.region id ops true).wp P Q a w := by
  have ok := slots_ok hok
  refine wp_region_any hm ?_
  have h0 : toCome m (Array.replicate ops.size false) = m := by
    have := List.countP_eq_length (l := List.range m) (p := fun i => !(Array.replicate ops.size false).getD i false) |>.2 fun i _ => by rw [rep_false]; rfl
    unfold toCome
    rw [this, List.length_range]
  have ha : a = putSel (fun i => (Array.replicate ops.size false).getD i false) (fun _ => undef) ds 0 a := by
    have : putSel (fun i => (Array.replicate ops.size false).getD i false) (fun _ => undef) ds 0 a = putSel (fun _ => false) (fun _ => undef) ds 0 a := putSel_congr _ _ _ _ ds 0 a fun j _ _ => ⟨rep_false _ j, fun _ => rfl⟩
    rw [this]
    exact (putSel_none ds 0 a).symm
  have hI : PInv ops a m ds I (Array.replicate ops.size false) (fun _ => undef) a { w with drawn := w.drawn + 1 } := {
    size := by simp
    tail := fun j _ => rep_false _ j
    closed := fun i o _ h => by rw [rep_false] at h; cases h
    inv := by
      have : (fun i => (Array.replicate ops.size false).getD i false) = fun _ => false := by funext i; exact rep_false _ i
      rw [this]
      exact start
    act := ha }
  have h1 := pre_go (Q := Q) ok (fun i o L vs w hi ho hl haft hI => step i o L vs (valOf a ds vs) w hi ho hl haft ⟨fun _ _ h => valOf_some h, fun _ h => valOf_none h, fun _ => rfl, fun _ => rfl⟩ hI) fin m _ _ a _ hI h0
  have e : ops.size - m + m = ops.size := Nat.sub_add_cancel ok.le
  rw [e] at h1
  exact h1
end
end Go.Proofs.Ytklmgdiaianlbaa


/- LogFurther: of two logs at least one is as far as the other one, and who fits at its own end fits; of all lists. -/
import Derived.Test.YtnnjcabgaefhcaaQ4
import Derived.Laws.EntriesVeiled
import Derived.OpenShut
import Derived.Test.YtnnjcabgaefhcaaRows
import Derived.Deep.DeepHandedRow
import Derived.ProofKit
import Derived.ShutString
import Derived.SizedLaws
import Derived.ChangeOld
import Derived.Below
import Derived.SliceStrings
set_option linter.unusedVariables false
set_option linter.unusedSimpArgs false
/- The walk of LogFurther. -/
namespace Go.Proofs.Ytnnjcabgaefhcaa.lg
open Go Go.RowKit Go.ChangeShapes Go.WideShapes Go.Proofs.Ytnnjcabgaefhcaa.ib
set_option maxRecDepth 100000

set_option maxHeartbeats 800000 in
theorem llast_any (A : Option Addr) (c : Nat) (l : List En) (w : World) (h : EnAt w A l) (hl : l.length ≤ 4000) : Calls Try.prog 28 #[.slice A l.length c] w (endT (lastT l) w) := by
  unfold lastT
  by_cases h0 : l.length = 0
  · obtain rfl : l = [] := List.length_eq_zero_iff.1 h0
    clear h
    go_enter Try.func28, Try.ntmps28
    go_wp2_with fail
    go_ret
    exact ⟨rfl, rfl⟩
  · rw [if_neg h0]
    obtain ⟨b, o, rfl, hb, hc⟩ := h.at_ (l.length - 1) (by omega)
    generalize ((l.getD (l.length - 1) dE).t) = t at *
    have hz : ((l.length : Int) == 0) = false := by rw [beq_eq_false_iff_ne]; omega
    have hi : (((l.length - 1 : Nat)) : Int) = (l.length : Int) - 1 := by omega
    obtain ⟨k, hk⟩ : ∃ k, l.length = k + 1 := ⟨l.length - 1, by omega⟩
    rw [hk] at hc hl hz ⊢
    simp only [Nat.add_sub_cancel] at hc
    clear h hi hk h0
    go_enter Try.func28, Try.ntmps28
    go_wp2_with fail
    all_goals go_ret
    all_goals exact ⟨rfl, rfl⟩

theorem newer_lt {t : Nat} {l : List En} {n : Int} (h : lastT l < t) : lNewer t n l = true := by unfold lNewer; simp [h]
theorem newer_gt {t : Nat} {l : List En} {n : Int} (h : t < lastT l) : lNewer t n l = false := by
  unfold lNewer
  rw [decide_eq_false (by omega), decide_eq_false (show ¬ t = lastT l by omega)]
  rfl
theorem newer_eq {t : Nat} {l : List En} {n : Int} (h : t = lastT l) : lNewer t n l = decide ((l.length : Int) ≤ n) := by
  unfold lNewer
  rw [decide_eq_false (by omega), decide_eq_true h]
  rfl
theorem fits_end (l : List En) : lFits l l.length (lastT l) = true := by
  unfold lFits lastT
  by_cases h : l.length = 0
  · simp [h]
  · rw [if_neg (by omega), if_neg h, decide_eq_true (show (1 : Int) ≤ (l.length : Int) by omega), show ((l.length : Int) - 1).toNat = l.length - 1 by omega]
    simp
theorem fits_zero (l : List En) : lFits l 0 0 = true := by unfold lFits; simp
/-- How two logs stand to each other. -/
theorem further (a b : List En) : (lNewer (lastT a) a.length b = true ∧ lNewer (lastT b) b.length a = false) ∨ (lNewer (lastT a) a.length b = false ∧ lNewer (lastT b) b.length a = true) ∨ (lNewer (lastT a) a.length b = true ∧ lNewer (lastT b) b.length a = true ∧ lastT a = lastT b ∧ a.length = b.length) := by
  by_cases h1 : lastT a < lastT b
  · exact .inr (.inl ⟨newer_gt h1, newer_lt h1⟩)
  by_cases h2 : lastT b < lastT a
  · exact .inl ⟨newer_lt h2, newer_gt h2⟩
  have h3 : lastT a = lastT b := by omega
  rw [newer_eq h3, newer_eq h3.symm]
  by_cases h4 : a.length < b.length
  · exact .inr (.inl ⟨decide_eq_false (by omega), decide_eq_true (by omega)⟩)
  by_cases h5 : b.length < a.length
  · exact .inl ⟨decide_eq_true (by omega), decide_eq_false (by omega)⟩
  · exact .inr (.inr ⟨decide_eq_true (by omega), decide_eq_true (by omega), h3, by omega⟩)

set_option maxHeartbeats 6400000 in
theorem logFurther_walk (A : Option Addr) (c : Nat) (l : List En) (B : Option Addr) (d : Nat) (m : List En) (w : World) (hl : l.length ≤ 9223372036854775807) (hA : EnL w A l c) (hm : m.length ≤ 9223372036854775807) (hB : EnL w B m d) :
    Calls Try.prog 9 #[.slice A l.length c, .slice B m.length d] w (endB true w) := by
  have HO := Lib.hid (own_new A c l w hA hl)
  have HO2 := Lib.hid (fun W (h : Below w.heap.size w W) => own_new B d m W (hB.below h) hm)
  have hl4 : (l.take 400).length ≤ 400 := by rw [List.length_take]; omega
  have hm4 : (m.take 400).length ≤ 400 := by rw [List.length_take]; omega
  clear hA hB hl hm
  go_enter Try.func9, Try.ntmps9
  go_wp2_with fail
  refine HO.out.mono ?_
  rintro e W1 ⟨A1, c1, rfl, hE, -, hb⟩
  have E1 := Lib.hid hE
  have B1 := Lib.hid hb
  clear hE hb HO
  generalize l.take 400 = x at *
  dsimp only
  go_wp2_with fail
  refine (HO2.out W1 B1.out).mono ?_
  rintro e W2 ⟨A2, c2, rfl, hE, -, hb⟩
  have F2 := Lib.hid hE
  have E2 := Lib.hid (E1.out.below hb)
  have B2 := Lib.hid (below_step B1.out hb)
  clear hE hb HO2
  generalize m.take 400 = y at *
  dsimp only
  have LA := Lib.hid (llast_any A1 c1 x W2 E2.out.ents (by omega))
  have LB := Lib.hid (llast_any A2 c2 y W2 F2.out.ents (by omega))
  have N1 := Lib.hid (newer_any A2 c2 y x.length (lastT x) W2 F2.out.ents (by omega))
  have N2 := Lib.hid (newer_any A1 c1 x y.length (lastT y) W2 E2.out.ents (by omega))
  have hF1 := fits_any A1 c1 x x.length (lastT x) W2 E2.out.ents (by omega) (by unfold i64B; omega)
  rw [fits_end x] at hF1
  have FF1 := Lib.hid hF1
  have hF2 := fits_any A1 c1 x 0 0 W2 E2.out.ents (by omega) (by unfold i64B; omega)
  rw [fits_zero x] at hF2
  have FF2 := Lib.hid hF2
  have hN3 := newer_any A1 c1 x x.length (lastT x) W2 E2.out.ents (by omega)
  rw [newer_eq rfl, decide_eq_true (Int.le_refl _)] at hN3
  have N3 := Lib.hid hN3
  have hor := further x y
  clear hF1 hF2 hN3
  generalize lastT x = p at *
  generalize lastT y = q at *
  rcases hor with ⟨h1, h2⟩ | ⟨h1, h2⟩ | ⟨h1, h2, h3, h4⟩
  · rw [h1] at N1
    rw [h2] at N2
    clear h1 h2
    go_wp2_with fail
    refine LA.out.mono ?_
    rintro e W' ⟨rfl, hw⟩
    rw [hw]
    clear hw W'
    go_wp2_with fail
    refine N1.out.mono ?_
    rintro e W' ⟨rfl, hw⟩
    rw [hw]
    clear hw W'
    go_wp2_with fail
    refine LB.out.mono ?_
    rintro e W' ⟨rfl, hw⟩
    rw [hw]
    clear hw W'
    go_wp2_with fail
    refine N2.out.mono ?_
    rintro e W' ⟨rfl, hw⟩
    rw [hw]
    clear hw W'
    go_wp2_with fail
    refine LA.out.mono ?_
    rintro e W' ⟨rfl, hw⟩
    rw [hw]
    clear hw W'
    go_wp2_with fail
    refine FF1.out.mono ?_
    rintro e W' ⟨rfl, hw⟩
    rw [hw]
    clear hw W'
    go_wp2_with fail
    refine FF2.out.mono ?_
    rintro e W' ⟨rfl, hw⟩
    rw [hw]
    clear hw W'
    go_wp2_with fail
    refine LA.out.mono ?_
    rintro e W' ⟨rfl, hw⟩
    rw [hw]
    clear hw W'
    go_wp2_with fail
    refine N3.out.mono ?_
    rintro e W' ⟨rfl, hw⟩
    rw [hw]
    clear hw W'
    go_wp2_with fail
    refine (works_any W2).mono ?_
    rintro e W9 ⟨rfl, hb⟩
    have B9 := Lib.hid (below_step B2.out hb)
    clear hb
    go_wp2_with fail
    go_ret
    exact ⟨rfl, B9.out⟩
  · rw [h1] at N1
    rw [h2] at N2
    clear h1 h2
    go_wp2_with fail
    refine LA.out.mono ?_
    rintro e W' ⟨rfl, hw⟩
    rw [hw]
    clear hw W'
    go_wp2_with fail
    refine N1.out.mono ?_
    rintro e W' ⟨rfl, hw⟩
    rw [hw]
    clear hw W'
    go_wp2_with fail
    refine LB.out.mono ?_
    rintro e W' ⟨rfl, hw⟩
    rw [hw]
    clear hw W'
    go_wp2_with fail
    refine N2.out.mono ?_
    rintro e W' ⟨rfl, hw⟩
    rw [hw]
    clear hw W'
    go_wp2_with fail
    refine LA.out.mono ?_
    rintro e W' ⟨rfl, hw⟩
    rw [hw]
    clear hw W'
    go_wp2_with fail
    refine FF1.out.mono ?_
    rintro e W' ⟨rfl, hw⟩
    rw [hw]
    clear hw W'
    go_wp2_with fail
    refine FF2.out.mono ?_
    rintro e W' ⟨rfl, hw⟩
    rw [hw]
    clear hw W'
    go_wp2_with fail
    refine LA.out.mono ?_
    rintro e W' ⟨rfl, hw⟩
    rw [hw]
    clear hw W'
    go_wp2_with fail
    refine N3.out.mono ?_
    rintro e W' ⟨rfl, hw⟩
    rw [hw]
    clear hw W'
    go_wp2_with fail
    refine (works_any W2).mono ?_
    rintro e W9 ⟨rfl, hb⟩
    have B9 := Lib.hid (below_step B2.out hb)
    clear hb
    go_wp2_with fail
    go_ret
    exact ⟨rfl, B9.out⟩
  · rw [h1] at N1
    rw [h2] at N2
    have hq1 : ((p : Int) != (q : Int)) = false := by rw [h3]; simp
    have hq2 : ((x.length : Int) != (y.length : Int)) = false := by rw [h4]; simp
    clear h1 h2 h3 h4
    go_wp2_with fail
    refine LA.out.mono ?_
    rintro e W' ⟨rfl, hw⟩
    rw [hw]
    clear hw W'
    go_wp2_with fail
    refine N1.out.mono ?_
    rintro e W' ⟨rfl, hw⟩
    rw [hw]
    clear hw W'
    go_wp2_with fail
    refine LB.out.mono ?_
    rintro e W' ⟨rfl, hw⟩
    rw [hw]
    clear hw W'
    go_wp2_with fail
    refine N2.out.mono ?_
    rintro e W' ⟨rfl, hw⟩
    rw [hw]
    clear hw W'
    go_wp2_with fail
    refine LA.out.mono ?_
    rintro e W' ⟨rfl, hw⟩
    rw [hw]
    clear hw W'
    go_wp2_with fail
    refine LB.out.mono ?_
    rintro e W' ⟨rfl, hw⟩
    rw [hw]
    clear hw W'
    go_wp2_with fail
    refine LA.out.mono ?_
    rintro e W' ⟨rfl, hw⟩
    rw [hw]
    clear hw W'
    go_wp2_with fail
    refine FF1.out.mono ?_
    rintro e W' ⟨rfl, hw⟩
    rw [hw]
    clear hw W'
    go_wp2_with fail
    refine FF2.out.mono ?_
    rintro e W' ⟨rfl, hw⟩
    rw [hw]
    clear hw W'
    go_wp2_with fail
    refine LA.out.mono ?_
    rintro e W' ⟨rfl, hw⟩
    rw [hw]
    clear hw W'
    go_wp2_with fail
    refine N3.out.mono ?_
    rintro e W' ⟨rfl, hw⟩
    rw [hw]
    clear hw W'
    go_wp2_with fail
    refine (works_any W2).mono ?_
    rintro e W9 ⟨rfl, hb⟩
    have B9 := Lib.hid (below_step B2.out hb)
    clear hb
    go_wp2_with fail
    go_ret
    exact ⟨rfl, B9.out⟩
end Go.Proofs.Ytnnjcabgaefhcaa.lg

/- LogFurther: of two logs at least one is as far as the other one, and who fits at its own end fits; of all lists. -/
namespace Go.Proofs.Ytnnjcabgaefhcaa.logFurther
open Go.ChangeShapes Go.WideShapes Go.ChangeAt Go.RowKit
open Go.ChangeMaps (open_string shut_string)
open Go.Proofs.Ytnnjcabgaefhcaa.ib Go.Proofs.Ytnnjcabgaefhcaa.lg

theorem own : ownKnob Try.prog.godebug = none := by kernel_rfl
theorem laidOut : laidOutB Try.prog = true := by kernel_rfl

theorem witness (os : Os) {H : Type} (enc : TypeId × Value → H) :
    (OpenSpec.ofChange Rows.logFurtherSpec).preRow enc Try.prog Try.f9 Rows.logFurtherRow.domain false Rows.logFurtherRow.laid ((World.holding Try.prog os ⟨#[], #[], []⟩).forCall (fun _ _ => 0) ⟨#[], #[.slice none 0 0, .slice none 0 0], []⟩).memory #[.slice none 0 0, .slice none 0 0] := by
  have hw : (DataW.whole enc Try.prog ((World.holding Try.prog os ⟨#[], #[], []⟩).forCall (fun _ _ => 0) ⟨#[], #[.slice none 0 0, .slice none 0 0], []⟩).memory Try.f9.params.toList (OpenSpec.ofChange Rows.logFurtherSpec).vars false (#[.slice none 0 0, .slice none 0 0] : Array Value).toList 8).map (fun x => (x.1, x.2.1)) =
      some ([.nil, .nil], []) := by kernel_rfl
  obtain ⟨⟨x1, x2, x3⟩, hx, hx1⟩ := Option.map_eq_some_iff.1 hw
  simp only [Prod.mk.injEq] at hx1
  obtain ⟨rfl, rfl⟩ := hx1
  exact OpenSpec.preRow_of_cond 8 hx (by kernel_rfl) (fun k hk => by cases hk) (by kernel_rfl) (laidMetH_nil _ _)

set_option maxRecDepth 100000 in
set_option maxHeartbeats 1600000 in
theorem lifted (os : Os) (started : os.Started) (H : Type) (enc : TypeId × Value → H) (F : Stop.Interp) :
    ReturnsInHanded {} Try.checked os 9 .any ((OpenSpec.ofChange Rows.logFurtherSpec).preRow enc Try.prog Try.f9 Rows.logFurtherRow.domain false Rows.logFurtherRow.laid) (((OpenSpec.ofChange Rows.logFurtherSpec).at F).post enc Try.prog Try.f9 false true false false) := by
  refine returnsInHanded_of_row (C := Try.checked) (s := OpenSpec.ofChange Rows.logFurtherSpec) own started (by kernel_rfl) Try.func9
    (witness_row_at (enc := enc) (C := Try.checked) false (World.holding Try.prog os ⟨#[], #[], []⟩) #[.slice none 0 0, .slice none 0 0] rfl (by kernel_rfl) (by kernel_rfl) (by kernel_rfl) (witness os enc)) ?_
  intro W base args ds gs before hval0 hW _ _ hsz0 hL _ _
  have hval : ∀ (j : Nat) t v, Try.f9.params[j]? = some t → args[j]? = some v → Value.okWide Try.prog W .any base t v := hval0
  have hW' := hW
  obtain ⟨p, q, hA0, hV, rfl, hfz, hnd⟩ := hW
  have hA : DataW.TrodAll enc Try.prog W 0 (fun _ => true) true Try.f9.params.toList args.toList ds p := hA0
  rw [Try.params9] at hA hval
  obtain ⟨v0, vs0, d0, ds0, p0, q0, hargs, rfl, rfl, h0, r0⟩ := trodAll_cons hA
  obtain ⟨v1, vs1, d1, ds1, p1, q1, rfl, rfl, rfl, h1, r1⟩ := trodAll_cons r0
  obtain ⟨rfl, rfl, rfl⟩ := trodAll_nil r1
  obtain rfl : args = #[v0, v1] := by cases args; simp_all
  obtain ⟨rfl, rfl⟩ := trodVars_none hV
  obtain ⟨a0, l0, c0, rfl⟩ := okWide_slice Try.underlying22 (hval 0 22 v0 rfl rfl)
  have k0 := h0
  have lt0 : ∀ x ∈ p0, x.block < W.heap.size := by obtain ⟨m, hm⟩ := k0; exact DataW.trod_lt m _ _ _ hm
  obtain ⟨zs0, hzl0, hl0, hT0⟩ := ents_of k0
  subst hzl0
  obtain ⟨a1, l1, c1, rfl⟩ := okWide_slice Try.underlying22 (hval 1 22 v1 rfl rfl)
  have k1 := h1
  have lt1 : ∀ x ∈ p1, x.block < W.heap.size := by obtain ⟨m, hm⟩ := k1; exact DataW.trod_lt m _ _ _ hm
  obtain ⟨zs1, hzl1, hl1, hT1⟩ := ents_of k1
  subst hzl1
  clear hA0 hval0 hsz0
  simp only [List.append_nil] at hW'
  refine (logFurther_walk a0 c0 zs0 a1 c1 zs1 W hl0 hT0 hl1 hT1).mono fun e W' ⟨he, hg⟩ => ?_
  subst he
  exact ⟨_, rfl, _, _, _, [], _, [], hW', trodAll_mk1 (shut_bool Try.underlying4 _), (trodAll_cons_mk (Below.trod laidOut (by kernel_rfl) (of_decide_eq_true (by kernel_rfl)) k0 hg lt0) (trodAll_cons_mk (Below.trod laidOut (by kernel_rfl) (of_decide_eq_true (by kernel_rfl)) k1 hg lt1) trodAll_mk0)), rfl, hg.frame _, fun h => by cases h⟩

theorem over : Rows.LogFurtherSaid :=
  OpenClaim.holds_of_cond 9 Try.f9 rfl rfl rfl rfl rfl rfl rfl ⟨rfl, rfl, rfl, rfl, rfl⟩ rfl rfl rfl rfl rfl (by kernel_rfl) Try.func9 (by kernel_rfl)
    (of_decide_eq_true (by kernel_rfl)) (by unfold Func.isWrapper; first | (rw [if_pos (by decide +kernel)]; kernel_rfl) | (rw [if_neg (by decide +kernel)]; exact ⟨rfl, rfl⟩))
    (fun os started H enc _ F => by rw [OpenClaim.pre_eq_preRow]; exact lifted os started H enc F)

theorem proved : Rows.LogFurtherSaid :=
  over
#print axioms proved
end Go.Proofs.Ytnnjcabgaefhcaa.logFurther


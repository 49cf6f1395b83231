/- LogFits: whether a number and a term fit any log, and are as far as it, is as the document says, of all lists, numbers and terms. -/
import Derived.Test.YtnnjcabgaefhcaaQ4
import Derived.OpenShut
import Derived.Test.YtnnjcabgaefhcaaRows
import Derived.Deep.DeepHandedRow
import Derived.ProofKit
import Derived.ShutString
import Derived.SizedLaws
import Derived.ChangeOld
import Derived.Below
import Derived.SliceStrings
set_option linter.unusedVariables false
set_option linter.unusedSimpArgs false
/- The walks of LogChecks, LogFits and LogFolds. -/
namespace Go.Proofs.Ytnnjcabgaefhcaa.lg
open Go Go.RowKit Go.ChangeShapes Go.WideShapes Go.Proofs.Ytnnjcabgaefhcaa.ib
set_option maxRecDepth 100000

theorem ru64_of {x : Int} (h : (Lit.int .u64 x).wf = true) : ∃ c : Nat, x = (c : Int) := by
  have hb := bounds_u64 h
  exact ⟨x.toNat, by omega⟩
set_option maxHeartbeats 3200000 in
theorem logChecks_walk (A : Option Addr) (c : Nat) (l : List En) (B : Option Addr) (d : Nat) (m : List En) (w : World) (hl : l.length ≤ 9223372036854775807) (hA : EnL w A l c) (hm : m.length ≤ 9223372036854775807) (hB : EnL w B m d) :
    Calls Try.prog 3 #[.slice A l.length c, .slice B m.length d] w (endB true w) := by
  have HO := Lib.hid (own_new A c l w hA hl)
  have HO2 := Lib.hid (fun W (h : Below w.heap.size w W) => own_new B d m W (hB.below h) hm)
  have hl4 : (l.take 400).length ≤ 400 := by rw [List.length_take]; omega
  have hm4 : (m.take 400).length ≤ 400 := by rw [List.length_take]; omega
  clear hA hB hl hm
  go_enter Try.func3, Try.ntmps3
  go_wp2_with fail
  refine HO.out.mono ?_
  rintro e W1 ⟨A1, c1, rfl, hE, -, hb⟩
  have E1 := Lib.hid hE
  have B1 := Lib.hid hb
  clear hE hb HO
  generalize l.take 400 = x at *
  dsimp only
  go_wp2_with fail
  refine (HO2.out W1 B1.out).mono ?_
  rintro e W2 ⟨A2, c2, rfl, hE, -, hb⟩
  have F2 := Lib.hid hE
  have E2 := Lib.hid (E1.out.below hb)
  have B2 := Lib.hid (below_step B1.out hb)
  clear hE hb HO2
  generalize m.take 400 = y at *
  dsimp only
  obtain ⟨r, hr⟩ : ∃ r, lCheck x = r := ⟨_, rfl⟩
  have hq1 : (r == r) = true := by simp
  have C1 := Lib.hid (fun W (h : EnL W A1 x c1) => check_any A1 c1 x W h.ents (by omega))
  have C2 := Lib.hid (fun W (h : EnL W A1 x c1) => rcheck_any A1 c1 x W h.ents (by omega))
  rw [hr] at C1 C2
  clear hr
  go_wp2_with fail
  refine (C1.out W2 E2.out).mono ?_
  rintro e W3 ⟨rfl, hb⟩
  have F3 := Lib.hid (F2.out.below hb)
  have E3 := Lib.hid (E2.out.below hb)
  have B3 := Lib.hid (below_step B2.out hb)
  clear hb
  go_wp2_with fail
  refine (C2.out W3 E3.out).mono ?_
  rintro e W4 ⟨rfl, hb⟩
  have F4 := Lib.hid (F3.out.below hb)
  have E4 := Lib.hid (E3.out.below hb)
  have B4 := Lib.hid (below_step B3.out hb)
  clear hb C1 C2
  obtain ⟨s, hs⟩ : ∃ s, decide (x = y) = s := ⟨_, rfl⟩
  have hq2 : (s == s) = true := by simp
  have C1 := Lib.hid (fun W (h : EnL W A1 x c1) (h2 : EnL W A2 y c2) => same_any A1 A2 c1 c2 x y W h.ents h2.ents (by omega) (by omega))
  have C2 := Lib.hid (fun W (h : EnL W A1 x c1) (h2 : EnL W A2 y c2) => rsame_any A1 A2 c1 c2 x y W h.ents h2.ents (by omega) (by omega))
  rw [hs] at C1 C2
  clear hs
  go_wp2_with fail
  refine (C1.out W4 E4.out F4.out).mono ?_
  rintro e W5 ⟨rfl, hb⟩
  have F5 := Lib.hid (F4.out.below hb)
  have E5 := Lib.hid (E4.out.below hb)
  have B5 := Lib.hid (below_step B4.out hb)
  clear hb
  go_wp2_with fail
  refine (C2.out W5 E5.out F5.out).mono ?_
  rintro e W6 ⟨rfl, hb⟩
  have E6 := Lib.hid (E5.out.below hb)
  have B6 := Lib.hid (below_step B5.out hb)
  clear hb C1 C2
  go_wp2_with fail
  refine (own_new A1 c1 x W6 E6.out (by omega)).mono ?_
  rw [List.take_of_length_le hl4]
  rintro e W7 ⟨A3, c3, rfl, hE, -, hb⟩
  have G7 := Lib.hid hE
  have E7 := Lib.hid (E6.out.below hb)
  have B7 := Lib.hid (below_step B6.out hb)
  clear hE hb
  have hx := same_any A1 A3 c1 c3 x x W7 E7.out.ents G7.out.ents (by omega) (by omega)
  rw [decide_eq_true rfl] at hx
  have C3 := Lib.hid hx
  clear hx
  go_wp2_with fail
  refine C3.out.mono ?_
  rintro e W8 ⟨rfl, hb⟩
  have B8 := Lib.hid (below_step B7.out hb)
  clear hb
  go_wp2_with fail
  refine (works_any W8).mono ?_
  rintro e W9 ⟨rfl, hb⟩
  have B9 := Lib.hid (below_step B8.out hb)
  clear hb
  go_wp2_with fail
  go_ret
  exact ⟨rfl, B9.out⟩

set_option maxHeartbeats 3200000 in
theorem logFits_walk (A : Option Addr) (c : Nat) (l : List En) (p : Int) (hp : (Lit.int .i64 p).wf = true) (u : Int) (hu : (Lit.int .u64 u).wf = true) (w : World) (hl : l.length ≤ 9223372036854775807) (hA : EnL w A l c) :
    Calls Try.prog 4 #[.slice A l.length c, .int .i64 p, .int .u64 u] w (endB true w) := by
  have HO := Lib.hid (own_new A c l w hA hl)
  have hl4 : (l.take 400).length ≤ 400 := by rw [List.length_take]; omega
  have hpb : i64B p := bounds_i64 hp
  obtain ⟨t, rfl⟩ := ru64_of hu
  clear hA hl hp hu
  go_enter Try.func4, Try.ntmps4
  go_wp2_with fail
  refine HO.out.mono ?_
  rintro e W1 ⟨A1, c1, rfl, hE, -, hb⟩
  have E1 := Lib.hid hE
  have B1 := Lib.hid hb
  clear hE hb HO
  generalize l.take 400 = x at *
  dsimp only
  have C1 := Lib.hid (fits_any A1 c1 x p t W1 E1.out.ents (by omega) hpb)
  have C2 := Lib.hid (rfits_any A1 c1 x p t W1 E1.out.ents (by omega) hpb)
  have C3 := Lib.hid (newer_any A1 c1 x p t W1 E1.out.ents (by omega))
  have C4 := Lib.hid (rnewer_any A1 c1 x p t W1 E1.out.ents (by omega))
  generalize lFits x p t = r at *
  generalize lNewer t p x = s at *
  have hq1 : (r == r) = true := by simp
  have hq2 : (s == s) = true := by simp
  clear hpb
  go_wp2_with fail
  refine C1.out.mono ?_
  rintro e W' ⟨rfl, hw⟩
  rw [hw]
  clear hw W'
  go_wp2_with fail
  refine C2.out.mono ?_
  rintro e W' ⟨rfl, hw⟩
  rw [hw]
  clear hw W'
  go_wp2_with fail
  refine C3.out.mono ?_
  rintro e W' ⟨rfl, hw⟩
  rw [hw]
  clear hw W'
  go_wp2_with fail
  refine C4.out.mono ?_
  rintro e W' ⟨rfl, hw⟩
  rw [hw]
  clear hw W'
  go_wp2_with fail
  refine (works_any W1).mono ?_
  rintro e W9 ⟨rfl, hb⟩
  have B9 := Lib.hid (below_step B1.out hb)
  clear hb
  go_wp2_with fail
  go_ret
  exact ⟨rfl, B9.out⟩

theorem lfold_len (l : List En) (cm : Int) : (lFold l cm).gs.length ≤ l.length := by
  unfold lFold
  rw [fold_min]
  exact Nat.le_trans (fold_len l _ (Nat.min_le_right _ _)) (Nat.min_le_right _ _)
set_option maxHeartbeats 3200000 in
theorem logFolds_walk (A : Option Addr) (c : Nat) (l : List En) (p : Int) (hp : (Lit.int .i64 p).wf = true) (w : World) (hl : l.length ≤ 9223372036854775807) (hA : EnL w A l c) :
    Calls Try.prog 6 #[.slice A l.length c, .int .i64 p] w (endB true w) := by
  have HO := Lib.hid (own_new A c l w hA hl)
  have hl4 : (l.take 400).length ≤ 400 := by rw [List.length_take]; omega
  clear hA hl hp
  go_enter Try.func6, Try.ntmps6
  go_wp2_with fail
  refine HO.out.mono ?_
  rintro e W1 ⟨A1, c1, rfl, hE, -, hb⟩
  have E1 := Lib.hid hE
  have B1 := Lib.hid hb
  clear hE hb HO
  generalize l.take 400 = x at *
  dsimp only
  have HC := Lib.hid (fun (q : Int) W (h : EnL W A1 x c1) => fold_any A1 c1 x q W h (by omega))
  have HR := Lib.hid (fun (q : Int) W (h : EnL W A1 x c1) => rfold_any A1 c1 x q W h (by omega))
  have HLN := Lib.hid (fun (q : Int) => Nat.le_trans (lfold_len x q) hl4)
  have HSM : Hid (∀ (q : Int) v u W, LnAt W v (lFold x q) → LnAt W u (lFold x q) → Calls Try.prog 23 #[v, u] W (endB true W)) := fun q v u W h1 h2 => by
    have h := rlines_any v u _ _ W h1 h2 (Nat.le_trans (HLN.out q) (by omega)) (Nat.le_trans (HLN.out q) (by omega))
    rwa [decide_eq_true rfl] at h
  go_wp2_with fail
  refine (HC.out _ W1 E1.out).mono ?_
  rintro e W2 ⟨v2, rfl, hv, hb⟩
  have V2 := Lib.hid hv
  have E2 := Lib.hid (E1.out.below hb)
  have B2 := Lib.hid (below_step B1.out hb)
  clear hv hb
  go_wp2_with fail
  refine (HR.out _ W2 E2.out).mono ?_
  rintro e W3 ⟨v3, rfl, hv, hb⟩
  have V3 := Lib.hid hv
  have V2b := Lib.hid (V2.out.below hb)
  have E3 := Lib.hid (E2.out.below hb)
  have B3 := Lib.hid (below_step B2.out hb)
  clear hv hb
  have hs := HSM.out _ _ _ W3 V2b.out V3.out
  have HS := Lib.hid hs
  clear hs
  go_wp2_with fail
  refine HS.out.mono ?_
  rintro e W4 ⟨rfl, hb⟩
  have E4 := Lib.hid (E3.out.below hb)
  have B4 := Lib.hid (below_step B3.out hb)
  clear hb HS V2 V2b V3
  go_wp2_with fail
  refine (HC.out _ W4 E4.out).mono ?_
  rintro e W5 ⟨v5, rfl, hv, hb⟩
  have V5 := Lib.hid hv
  have E5 := Lib.hid (E4.out.below hb)
  have B5 := Lib.hid (below_step B4.out hb)
  clear hv hb
  go_wp2_with fail
  refine (HR.out _ W5 E5.out).mono ?_
  rintro e W6 ⟨v6, rfl, hv, hb⟩
  have V6 := Lib.hid hv
  have V5b := Lib.hid (V5.out.below hb)
  have B6 := Lib.hid (below_step B5.out hb)
  clear hv hb
  have hs := HSM.out _ _ _ W6 V5b.out V6.out
  have HS := Lib.hid hs
  clear hs
  go_wp2_with fail
  refine HS.out.mono ?_
  rintro e W7 ⟨rfl, hb⟩
  have B7 := Lib.hid (below_step B6.out hb)
  clear hb HS
  go_wp2_with fail
  refine (works_any W7).mono ?_
  rintro e W9 ⟨rfl, hb⟩
  have B9 := Lib.hid (below_step B7.out hb)
  clear hb
  go_wp2_with fail
  go_ret
  exact ⟨rfl, B9.out⟩
end Go.Proofs.Ytnnjcabgaefhcaa.lg

/- LogFits: whether a number and a term fit any log, and are as far as it, is as the document says, of all lists, numbers and terms. -/
namespace Go.Proofs.Ytnnjcabgaefhcaa.logFits
open Go.ChangeShapes Go.WideShapes Go.ChangeAt Go.RowKit
open Go.ChangeMaps (open_string shut_string)
open Go.Proofs.Ytnnjcabgaefhcaa.ib Go.Proofs.Ytnnjcabgaefhcaa.lg

theorem own : ownKnob Try.prog.godebug = none := by kernel_rfl
theorem laidOut : laidOutB Try.prog = true := by kernel_rfl

theorem witness (os : Os) {H : Type} (enc : TypeId × Value → H) :
    (OpenSpec.ofChange Rows.logFitsSpec).preRow enc Try.prog Try.f4 Rows.logFitsRow.domain false Rows.logFitsRow.laid ((World.holding Try.prog os ⟨#[], #[], []⟩).forCall (fun _ _ => 0) ⟨#[], #[.slice none 0 0, .int .i64 0, .int .u64 0], []⟩).memory #[.slice none 0 0, .int .i64 0, .int .u64 0] := by
  have hw : (DataW.whole enc Try.prog ((World.holding Try.prog os ⟨#[], #[], []⟩).forCall (fun _ _ => 0) ⟨#[], #[.slice none 0 0, .int .i64 0, .int .u64 0], []⟩).memory Try.f4.params.toList (OpenSpec.ofChange Rows.logFitsSpec).vars false (#[.slice none 0 0, .int .i64 0, .int .u64 0] : Array Value).toList 8).map (fun x => (x.1, x.2.1)) =
      some ([.nil, .lit (.int .i64 0), .lit (.int .u64 0)], []) := by kernel_rfl
  obtain ⟨⟨x1, x2, x3⟩, hx, hx1⟩ := Option.map_eq_some_iff.1 hw
  simp only [Prod.mk.injEq] at hx1
  obtain ⟨rfl, rfl⟩ := hx1
  exact OpenSpec.preRow_of_cond 8 hx (by kernel_rfl) (fun k hk => by cases hk) (by kernel_rfl) (laidMetH_nil _ _)

set_option maxRecDepth 100000 in
set_option maxHeartbeats 1600000 in
theorem lifted (os : Os) (started : os.Started) (H : Type) (enc : TypeId × Value → H) (F : Stop.Interp) :
    ReturnsInHanded {} Try.checked os 4 .any ((OpenSpec.ofChange Rows.logFitsSpec).preRow enc Try.prog Try.f4 Rows.logFitsRow.domain false Rows.logFitsRow.laid) (((OpenSpec.ofChange Rows.logFitsSpec).at F).post enc Try.prog Try.f4 false true false false) := by
  refine returnsInHanded_of_row (C := Try.checked) (s := OpenSpec.ofChange Rows.logFitsSpec) own started (by kernel_rfl) Try.func4
    (witness_row_at (enc := enc) (C := Try.checked) false (World.holding Try.prog os ⟨#[], #[], []⟩) #[.slice none 0 0, .int .i64 0, .int .u64 0] rfl (by kernel_rfl) (by kernel_rfl) (by kernel_rfl) (witness os enc)) ?_
  intro W base args ds gs before hval0 hW _ _ hsz0 hL _ _
  have hval : ∀ (j : Nat) t v, Try.f4.params[j]? = some t → args[j]? = some v → Value.okWide Try.prog W .any base t v := hval0
  have hW' := hW
  obtain ⟨p, q, hA0, hV, rfl, hfz, hnd⟩ := hW
  have hA : DataW.TrodAll enc Try.prog W 0 (fun _ => true) true Try.f4.params.toList args.toList ds p := hA0
  rw [Try.params4] at hA hval
  obtain ⟨v0, vs0, d0, ds0, p0, q0, hargs, rfl, rfl, h0, r0⟩ := trodAll_cons hA
  obtain ⟨v1, vs1, d1, ds1, p1, q1, rfl, rfl, rfl, h1, r1⟩ := trodAll_cons r0
  obtain ⟨v2, vs2, d2, ds2, p2, q2, rfl, rfl, rfl, h2, r2⟩ := trodAll_cons r1
  obtain ⟨rfl, rfl, rfl⟩ := trodAll_nil r2
  obtain rfl : args = #[v0, v1, v2] := by cases args; simp_all
  obtain ⟨rfl, rfl⟩ := trodVars_none hV
  obtain ⟨a0, l0, c0, rfl⟩ := okWide_slice Try.underlying22 (hval 0 22 v0 rfl rfl)
  have k0 := h0
  have lt0 : ∀ x ∈ p0, x.block < W.heap.size := by obtain ⟨m, hm⟩ := k0; exact DataW.trod_lt m _ _ _ hm
  obtain ⟨zs0, hzl0, hl0, hT0⟩ := ents_of k0
  subst hzl0
  obtain ⟨a1, rfl, rfl, rfl, w1⟩ := open_int Try.underlying3 (hval 1 3 v1 rfl rfl) h1
  obtain ⟨a2, rfl, rfl, rfl, w2⟩ := open_int Try.underlying28 (hval 2 28 v2 rfl rfl) h2
  clear hA0 hval0 hsz0
  simp only [List.append_nil] at hW'
  refine (logFits_walk a0 c0 zs0 a1 w1 a2 w2 W hl0 hT0).mono fun e W' ⟨he, hg⟩ => ?_
  subst he
  exact ⟨_, rfl, _, _, _, [], _, [], hW', trodAll_mk1 (shut_bool Try.underlying4 _), (trodAll_cons_mk (Below.trod laidOut (by kernel_rfl) (of_decide_eq_true (by kernel_rfl)) k0 hg lt0) (trodAll_cons_mk (shut_int Try.underlying3 w1) (trodAll_cons_mk (shut_int Try.underlying28 w2) trodAll_mk0))), rfl, hg.frame _, fun h => by cases h⟩

theorem over : Rows.LogFitsSaid :=
  OpenClaim.holds_of_cond 4 Try.f4 rfl rfl rfl rfl rfl rfl rfl ⟨rfl, rfl, rfl, rfl, rfl⟩ rfl rfl rfl rfl rfl (by kernel_rfl) Try.func4 (by kernel_rfl)
    (of_decide_eq_true (by kernel_rfl)) (by unfold Func.isWrapper; first | (rw [if_pos (by decide +kernel)]; kernel_rfl) | (rw [if_neg (by decide +kernel)]; exact ⟨rfl, rfl⟩))
    (fun os started H enc _ F => by rw [OpenClaim.pre_eq_preRow]; exact lifted os started H enc F)

theorem proved : Rows.LogFitsSaid :=
  over
#print axioms proved
end Go.Proofs.Ytnnjcabgaefhcaa.logFits


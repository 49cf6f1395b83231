/- LineOrder: of two lines the same one is the answer, whichever comes first; nothing is further; of three it does not matter which two come first; of all lines. -/
import Derived.Test.YtbbgeccbdellmaaQ6
import Derived.Test.YtbbgeccbdellmaaQLnLOrder0
import Derived.Test.YtbbgeccbdellmaaRows
import Derived.Deep.DeepHandedRow
import Derived.ProofKit
import Derived.OpenShut
import Derived.ShutString
import Derived.SizedLaws
import Derived.ChangeOld
import Derived.Below
import Derived.SliceStrings
set_option linter.unusedVariables false
set_option linter.unusedSimpArgs false
/- LineOrder: of two lines the same one is the answer, whichever comes first; nothing is further; of three it does not matter which two come first; of all lines. -/
namespace Go.Proofs.Ytbbgeccbdellmaa.lineOrder
open Go.ChangeShapes Go.WideShapes Go.ChangeAt Go.RowKit
open Go.ChangeMaps (open_string shut_string)
open Go.Proofs.Ytbbgeccbdellmaa.ib Go.Proofs.Ytbbgeccbdellmaa.lg Go.Proofs.Ytbbgeccbdellmaa.ln

theorem own : ownKnob Try.prog.godebug = none := by kernel_rfl
theorem laidOut : laidOutB Try.prog = true := by kernel_rfl

theorem witness (os : Os) {H : Type} (enc : TypeId × Value → H) :
    (OpenSpec.ofChange Rows.lineOrderSpec).preRow enc Try.prog Try.f8 Rows.lineOrderRow.domain false Rows.lineOrderRow.laid ((World.holding Try.prog os ⟨#[], #[], []⟩).forCall (fun _ _ => 0) ⟨#[], #[.agg #[.int .u64 0, .int .i64 0, .bool false, .slice none 0 0], .agg #[.int .u64 0, .int .i64 0, .bool false, .slice none 0 0], .agg #[.int .u64 0, .int .i64 0, .bool false, .slice none 0 0]], []⟩).memory #[.agg #[.int .u64 0, .int .i64 0, .bool false, .slice none 0 0], .agg #[.int .u64 0, .int .i64 0, .bool false, .slice none 0 0], .agg #[.int .u64 0, .int .i64 0, .bool false, .slice none 0 0]] := by
  have hw : (DataW.whole enc Try.prog ((World.holding Try.prog os ⟨#[], #[], []⟩).forCall (fun _ _ => 0) ⟨#[], #[.agg #[.int .u64 0, .int .i64 0, .bool false, .slice none 0 0], .agg #[.int .u64 0, .int .i64 0, .bool false, .slice none 0 0], .agg #[.int .u64 0, .int .i64 0, .bool false, .slice none 0 0]], []⟩).memory Try.f8.params.toList (OpenSpec.ofChange Rows.lineOrderSpec).vars false (#[.agg #[.int .u64 0, .int .i64 0, .bool false, .slice none 0 0], .agg #[.int .u64 0, .int .i64 0, .bool false, .slice none 0 0], .agg #[.int .u64 0, .int .i64 0, .bool false, .slice none 0 0]] : Array Value).toList 8).map (fun x => (x.1, x.2.1)) =
      some ([.agg [.lit (.int .u64 0), .lit (.int .i64 0), .lit (.bool false), .nil], .agg [.lit (.int .u64 0), .lit (.int .i64 0), .lit (.bool false), .nil], .agg [.lit (.int .u64 0), .lit (.int .i64 0), .lit (.bool false), .nil]], []) := by kernel_rfl
  obtain ⟨⟨x1, x2, x3⟩, hx, hx1⟩ := Option.map_eq_some_iff.1 hw
  simp only [Prod.mk.injEq] at hx1
  obtain ⟨rfl, rfl⟩ := hx1
  exact OpenSpec.preRow_of_cond 8 hx (by kernel_rfl) (fun k hk => by cases hk) (by kernel_rfl) (laidMetH_nil _ _)

set_option maxRecDepth 100000 in
set_option maxHeartbeats 1600000 in
theorem lifted (os : Os) (started : os.Started) (H : Type) (enc : TypeId × Value → H) (F : Stop.Interp) :
    ReturnsInHanded {} Try.checked os 8 .any ((OpenSpec.ofChange Rows.lineOrderSpec).preRow enc Try.prog Try.f8 Rows.lineOrderRow.domain false Rows.lineOrderRow.laid) (((OpenSpec.ofChange Rows.lineOrderSpec).at F).post enc Try.prog Try.f8 false true false false) := by
  refine returnsInHanded_of_row (C := Try.checked) (s := OpenSpec.ofChange Rows.lineOrderSpec) own started (by kernel_rfl) Try.func8
    (witness_row_at (enc := enc) (C := Try.checked) false (World.holding Try.prog os ⟨#[], #[], []⟩) #[.agg #[.int .u64 0, .int .i64 0, .bool false, .slice none 0 0], .agg #[.int .u64 0, .int .i64 0, .bool false, .slice none 0 0], .agg #[.int .u64 0, .int .i64 0, .bool false, .slice none 0 0]] rfl (by kernel_rfl) (by kernel_rfl) (by kernel_rfl) (witness os enc)) ?_
  intro W base args ds gs before hval0 hW _ _ hsz0 hL _ _
  have hsz : (DataW.weightsEach Try.prog (Try.f8.params.toList ++ (OpenSpec.ofChange Rows.lineOrderSpec).bare.plain.varTypes Try.prog) (ds ++ gs)).all (· ≤ reachBytes) = true := hsz0
  have hval : ∀ (j : Nat) t v, Try.f8.params[j]? = some t → args[j]? = some v → Value.okWide Try.prog W .any base t v := hval0
  have hW' := hW
  obtain ⟨p, q, hA0, hV, rfl, hfz, hnd⟩ := hW
  have hA : DataW.TrodAll enc Try.prog W 0 (fun _ => true) true Try.f8.params.toList args.toList ds p := hA0
  rw [Try.params8] at hA hval hsz
  obtain ⟨v0, vs0, d0, ds0, p0, q0, hargs, rfl, rfl, h0, r0⟩ := trodAll_cons hA
  obtain ⟨v1, vs1, d1, ds1, p1, q1, rfl, rfl, rfl, h1, r1⟩ := trodAll_cons r0
  obtain ⟨v2, vs2, d2, ds2, p2, q2, rfl, rfl, rfl, h2, r2⟩ := trodAll_cons r1
  obtain ⟨rfl, rfl, rfl⟩ := trodAll_nil r2
  obtain rfl : args = #[v0, v1, v2] := by cases args; simp_all
  obtain ⟨rfl, rfl⟩ := trodVars_none hV
  have k0 := h0
  have lt0 : ∀ x ∈ p0, x.block < W.heap.size := by obtain ⟨m, hm⟩ := k0; exact DataW.trod_lt m _ _ _ hm
  obtain ⟨L0, hS0, hM0⟩ := line_of (hval 0 25 v0 rfl rfl) k0
  have k1 := h1
  have lt1 : ∀ x ∈ p1, x.block < W.heap.size := by obtain ⟨m, hm⟩ := k1; exact DataW.trod_lt m _ _ _ hm
  obtain ⟨L1, hS1, hM1⟩ := line_of (hval 1 25 v1 rfl rfl) k1
  have k2 := h2
  have lt2 : ∀ x ∈ p2, x.block < W.heap.size := by obtain ⟨m, hm⟩ := k2; exact DataW.trod_lt m _ _ _ hm
  obtain ⟨L2, hS2, hM2⟩ := line_of (hval 2 25 v2 rfl rfl) k2
  have hz0 := sz_line hsz (j := 0) rfl rfl hS0
  have hz1 := sz_line hsz (j := 1) rfl rfl hS1
  have hz2 := sz_line hsz (j := 2) rfl rfl hS2
  clear hA0 hval0 hsz0
  simp only [List.append_nil] at hW'
  refine (lineOrder_walk v0 L0 v1 L1 v2 L2 W hM0 hz0 hM1 hz1 hM2 hz2).mono fun e W' ⟨he, hg⟩ => ?_
  subst he
  exact ⟨_, rfl, _, _, _, [], _, [], hW', trodAll_mk1 (shut_bool Try.underlying4 _), (trodAll_cons_mk (Below.trod laidOut (by kernel_rfl) (of_decide_eq_true (by kernel_rfl)) k0 hg lt0) (trodAll_cons_mk (Below.trod laidOut (by kernel_rfl) (of_decide_eq_true (by kernel_rfl)) k1 hg lt1) (trodAll_cons_mk (Below.trod laidOut (by kernel_rfl) (of_decide_eq_true (by kernel_rfl)) k2 hg lt2) trodAll_mk0))), rfl, hg.frame _, fun h => by cases h⟩

theorem over : Rows.LineOrderSaid :=
  OpenClaim.holds_of_cond 8 Try.f8 rfl rfl rfl rfl rfl rfl rfl ⟨rfl, rfl, rfl, rfl, rfl⟩ rfl rfl rfl rfl rfl (by kernel_rfl) Try.func8 (by kernel_rfl)
    (of_decide_eq_true (by kernel_rfl)) (by unfold Func.isWrapper; first | (rw [if_pos (by decide +kernel)]; kernel_rfl) | (rw [if_neg (by decide +kernel)]; exact ⟨rfl, rfl⟩))
    (fun os started H enc _ F => by rw [OpenClaim.pre_eq_preRow]; exact lifted os started H enc F)

theorem proved : Rows.LineOrderSaid :=
  over
#print axioms proved
end Go.Proofs.Ytbbgeccbdellmaa.lineOrder


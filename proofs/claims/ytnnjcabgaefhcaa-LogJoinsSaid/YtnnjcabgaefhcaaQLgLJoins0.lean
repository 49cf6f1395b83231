/- LogJoins: any log, joined with any others at any number, is as the document says, and what was handed in stays; of all lists and numbers. -/
import Derived.Test.YtnnjcabgaefhcaaQ4
import Derived.OpenShut
import Derived.Test.YtnnjcabgaefhcaaRows
import Derived.Deep.DeepHandedRow
import Derived.ProofKit
import Derived.ShutString
import Derived.SizedLaws
import Derived.ChangeOld
import Derived.Below
import Derived.SliceStrings
set_option linter.unusedVariables false
set_option linter.unusedSimpArgs false
/- The walk of LogJoins. -/
namespace Go.Proofs.Ytnnjcabgaefhcaa.lg
open Go Go.RowKit Go.ChangeShapes Go.WideShapes Go.Proofs.Ytnnjcabgaefhcaa.ib
set_option maxRecDepth 100000

theorem join_mem {l m : List En} {p : Int} {x : En} (h : x ∈ lJoin l p m) : x ∈ l ∨ x ∈ m := by
  unfold lJoin at h
  split at h
  · exact .inl h
  · split at h
    · exact .inl h
    · rcases List.mem_append.1 h with h | h
      · exact .inl (List.mem_of_mem_take h)
      · exact .inr (List.mem_of_mem_drop h)
theorem join_len {l m : List En} {p : Int} (hl : l.length ≤ 400) (hm : m.length ≤ 400) : (lJoin l p m).length ≤ 800 := by
  unfold lJoin
  split
  · omega
  · split
    · omega
    · rw [List.length_append, List.length_take, List.length_drop]; omega
def JoRel (g n cap : Nat) (W0 : World) (i : Value) (wr : World) : Prop :=
  ∃ k : Nat, k ≤ n ∧ i = .int .i64 (k : Int) ∧ (∃ cur : Array Value, Blk wr g 35 cur ∧ cur.size = cap * 4) ∧ Below W0.heap.size W0 wr
set_option maxHeartbeats 6400000 in
theorem logJoins_walk (A : Option Addr) (c : Nat) (l : List En) (p : Int) (hp : (Lit.int .i64 p).wf = true) (B : Option Addr) (d : Nat) (m : List En) (w : World) (hl : l.length ≤ 9223372036854775807) (hA : EnL w A l c) (hm : m.length ≤ 9223372036854775807) (hB : EnL w B m d) :
    Calls Try.prog 5 #[.slice A l.length c, .int .i64 p, .slice B m.length d] w (endB true w) := by
  have HO := Lib.hid (own_new A c l w hA hl)
  have HO2 := Lib.hid (fun W (h : Below w.heap.size w W) => own_new B d m W (hB.below h) hm)
  have hl4 : (l.take 400).length ≤ 400 := by rw [List.length_take]; omega
  have hm4 : (m.take 400).length ≤ 400 := by rw [List.length_take]; omega
  have hpb : i64B p := bounds_i64 hp
  have HP := Lib.hid hpb
  clear hA hB hl hm hp hpb
  go_enter Try.func5, Try.ntmps5
  go_wp2_with fail
  refine HO.out.mono ?_
  rintro e W1 ⟨A1, c1, rfl, hE, -, hb⟩
  have E1 := Lib.hid hE
  have B1 := Lib.hid hb
  clear hE hb HO
  generalize l.take 400 = x at *
  dsimp only
  go_wp2_with fail
  refine (HO2.out W1 B1.out).mono ?_
  rintro e W2 ⟨A2, c2, rfl, hE, -, hb⟩
  have F2 := Lib.hid hE
  have E2 := Lib.hid (E1.out.below hb)
  have B2 := Lib.hid (below_step B1.out hb)
  clear hE hb HO2
  generalize m.take 400 = y at *
  dsimp only
  go_wp2_with fail
  refine (own_new A1 c1 x W2 E2.out (by omega)).mono ?_
  rw [List.take_of_length_le hl4]
  rintro e W3 ⟨A3, c3, rfl, hE, -, hb⟩
  have G3 := Lib.hid hE
  have E3 := Lib.hid (E2.out.below hb)
  have F3 := Lib.hid (F2.out.below hb)
  have B3 := Lib.hid (below_step B2.out hb)
  clear hE hb
  go_wp2_with fail
  refine (own_new A2 c2 y W3 F3.out (by omega)).mono ?_
  rw [List.take_of_length_le hm4]
  rintro e W4 ⟨A4, c4, rfl, hE, -, hb⟩
  have K4 := Lib.hid hE
  have G4 := Lib.hid (G3.out.below hb)
  have E4 := Lib.hid (E3.out.below hb)
  have F4 := Lib.hid (F3.out.below hb)
  have B4 := Lib.hid (below_step B3.out hb)
  clear hE hb
  have hj := join_any A1 A2 c1 c2 x y p W4 E4.out F4.out (by omega) (by omega) HP.out
  have HRJ := Lib.hid (fun W (h : Below W4.heap.size W4 W) => rjoin_any A1 A2 c1 c2 x y p W (E4.out.below h) (F4.out.below h) (by omega) (by omega) HP.out)
  have HRB : Hid (∀ z ∈ lJoin x p y, enB z) := fun z hz => by
    rcases join_mem hz with h | h
    · exact E4.out.b z h
    · exact F4.out.b z h
  have hR8 : (lJoin x p y).length ≤ 800 := join_len hl4 hm4
  generalize lJoin x p y = R at *
  have HJ := Lib.hid hj
  clear hj
  go_wp2_with fail
  refine HJ.out.mono ?_
  rintro e W5 ⟨va, rfl, ho, hb⟩
  have O5 := Lib.hid ho
  have D5 := Lib.hid hb
  clear ho hb HJ
  go_wp2_with fail
  refine (HRJ.out W5 D5.out).mono ?_
  rintro e W6 ⟨vb, rfl, ho, hb⟩
  have O6 := Lib.hid (O5.out.below hb)
  have Q6 := Lib.hid ho
  have D6 := Lib.hid (D5.out.trans (hb.mono D5.out.size))
  clear ho hb HRJ O5
  obtain ⟨Ab, cb, rfl, hQ, -⟩ := Q6.out.view HRB.out
  obtain ⟨Aa, ca, hva, hO, -⟩ := O6.out.view HRB.out
  have hs := rsame_any Aa Ab ca cb R R W6 hO.ents hQ.ents (by omega) (by omega)
  rw [decide_eq_true rfl] at hs
  have HS := Lib.hid hs
  have HV := Lib.hid hva
  rw [hva]
  clear hs hQ hO hva
  go_wp2_with fail
  refine HS.out.mono ?_
  rintro e W7 ⟨rfl, hb⟩
  have O7 := Lib.hid (O6.out.below hb)
  have D7 := Lib.hid (D6.out.trans (hb.mono D6.out.size))
  clear hb HS O6 Q6
  have HCA : Hid (∀ W, Below W4.heap.size W4 W → Calls Try.prog 15 #[.slice A1 x.length c1, .slice A3 x.length c3] W (endB true W)) := fun W h => by
    have h2 := rsame_any A1 A3 c1 c3 x x W (E4.out.ents.below h) (G4.out.ents.below h) (by omega) (by omega)
    rwa [decide_eq_true rfl] at h2
  have HCB : Hid (∀ W, Below W4.heap.size W4 W → Calls Try.prog 15 #[.slice A2 y.length c2, .slice A4 y.length c4] W (endB true W)) := fun W h => by
    have h2 := rsame_any A2 A4 c2 c4 y y W (F4.out.ents.below h) (K4.out.ents.below h) (by omega) (by omega)
    rwa [decide_eq_true rfl] at h2
  have ho := O7.out.2
  rw [HV.out] at ho
  rcases ho with ⟨hn, h0⟩ | ⟨g, cap, cur, hn, hg, hh, hcc, hmx, hcs, -⟩
  · simp only [Value.slice.injEq] at hn
    obtain ⟨rfl, hn2, rfl⟩ := hn
    rw [hn2]
    go_wp2_with fail
    go_loopw [11] (fun i wr => i = .int .i64 0 ∧ wr = W7) (fun _ _ => 0)
    case atStart => exact ⟨rfl, rfl⟩
    case round =>
      obtain ⟨rfl, hw⟩ := hrel
      have DR : Hid (Below W4.heap.size W4 wr) := by rw [hw]; exact D7.out
      clear hw
      go_wp2_with fail
      refine (HCA.out wr DR.out).mono ?_
      rintro e W8 ⟨rfl, hb⟩
      have D8 := Lib.hid (DR.out.trans (hb.mono DR.out.size))
      clear hb
      go_wp2_with fail
      refine (HCB.out W8 D8.out).mono ?_
      rintro e W9 ⟨rfl, hb⟩
      have D9 := Lib.hid (D8.out.trans (hb.mono D8.out.size))
      clear hb
      go_wp2_with fail
      refine (works_any W9).mono ?_
      rintro e W10 ⟨rfl, hb⟩
      have D10 := Lib.hid (below_step B4.out (D9.out.trans (hb.mono D9.out.size)))
      clear hb
      go_wp2_with fail
      go_ret
      exact ⟨rfl, D10.out⟩
  · simp only [Value.slice.injEq] at hn
    obtain ⟨rfl, -, rfl⟩ := hn
    have HG := Lib.hid hg
    have HC0 : Hid (∃ cur : Array Value, Blk W7 g 35 cur ∧ cur.size = ca * 4) := ⟨cur, hh, hcs⟩
    obtain ⟨n, hn⟩ : ∃ n, R.length = n := ⟨_, rfl⟩
    rw [hn] at hcc hR8 ⊢
    clear hg hh hcs hmx hn
    go_wp2_with fail
    go_loopw [11] (fun i wr => JoRel g n ca W4 i wr) (fun i _ => n - (intOf i).toNat)
    case atStart => exact ⟨0, Nat.zero_le _, rfl, HC0.out, D7.out⟩
    case round =>
      obtain ⟨k, hk, rfl, ⟨cu, hcu, hcz⟩, hb⟩ := hrel
      have DR := Lib.hid hb
      by_cases hlt : k < n
      · have hki : (k : Int) < (n : Int) := by omega
        have e0 := hcu.cell (k * 4)
        rw [Array.getElem?_eq_getElem (show k * 4 < cu.size by omega)] at e0
        have f0 := hcu.frozen (k * 4)
        have hgl := hcu.lt
        have HC := Lib.hid hcu
        have HZ := Lib.hid hcz
        generalize cu[k * 4] = u at *
        clear hcu hcz hb
        go_wp2_with fail
        go_roundw
        case rel => exact ⟨k + 1, by omega, by go_num, ⟨_, HC.out.set_ (k * 4) (.int .u64 777), by rw [Array.size_setIfInBounds]; exact HZ.out⟩, DR.out.setCell (p := ⟨g, k * 4, none⟩) HG.out _⟩
        case measure => simp [intOf]; omega
      · have hki : ¬ (k : Int) < (n : Int) := by omega
        clear hcu hcz hb
        go_wp2_with fail
        refine (HCA.out wr DR.out).mono ?_
        rintro e W8 ⟨rfl, hb⟩
        have D8 := Lib.hid (DR.out.trans (hb.mono DR.out.size))
        clear hb
        go_wp2_with fail
        refine (HCB.out W8 D8.out).mono ?_
        rintro e W9 ⟨rfl, hb⟩
        have D9 := Lib.hid (D8.out.trans (hb.mono D8.out.size))
        clear hb
        go_wp2_with fail
        refine (works_any W9).mono ?_
        rintro e W10 ⟨rfl, hb⟩
        have D10 := Lib.hid (below_step B4.out (D9.out.trans (hb.mono D9.out.size)))
        clear hb
        go_wp2_with fail
        go_ret
        exact ⟨rfl, D10.out⟩
end Go.Proofs.Ytnnjcabgaefhcaa.lg

/- LogJoins: any log, joined with any others at any number, is as the document says, and what was handed in stays; of all lists and numbers. -/
namespace Go.Proofs.Ytnnjcabgaefhcaa.logJoins
open Go.ChangeShapes Go.WideShapes Go.ChangeAt Go.RowKit
open Go.ChangeMaps (open_string shut_string)
open Go.Proofs.Ytnnjcabgaefhcaa.ib Go.Proofs.Ytnnjcabgaefhcaa.lg

theorem own : ownKnob Try.prog.godebug = none := by kernel_rfl
theorem laidOut : laidOutB Try.prog = true := by kernel_rfl

theorem witness (os : Os) {H : Type} (enc : TypeId × Value → H) :
    (OpenSpec.ofChange Rows.logJoinsSpec).preRow enc Try.prog Try.f5 Rows.logJoinsRow.domain false Rows.logJoinsRow.laid ((World.holding Try.prog os ⟨#[], #[], []⟩).forCall (fun _ _ => 0) ⟨#[], #[.slice none 0 0, .int .i64 0, .slice none 0 0], []⟩).memory #[.slice none 0 0, .int .i64 0, .slice none 0 0] := by
  have hw : (DataW.whole enc Try.prog ((World.holding Try.prog os ⟨#[], #[], []⟩).forCall (fun _ _ => 0) ⟨#[], #[.slice none 0 0, .int .i64 0, .slice none 0 0], []⟩).memory Try.f5.params.toList (OpenSpec.ofChange Rows.logJoinsSpec).vars false (#[.slice none 0 0, .int .i64 0, .slice none 0 0] : Array Value).toList 8).map (fun x => (x.1, x.2.1)) =
      some ([.nil, .lit (.int .i64 0), .nil], []) := by kernel_rfl
  obtain ⟨⟨x1, x2, x3⟩, hx, hx1⟩ := Option.map_eq_some_iff.1 hw
  simp only [Prod.mk.injEq] at hx1
  obtain ⟨rfl, rfl⟩ := hx1
  exact OpenSpec.preRow_of_cond 8 hx (by kernel_rfl) (fun k hk => by cases hk) (by kernel_rfl) (laidMetH_nil _ _)

set_option maxRecDepth 100000 in
set_option maxHeartbeats 1600000 in
theorem lifted (os : Os) (started : os.Started) (H : Type) (enc : TypeId × Value → H) (F : Stop.Interp) :
    ReturnsInHanded {} Try.checked os 5 .any ((OpenSpec.ofChange Rows.logJoinsSpec).preRow enc Try.prog Try.f5 Rows.logJoinsRow.domain false Rows.logJoinsRow.laid) (((OpenSpec.ofChange Rows.logJoinsSpec).at F).post enc Try.prog Try.f5 false true false false) := by
  refine returnsInHanded_of_row (C := Try.checked) (s := OpenSpec.ofChange Rows.logJoinsSpec) own started (by kernel_rfl) Try.func5
    (witness_row_at (enc := enc) (C := Try.checked) false (World.holding Try.prog os ⟨#[], #[], []⟩) #[.slice none 0 0, .int .i64 0, .slice none 0 0] rfl (by kernel_rfl) (by kernel_rfl) (by kernel_rfl) (witness os enc)) ?_
  intro W base args ds gs before hval0 hW _ _ hsz0 hL _ _
  have hval : ∀ (j : Nat) t v, Try.f5.params[j]? = some t → args[j]? = some v → Value.okWide Try.prog W .any base t v := hval0
  have hW' := hW
  obtain ⟨p, q, hA0, hV, rfl, hfz, hnd⟩ := hW
  have hA : DataW.TrodAll enc Try.prog W 0 (fun _ => true) true Try.f5.params.toList args.toList ds p := hA0
  rw [Try.params5] at hA hval
  obtain ⟨v0, vs0, d0, ds0, p0, q0, hargs, rfl, rfl, h0, r0⟩ := trodAll_cons hA
  obtain ⟨v1, vs1, d1, ds1, p1, q1, rfl, rfl, rfl, h1, r1⟩ := trodAll_cons r0
  obtain ⟨v2, vs2, d2, ds2, p2, q2, rfl, rfl, rfl, h2, r2⟩ := trodAll_cons r1
  obtain ⟨rfl, rfl, rfl⟩ := trodAll_nil r2
  obtain rfl : args = #[v0, v1, v2] := by cases args; simp_all
  obtain ⟨rfl, rfl⟩ := trodVars_none hV
  obtain ⟨a0, l0, c0, rfl⟩ := okWide_slice Try.underlying22 (hval 0 22 v0 rfl rfl)
  have k0 := h0
  have lt0 : ∀ x ∈ p0, x.block < W.heap.size := by obtain ⟨m, hm⟩ := k0; exact DataW.trod_lt m _ _ _ hm
  obtain ⟨zs0, hzl0, hl0, hT0⟩ := ents_of k0
  subst hzl0
  obtain ⟨a1, rfl, rfl, rfl, w1⟩ := open_int Try.underlying3 (hval 1 3 v1 rfl rfl) h1
  obtain ⟨a2, l2, c2, rfl⟩ := okWide_slice Try.underlying22 (hval 2 22 v2 rfl rfl)
  have k2 := h2
  have lt2 : ∀ x ∈ p2, x.block < W.heap.size := by obtain ⟨m, hm⟩ := k2; exact DataW.trod_lt m _ _ _ hm
  obtain ⟨zs2, hzl2, hl2, hT2⟩ := ents_of k2
  subst hzl2
  clear hA0 hval0 hsz0
  simp only [List.append_nil] at hW'
  refine (logJoins_walk a0 c0 zs0 a1 w1 a2 c2 zs2 W hl0 hT0 hl2 hT2).mono fun e W' ⟨he, hg⟩ => ?_
  subst he
  exact ⟨_, rfl, _, _, _, [], _, [], hW', trodAll_mk1 (shut_bool Try.underlying4 _), (trodAll_cons_mk (Below.trod laidOut (by kernel_rfl) (of_decide_eq_true (by kernel_rfl)) k0 hg lt0) (trodAll_cons_mk (shut_int Try.underlying3 w1) (trodAll_cons_mk (Below.trod laidOut (by kernel_rfl) (of_decide_eq_true (by kernel_rfl)) k2 hg lt2) trodAll_mk0))), rfl, hg.frame _, fun h => by cases h⟩

theorem over : Rows.LogJoinsSaid :=
  OpenClaim.holds_of_cond 5 Try.f5 rfl rfl rfl rfl rfl rfl rfl ⟨rfl, rfl, rfl, rfl, rfl⟩ rfl rfl rfl rfl rfl (by kernel_rfl) Try.func5 (by kernel_rfl)
    (of_decide_eq_true (by kernel_rfl)) (by unfold Func.isWrapper; first | (rw [if_pos (by decide +kernel)]; kernel_rfl) | (rw [if_neg (by decide +kernel)]; exact ⟨rfl, rfl⟩))
    (fun os started H enc _ F => by rw [OpenClaim.pre_eq_preRow]; exact lifted os started H enc F)

theorem proved : Rows.LogJoinsSaid :=
  over
#print axioms proved
end Go.Proofs.Ytnnjcabgaefhcaa.logJoins


/- JournalNothing: a Commit that is refused changes no sector at all: for up to four Commits ahead, any writes, any room. -/
import Derived.Test.YtjllpbckmioiiaaDoorQ24
import Derived.Test.YtjllpbckmioiiaaDoorQ25
import Derived.Test.YtjllpbckmioiiaaDoorQJLNothing0
import Derived.OpenShut
import Derived.Test.YtjllpbckmioiiaaDoorRows
import Derived.Test.YtjllpbckmioiiaaDoorCards
import Derived.Test.YtjllpbckmioiiaaDoorTie
import Derived.SevenTiedAt
import Derived.Deep.DeepHandedRow
import Derived.ProofKit
import Derived.ShutString
import Derived.SizedLaws
import Derived.ChangeOld
import Derived.Below
import Derived.SliceStrings
/- The walk of JournalNothing, by what a head's two calls do. -/
namespace Go.Proofs.YtjllpbckmioiiaaDoor.jr
open Go Go.RowKit Go.Proofs.YtjllpbckmioiiaaDoor.dk Go.Proofs.YtjllpbckmioiiaaDoor.wi
set_option maxRecDepth 100000

set_option maxHeartbeats 6400000 in
theorem journalNothing_walk (HW : HeadW) (HR : HeadR) (A0 : Option Addr) (c0 : Nat) (zss : List (List PutV)) (A1 : Option Addr) (c1 : Nat) (zs : List PutV) (m : Int) (w1 : (Lit.int .u8 m).wf = true) (w : World)
    (hl0 : zss.length ≤ 9223372036854775807) (hT0 : PssAt w A0 zss) (hl1 : zs.length ≤ 9223372036854775807) (hT1 : PutsAt3 w A1 zs) (ht : CTab w) :
    Calls Tryd.prog 4 #[.slice A0 zss.length c0, .slice A1 zs.length c1, .int .u8 m] w (okB true w) := by
  have hm := Go.bounds_u8 w1
  clear w1
  have HT0 := Lib.hid hT0
  have HT1 := Lib.hid hT1
  have HT := Lib.hid ht
  have hg := ht.1
  have HHW := Lib.hid HW
  have HHR := Lib.hid HR
  clear hT0 hT1 ht HW HR
  obtain ⟨_, hj0, hf0⟩ := ready_is
  have HJ0 := Lib.hid hj0
  have HF0 := Lib.hid hf0
  clear hj0 hf0
  go_enter Tryd.func4, Tryd.ntmps4
  go_wp2_with fail
  refine (ready_any HHW.out w).mono ?_
  rintro e Wr ⟨p, rfl, hi0, b1⟩
  have HI0 := Lib.hid hi0
  have HB1 := Lib.hid b1
  clear hi0 b1
  go_wp2_with fail
  go_loopw [8] (fun i wr => AllRel zss p w i wr) (fun i _ => 5 - (intOf i).toNat)
  case atStart => exact ⟨0, ready200, fun _ => zz, Nat.zero_le _, Nat.zero_le _, rfl, HI0.out, HJ0.out, HF0.out, HB1.out⟩
  case round =>
    obtain ⟨k, d, tgt, hk, hk4, rfl, hi, hj, hf, hB⟩ := hrel
    have HI := Lib.hid hi
    have HJ := Lib.hid hj
    have HF := Lib.hid hf
    have HB := Lib.hid hB
    have HBX := Lib.hid (hB)
    clear hi hj hf hB HI0 HB1 HJ0 HF0
    by_cases hgo : k < zss.length ∧ k < 4
    · obtain ⟨hlt, hlt4⟩ := hgo
      obtain ⟨bb, oo, Ai, ci, rfl, hbb, hc, hput, hlen⟩ := HT0.out k hlt
      have hzlen : (zss[k]).length = zss[k].length := rfl
      generalize zss[k] = zk at *
      have hklt : (k : Int) < (zss.length : Int) := by omega
      have hk4' : (k : Int) < 4 := by omega
      have e0 : wr.cell? ⟨bb, oo + k, none⟩ = some (.slice Ai zk.length ci) := by rw [HBX.out.cell (p := ⟨bb, oo + k, none⟩) hbb]; exact hc
      have hbw : bb < wr.heap.size := Nat.lt_of_lt_of_le hbb HBX.out.size
      have HPU := Lib.hid hput
      have HPL := Lib.hid hlen
      clear hc hput hlen hzlen
      have hw0 := PutsAt3.below HPU.out (HBX.out.mono (Nat.le_refl _))
      have HW0 := Lib.hid hw0
      clear hw0
      go_wp2_with fail
      refine (writes_any Ai ci zk wr HW0.out HPL.out).mono ?_
      rintro e Wa ⟨v, rfl, hov, ba⟩
      obtain ⟨Av, cv, rfl, hws⟩ := hov.view (wsP_i64 HPU.out)
      obtain ⟨d', hcm, hj', hf'⟩ := commit_done HJ.out HF.out (wsP zk)
      have HWS := Lib.hid hws
      have HCM := Lib.hid hcm
      have HJ' := Lib.hid hj'
      have HF' := Lib.hid hf'
      have HBA := Lib.hid (below_step HB.out ba)
      have HIA := Lib.hid (HI.out.below ba)
      clear hov ba hws hcm hj' hf'
      go_wp2_with fail
      refine (commit_in HHW.out HHR.out HIA.out HBA.out.size (by rw [HJ.out.n]; decide) Av cv _ (wsP zk) rfl HWS.out (by have := wsP_70 zk; omega) (HT.out.below HBA.out hg) (by rw [HJ.out.more]; decide) _ d' HCM.out).mono ?_
      rintro e Wc ⟨rfl, hic, bc⟩
      have HIC := Lib.hid hic
      have HBC := Lib.hid (HBA.out.trans bc)
      clear hic bc
      go_wp2_with fail
      go_roundw
      case rel => exact ⟨k + 1, d', aft tgt (wsP zk), by omega, by omega, by go_num, HIC.out, HJ'.out, HF'.out, HBC.out⟩
      case measure => simp [intOf]; omega
    · obtain ⟨r, d2, hcq, hrd⟩ := commit_room HJ.out HF.out m (wsP zs)
      obtain ⟨dm, hdm⟩ : ∃ x, d.setRoom m = x := ⟨_, rfl⟩
      rw [hdm] at hcq hrd
      have hdn : dm.n = 200 := by rw [← hdm]; exact HJ.out.n
      have hdo : dm.on = true := by rw [← hdm]; exact HJ.out.on
      have hdp : dm.more = [] := by rw [← hdm]; exact HJ.out.more
      have HDM := Lib.hid hdm
      have HCQ := Lib.hid hcq
      have HRD := Lib.hid hrd
      have HDN := Lib.hid hdn
      have HDO := Lib.hid hdo
      have HDP := Lib.hid hdp
      clear hdm hcq hrd hdn hdo hdp
      have hcond : ((k : Int) < (zss.length : Int) ∧ ¬ (k : Int) < 4) ∨ ¬ (k : Int) < (zss.length : Int) := by omega
      clear hgo
      rcases hcond with ⟨hk0, hk1⟩ | hk0
      all_goals
        go_wp2_with fail
        clear hk0
        try clear hk1
        refine (room_in HI.out HB.out.size m (by omega) dm HDM.out).mono ?_
        rintro e W2 ⟨rfl, hi2, b2⟩
        obtain ⟨own1, hd1, ho1⟩ := hi2
        have hol : ∀ k, own1 k → k < W2.heap.size := by
          obtain ⟨_, mm, v, h1⟩ := hd1
          exact h1.2.2.2.2.2.2
        have HD1 := Lib.hid hd1
        have HO1 := Lib.hid ho1
        have HOL := Lib.hid hol
        have HB2 := Lib.hid (HB.out.trans b2)
        clear hd1 ho1 hol b2
        go_wp2_with fail
        refine (copy_any HD1.out (by decide)).mono ?_
        rintro e W3 ⟨q, own2, rfl, hdq, b3, ho2⟩
        have hol2 : ∀ k, own2 k → k < W3.heap.size := by
          obtain ⟨_, mm, v, h1⟩ := hdq
          exact h1.2.2.2.2.2.2
        have HDQ := Lib.hid hdq
        have HB3 := Lib.hid b3
        have HO2 := Lib.hid ho2
        have HOL2 := Lib.hid hol2
        have HBW3 := Lib.hid (below_step HB2.out b3)
        clear hdq b3 ho2 hol2
        go_wp2_with fail
        refine (writes_any A1 c1 zs W3 (PutsAt3.below HT1.out HBW3.out) hl1).mono ?_
        rintro e W4 ⟨vw, rfl, how, b4⟩
        obtain ⟨Aw, cw, rfl, hws⟩ := how.view (wsP_i64 HT1.out)
        have HWS := Lib.hid hws
        have HB4 := Lib.hid b4
        have HBW4 := Lib.hid (below_step HBW3.out b4)
        clear how hws b4
        obtain ⟨G, hg1, hg2, hg3, hg4⟩ : ∃ G : Nat → Prop, (∀ k, own1 k → G k) ∧ (∀ k, W4.heap.size ≤ k → G k) ∧ (∀ k, G k → w.heap.size ≤ k) ∧ (∀ k, own2 k → ¬ G k) := ⟨fun k => own1 k ∨ W4.heap.size ≤ k, fun k h => .inl h, fun k h => .inr h, fun k h => h.elim (HO1.out k) (fun h => Nat.le_trans HBW4.out.size h), fun k h1 h => by
          have g1 := HO2.out k h1
          have g2 := HOL2.out k h1
          have g3 := HB4.out.size
          rcases h with h | h
          · have := HOL.out k h
            omega
          · omega⟩
        have hig : InG 400 W4 G p dm := ⟨own1, (HD1.out.below HB3.out).below HB4.out, hg1⟩
        have HIG := Lib.hid hig
        have HG2 := Lib.hid hg2
        have HG3 := Lib.hid hg3
        have HG4 := Lib.hid hg4
        clear hig hg1 hg2 hg3 hg4
        go_wp2_with fail
        refine (commit_g HHW.out HHR.out HIG.out HG2.out (by rw [HDN.out]; decide) Aw cw _ (wsP zs) rfl HWS.out (by have := wsP_70 zs; omega) (HT.out.below HBW4.out hg) (by rw [HDP.out]; decide) r d2 HCQ.out).mono ?_
        rintro e W5 ⟨rfl, hi5, bt5⟩
        have HI5 := Lib.hid hi5
        have HBW5 := Lib.hid (HBW4.out.trans (bt5.below HG3.out HBW4.out.size))
        have HIQ : Hid (InG 400 W5 own2 q dm) := ⟨own2, (HDQ.out.below HB4.out).but bt5 HG4.out, fun _ h => h⟩
        clear hi5 bt5
        by_cases hr0 : r = 0
        · subst hr0
          go_wp2_with fail
          refine (works_any HHW.out HHR.out W5 (HT.out.below HBW5.out hg)).mono ?_
          rintro e W6 ⟨rfl, b6⟩
          have HBE := Lib.hid (below_step HBW5.out b6)
          clear b6
          go_wp2_with fail
          go_ret
          exact ⟨rfl, HBE.out⟩
        · have hrb : (r == 0) = false := by rw [beq_eq_false_iff_ne]; exact hr0
          have hd2 : d2 = dm := HRD.out.resolve_left hr0
          subst hd2
          go_wp2_with fail
          clear hr0 hrb
          go_loopw [10] (fun i wr => ∃ j : Nat, j ≤ 200 ∧ i = .int .i64 (j : Int) ∧ Below W5.heap.size W5 wr) (fun i _ => 201 - (intOf i).toNat)
          case atStart => exact ⟨0, Nat.zero_le _, rfl, Below.refl _ _⟩
          case round =>
            obtain ⟨j, hj, rfl, hB5⟩ := hrel
            have HB5 := Lib.hid hB5
            have HD5 := Lib.hid (HI5.out.below hB5)
            have HQ5 := Lib.hid (HIQ.out.below hB5)
            clear hB5
            by_cases hj2 : j < 200
            · have hji : (j : Int) < 200 := by omega
              have hv : ∃ v, d2.read (j : Int) = (v, 0) := by
                have hh : d2.has (j : Int) = true := by
                  unfold DD.has
                  rw [HDN.out]
                  simp
                  omega
                unfold DD.read
                rw [if_neg (by rw [HDO.out]; simp), if_neg (by rw [hh]; simp)]
                exact ⟨_, rfl⟩
              obtain ⟨v, hv⟩ := hv
              obtain ⟨S, hS⟩ : ∃ S, str v = S := ⟨_, rfl⟩
              have HV := Lib.hid hv
              have HS := Lib.hid hS
              clear hv hS
              go_wp2_with fail
              refine (len_g HD5.out 200 (by rw [HDN.out]; rfl)).mono ?_
              rintro e W6 ⟨rfl, rfl⟩
              go_wp2_with fail
              refine (read_g HD5.out (j : Int) v S HS.out 0 HV.out).mono ?_
              rintro e W7 ⟨rfl, _, b7⟩
              have HQ7 := Lib.hid (HQ5.out.below b7)
              have HB7 := Lib.hid (below_step HB5.out b7)
              clear b7
              go_wp2_with fail
              refine (read_g HQ7.out (j : Int) v S HS.out 0 HV.out).mono ?_
              rintro e W8 ⟨rfl, _, b8⟩
              have HB8 := Lib.hid (below_step HB7.out b8)
              clear b8
              have hq1 : (S.toList == S.toList) = true := by simp
              have hq2 : (S.toList != S.toList) = false := by simp
              go_wp2_with fail
              go_roundw
              case rel => exact ⟨j + 1, by omega, by go_num, HB8.out⟩
              case measure => simp [intOf]; omega
            · have hji : ¬ (j : Int) < 200 := by omega
              go_wp2_with fail
              refine (len_g HD5.out 200 (by rw [HDN.out]; rfl)).mono ?_
              rintro e W6 ⟨rfl, rfl⟩
              obtain ⟨us, hus⟩ : ∃ x, (d2.used : Int) = x := ⟨_, rfl⟩
              have HUS := Lib.hid hus
              clear hus
              go_wp2_with fail
              refine (used_g HD5.out us HUS.out).mono ?_
              rintro e W7 ⟨rfl, rfl⟩
              go_wp2_with fail
              refine (used_g HQ5.out us HUS.out).mono ?_
              rintro e W8 ⟨rfl, rfl⟩
              go_wp2_with fail
              have HBW6 := Lib.hid (below_step HBW5.out HB5.out)
              refine (works_any HHW.out HHR.out _ (HT.out.below HBW6.out hg)).mono ?_
              rintro e W9 ⟨rfl, b9⟩
              have HBE := Lib.hid (below_step HBW6.out b9)
              clear b9
              go_wp2_with fail
              go_ret
              exact ⟨rfl, HBE.out⟩
end Go.Proofs.YtjllpbckmioiiaaDoor.jr

/- JournalNothing: a Commit that is refused changes no sector at all: for up to four Commits ahead, any writes, any room. -/
namespace Go.Proofs.YtjllpbckmioiiaaDoor.journalNothing
open Go.ChangeShapes Go.WideShapes Go.ChangeAt Go.RowKit
open Go.ChangeMaps (open_string shut_string)
open Go.Proofs.YtjllpbckmioiiaaDoor.jr

theorem own : ownKnob Tryd.prog.godebug = none := by kernel_rfl
theorem laidOut : laidOutB Tryd.prog = true := by kernel_rfl

theorem laid_met (os : Os) (args : Array Value) : laidMet Tryd.prog Rows.journalNothingRow.laid ((laidWorld os).forCall (fun _ _ => 0) ⟨#[], args, []⟩).memory :=
  laidMet_of_run' 8 (by kernel_rfl) (by kernel_rfl)

theorem witness (os : Os) {H : Type} (enc : TypeId × Value → H) :
    (OpenSpec.ofChange Rows.journalNothingSpec).preRow enc Tryd.prog Tryd.f4 Rows.journalNothingRow.domain false Rows.journalNothingRow.laid ((laidWorld os).forCall (fun _ _ => 0) ⟨#[], #[.slice none 0 0, .slice none 0 0, .int .u8 0], []⟩).memory #[.slice none 0 0, .slice none 0 0, .int .u8 0] := by
  have hw : (DataW.whole enc Tryd.prog ((laidWorld os).forCall (fun _ _ => 0) ⟨#[], #[.slice none 0 0, .slice none 0 0, .int .u8 0], []⟩).memory Tryd.f4.params.toList (OpenSpec.ofChange Rows.journalNothingSpec).vars false (#[.slice none 0 0, .slice none 0 0, .int .u8 0] : Array Value).toList 8).map (fun x => (x.1, x.2.1)) =
      some ([.nil, .nil, .lit (.int .u8 0)], []) := by kernel_rfl
  obtain ⟨⟨x1, x2, x3⟩, hx, hx1⟩ := Option.map_eq_some_iff.1 hw
  simp only [Prod.mk.injEq] at hx1
  obtain ⟨rfl, rfl⟩ := hx1
  exact OpenSpec.preRow_of_cond 8 hx (by kernel_rfl) (fun k hk => by cases hk) (by kernel_rfl) (laid_met os _)

set_option maxRecDepth 100000 in
theorem lifted (os : Os) (started : os.Started) (H : Type) (enc : TypeId × Value → H) (F : Stop.Interp) :
    ReturnsInHanded {} Tryd.checked os 4 .any ((OpenSpec.ofChange Rows.journalNothingSpec).preRow enc Tryd.prog Tryd.f4 Rows.journalNothingRow.domain false Rows.journalNothingRow.laid) (((OpenSpec.ofChange Rows.journalNothingSpec).at F).post enc Tryd.prog Tryd.f4 false true false false) := by
  refine returnsInHanded_of_row (C := Tryd.checked) (s := OpenSpec.ofChange Rows.journalNothingSpec) own started (by kernel_rfl) Tryd.func4
    (witness_row_at (enc := enc) (C := Tryd.checked) false (laidWorld os) #[.slice none 0 0, .slice none 0 0, .int .u8 0] rfl (by kernel_rfl) (by kernel_rfl) (by kernel_rfl) (witness os enc)) ?_
  intro W base args ds gs before hval0 hW _ _ hsz0 hL _ _
  have ht : CTab W := ctab_of_laid hL (by kernel_rfl)
  have hval : ∀ (j : Nat) t v, Tryd.f4.params[j]? = some t → args[j]? = some v → Value.okWide Tryd.prog W .any base t v := hval0
  have hW' := hW
  obtain ⟨p, q, hA0, hV, rfl, hfz, hnd⟩ := hW
  have hA : DataW.TrodAll enc Tryd.prog W 0 (fun _ => true) true Tryd.f4.params.toList args.toList ds p := hA0
  rw [Tryd.params4] at hA hval
  obtain ⟨v0, vs0, d0, ds0, p0, q0, hargs, rfl, rfl, h0, r0⟩ := trodAll_cons hA
  obtain ⟨v1, vs1, d1, ds1, p1, q1, rfl, rfl, rfl, h1, r1⟩ := trodAll_cons r0
  obtain ⟨v2, vs2, d2, ds2, p2, q2, rfl, rfl, rfl, h2, r2⟩ := trodAll_cons r1
  obtain ⟨rfl, rfl, rfl⟩ := trodAll_nil r2
  obtain rfl : args = #[v0, v1, v2] := by cases args; simp_all
  obtain ⟨rfl, rfl⟩ := trodVars_none hV
  obtain ⟨a0, l0, c0, rfl⟩ := okWide_slice Tryd.underlying22 (hval 0 22 v0 rfl rfl)
  have k0 := h0
  have lt0 : ∀ x ∈ p0, x.block < W.heap.size := by obtain ⟨m, hm⟩ := k0; exact DataW.trod_lt m _ _ _ hm
  obtain ⟨zs0, hzl0, hl0, hT0⟩ := pss_of k0
  subst hzl0
  obtain ⟨a1, l1, c1, rfl⟩ := okWide_slice Tryd.underlying23 (hval 1 23 v1 rfl rfl)
  have k1 := h1
  have lt1 : ∀ x ∈ p1, x.block < W.heap.size := by obtain ⟨m, hm⟩ := k1; exact DataW.trod_lt m _ _ _ hm
  obtain ⟨zs1, hzl1, hl1, hT1⟩ := jputs_of k1
  subst hzl1
  obtain ⟨a2, rfl, rfl, rfl, w2⟩ := open_int Tryd.underlying5 (hval 2 5 v2 rfl rfl) h2
  clear hA0 hval0 hsz0
  simp only [List.append_nil] at hW'
  refine (journalNothing_walk headW headR a0 c0 zs0 a1 c1 zs1 a2 w2 W hl0 hT0 hl1 hT1 ht).mono fun e W' ⟨he, hg⟩ => ?_
  subst he
  exact ⟨_, rfl, _, _, _, [], _, [], hW', trodAll_mk1 (shut_bool Tryd.underlying4 _), (trodAll_cons_mk (Below.trod laidOut (by kernel_rfl) (of_decide_eq_true (by kernel_rfl)) k0 hg lt0) (trodAll_cons_mk (Below.trod laidOut (by kernel_rfl) (of_decide_eq_true (by kernel_rfl)) k1 hg lt1) (trodAll_cons_mk (shut_int Tryd.underlying5 w2) trodAll_mk0))), rfl, hg.frame _, fun h => by cases h⟩

theorem over : Rows.JournalNothingSaid :=
  OpenClaim.holds_of_cond 4 Tryd.f4 rfl rfl rfl rfl rfl rfl rfl ⟨rfl, rfl, rfl, rfl, rfl⟩ rfl rfl rfl rfl rfl (by kernel_rfl) Tryd.func4 (by kernel_rfl)
    (of_decide_eq_true (by kernel_rfl)) (by unfold Func.isWrapper; first | (rw [if_pos (by decide +kernel)]; kernel_rfl) | (rw [if_neg (by decide +kernel)]; exact ⟨rfl, rfl⟩))
    (fun os started H enc _ F => by rw [OpenClaim.pre_eq_preRow]; exact lifted os started H enc F)

theorem proved : Rows.JournalNothingCardSaid :=
  Claim7.holds_tied_plain_at .later [] [.data] true Rows.journalNothingCard.stood.harness true
    over (fun _ h => by cases h) (by kernel_rfl) (fun _ h => by cases h) journalNothing_row_tie rfl ⟨rfl, rfl⟩ (by kernel_rfl) rfl
    (fun f fn hf hfn => by
      obtain rfl : f = 4 := Option.some.inj ((show Tryd.prog.funcNamed Rows.journalNothingRow.func = some 4 by kernel_rfl).symm.trans hf) |>.symm
      obtain rfl : fn = Tryd.f4 := (Option.some.inj (Tryd.func4.symm.trans hfn)).symm
      exact ⟨by kernel_rfl, fun j t ht => by
        rw [Tryd.params4] at ht
        rcases j with _ | j
        · have : t = 22 := by simpa using ht.symm
          subst this
          exact (show Tryd.prog.wantsStandIn 22 = false by kernel_rfl)
        rcases j with _ | j
        · have : t = 23 := by simpa using ht.symm
          subst this
          exact (show Tryd.prog.wantsStandIn 23 = false by kernel_rfl)
        rcases j with _ | j
        · have : t = 5 := by simpa using ht.symm
          subst this
          exact (show Tryd.prog.wantsStandIn 5 = false by kernel_rfl)
        simp at ht⟩)
    (by kernel_rfl)
#print axioms proved
end Go.Proofs.YtjllpbckmioiiaaDoor.journalNothing


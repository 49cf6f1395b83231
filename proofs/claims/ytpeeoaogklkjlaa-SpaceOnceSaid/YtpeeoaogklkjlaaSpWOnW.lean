/- The walk of SpaceOnce: the program's part. -/
import Derived.Test.YtpeeoaogklkjlaaSpWOn
namespace Go.Proofs.Ytpeeoaogklkjlaa.sp
open Go Go.RowKit Go.ChangeShapes Go.WideShapes Go.Proofs.Ytpeeoaogklkjlaa.ib
set_option maxRecDepth 100000

theorem sCounts_400 (zss : List (List Int)) : (sCounts zss 400 = ([], 2)) ∨ ∃ cs, sCounts zss 400 = (cs, 0) ∧ cs.length = 400 := by
  unfold sCounts
  rw [if_neg (by omega)]
  cases h : cnts 400 (List.replicate (400 : Int).toNat 0) zss.flatten with
  | none => exact .inl rfl
  | some cs => exact .inr ⟨cs, rfl, by rw [cnts_len h]; rfl⟩
theorem sTake_cases (cs : List Int) (n : Int) : (n < 0 ∧ sTake cs n = ([], 2)) ∨ (¬ n < 0 ∧ sTake cs n = ([], 7)) ∨ ∃ m : Nat, n = (m : Int) ∧ m ≤ sFree cs ∧ sTake cs n = ((frees cs cs.length).take m, 0) := by
  unfold sTake
  by_cases h : n < 0
  · exact .inl ⟨h, if_pos h⟩
  · rw [if_neg h]
    by_cases h2 : (sFree cs : Int) < n
    · exact .inr (.inl ⟨h, if_pos h2⟩)
    · exact .inr (.inr ⟨n.toNat, by omega, by omega, if_neg h2⟩)

theorem rise_at {tl : List Int} (h : ∀ i (h : i + 1 < tl.length), tl[i]'(by omega) < tl[i + 1]) {k q : Nat} (hq : k = q + 1) (hk : k < tl.length) (hql : q < tl.length) : tl[q] < tl[k] := by
  subst hq
  exact h q hk

set_option maxHeartbeats 6400000 in
theorem spaceOnce_walk (HC : HCounts) (HT : HTake) (HF : HFree) (A : Option Addr) (c : Nat) (zss : List (List Int)) (n : Int) (hn : (Lit.int .i64 n).wf = true) (w : World) (hl24 : zss.length * 24 ≤ 140737488351232) (hnil : A = none → zss.length = 0 ∧ c = 0) (hT : ImsAt w A zss) :
    Calls Try.prog 5 #[.slice A zss.length c, .int .i64 n] w (okB true w) := by
  have hnb : i64B n := bounds_i64 hn
  have hl : zss.length ≤ 9223372036854775807 := by omega
  obtain ⟨i0, hi, hz0, hz1, hz2⟩ := info_parts infoSl
  have HHC := Lib.hid HC
  have HHT := Lib.hid HT
  have HHF := Lib.hid HF
  have HT0 := Lib.hid hT
  have HNIL := Lib.hid hnil
  have HNB := Lib.hid hnb
  have HW := Lib.hid (fun W => works_any HC HT HF W)
  clear hT HC HT HF hnil hn hnb
  go_enter Try.func5, Try.ntmps5
  go_wp2_with fail
  refine (HW.out w).mono ?_
  rintro e W0 ⟨rfl, b⟩
  have B0 := Lib.hid b
  clear b
  go_wp2_with fail
  have hcall := HHC.out A c zss 400 W0 (HT0.out.below B0.out) hl (by unfold i64B; omega)
  rcases sCounts_400 zss with hr | ⟨cl, hr, hcl⟩
  · rw [hr] at hcall
    refine hcall.mono ?_
    clear hcall hr
    rintro e W1 ⟨A1, c1, rfl, _, b, _, _⟩
    have B1 := Lib.hid (below_step B0.out b)
    clear b
    dsimp only
    go_wp2_with fail
    go_ret
    exact ⟨rfl, B1.out⟩
  have HR := Lib.hid hr
  have HCL := Lib.hid hcl
  rw [hr] at hcall
  refine hcall.mono ?_
  clear hcall hr hcl
  rintro e W1 ⟨A1, c1, rfl, hI1, b, _, _⟩
  have HI1 := Lib.hid hI1
  have B1 := Lib.hid (below_step B0.out b)
  clear b hI1 B0
  dsimp only
  go_wp2_with fail
  have hcall := HHT.out A1 c1 cl n W1 HI1.out (by rw [HCL.out]; decide) HNB.out
  rcases sTake_cases cl n with ⟨hneg, hr⟩ | ⟨hneg, hr⟩ | ⟨m, rfl, hm, hr⟩
  · rw [hr] at hcall
    refine hcall.mono ?_
    clear hcall hr
    rintro e W2 ⟨A2, c2, rfl, _, b, _, _⟩
    have B2 := Lib.hid (below_step B1.out b)
    clear b
    dsimp only
    go_wp2_with fail
    go_ret
    exact ⟨rfl, B2.out⟩
  · rw [hr] at hcall
    refine hcall.mono ?_
    clear hcall hr
    rintro e W2 ⟨A2, c2, rfl, _, b, _, _⟩
    have B2 := Lib.hid (below_step B1.out b)
    clear b
    dsimp only
    go_wp2_with fail
    go_ret
    exact ⟨rfl, B2.out⟩
  have hf400 : sFree cl = (frees cl 400).length := by unfold sFree; rw [HCL.out]
  have hm207 : m ≤ 400 := by have := frees_len cl 400; omega
  have hlen' : ((frees cl cl.length).take m).length = m := by
    rw [List.length_take]
    unfold sFree at hm
    omega
  have hat : ∀ k, k < 400 → 193 ≤ k → cl.getD k 0 = 0 → (frees cl k).length < m → ((frees cl cl.length).take m)[(frees cl k).length]? = some (k : Int) := by
    intro k h1 h2 h3 h4
    rw [List.getElem?_take, if_pos h4]
    exact frees_at cl (by rw [HCL.out]; exact h1) h2 h3
  obtain ⟨tl, htl, hat0, hrise, hmr, hnx, hlen⟩ : ∃ tl, (frees cl cl.length).take m = tl ∧ (∀ i (h : i < tl.length), ∃ j : Nat, tl[i] = (j : Int) ∧ 193 ≤ j ∧ j < cl.length ∧ cl[j]? = some 0) ∧
      (∀ i (h : i + 1 < tl.length), tl[i]'(by omega) < tl[i + 1]) ∧ (∃ ds, sCounts (zss ++ [tl]) 400 = (ds, 0) ∧ (sFree ds : Int) = (sFree cl : Int) - (m : Int)) ∧
      (∀ k, k < 400 → 193 ≤ k → cl.getD k 0 = 0 → (frees cl k).length < m → tl[(frees cl k).length]? = some (k : Int)) ∧ tl.length = m :=
    ⟨_, rfl, fun i h => taken_at h, fun i h => taken_rise h, taken_more HR.out HCL.out hm, hat, hlen'⟩
  rw [htl] at hr
  rw [hr] at hcall
  refine hcall.mono ?_
  have HAT := Lib.hid hat0
  have HRI := Lib.hid hrise
  have HMO := Lib.hid hmr
  have HNX := Lib.hid hnx
  have HLEN := Lib.hid hlen
  have HSF := Lib.hid hf400
  clear hcall hr hat hlen' htl hat0 hrise hmr hnx hf400 hlen
  rintro e W2 ⟨A2, c2, rfl, hI2, b, _, _⟩
  have HI2 := Lib.hid hI2
  have HI1' := Lib.hid (HI1.out.below b)
  have B2 := Lib.hid (below_step B1.out b)
  clear b hI2 HI1 B1
  dsimp only
  rw [HLEN.out]
  have hmm : ((m : Int) != (m : Int)) = false := by simp
  go_wp2_with fail
  go_loopw [9] (fun i wr => OnRel1 W2 m i wr) (fun i _ => m - (intOf i).toNat)
  case atStart => exact ⟨0, Nat.zero_le _, rfl, Below.refl _ _⟩
  case round =>
    obtain ⟨k, hk, rfl, hb⟩ := hrel
    have HB := Lib.hid hb
    by_cases hlt : k < m
    · have hklt : (k : Int) < (m : Int) := by omega
      have hkl : k < tl.length := by rw [HLEN.out]; exact hlt
      obtain ⟨j, hj, hj193, hjl, hj0⟩ := HAT.out k hkl
      have hI2 := HI2.out.below hb
      have hI1 := HI1'.out.below hb
      obtain ⟨b2, o2, rfl, hbl2, hc2, -⟩ := hI2 k hkl
      rw [hj] at hc2
      obtain ⟨b1, o1, rfl, hbl1, -, -⟩ := hI1 j hjl
      have hc1 := cell_of (i := j) hI1 hj0
      have hjlc : (j : Int) < (cl.length : Int) := by omega
      have hjl4 : (j : Int) < 400 := by rw [HCL.out] at hjl; omega
      have hjn : j < 400 := by omega
      have HD : Hid (decide ((j : Int) < 193) = false ∧ decide ((400 : Int) ≤ (j : Int)) = false) := ⟨decide_eq_false (by omega), decide_eq_false (by omega)⟩
      have hz : ((0 : Int) != 0) = false := by simp
      by_cases hk00 : k = 0
      · have hk0 : ¬ (0 : Int) < (k : Int) := by omega
        have HK0 : Hid (decide ((0 : Int) < (k : Int)) = false ∧ decide (0 < k) = false ∧ ¬ 0 < k) := ⟨decide_eq_false hk0, decide_eq_false (by omega), by omega⟩
        clear hI1 hI2 hj hj0 hb hkl hk00 hk0
        go_wp2_with fail
        have g2 := HK0.out.2.1
        obtain ⟨d1, d2⟩ := HD.out
        go_quiet (fail)
        go_wp2_with fail
        go_roundw
        case rel => exact ⟨k + 1, by omega, by go_num, by first | exact HB.out | exact ⟨HB.out.os, HB.out.tape, HB.out.output, HB.out.size, HB.out.block⟩⟩
        case measure => simp [intOf]; omega
      · have hk0 : (0 : Int) < (k : Int) := by omega
        obtain ⟨q, hq⟩ : ∃ q, k = q + 1 := ⟨k - 1, by omega⟩
        have hql : q < tl.length := by omega
        obtain ⟨b2', o2', e2', -, hc2', -⟩ := hI2 q hql
        simp only [Option.some.injEq, Addr.mk.injEq, and_true] at e2'
        obtain ⟨rfl, rfl⟩ := e2'
        have hris : tl[q] < tl[k] := rise_at HRI.out hq hkl hql
        rw [hj] at hris
        have hsub : (k : Int) - 1 = (q : Int) := by omega
        obtain ⟨j', hj', -, hjl', -⟩ := HAT.out q hql
        rw [hj'] at hc2' hris
        have HLE : Hid (decide (j ≤ j') = false) := decide_eq_false (by omega)
        have hqm : (q : Int) < (m : Int) := by omega
        have hqm2 : q < m := by omega
        have HK0 : Hid (decide ((0 : Int) < (k : Int)) = true ∧ decide (0 < k) = true ∧ 0 < k ∧ (0 : Int) < (k : Int)) := ⟨decide_eq_true hk0, decide_eq_true (by omega), by omega, hk0⟩
        clear hI1 hI2 hj hj0 hb hkl hql hris hj' hjl' hq hk00 hk0
        go_wp2_with fail
        have g2 := HK0.out.2.1
        obtain ⟨d1, d2⟩ := HD.out
        have d3 := HLE.out
        go_quiet (fail)
        go_wp2_with fail
        go_roundw
        case rel => exact ⟨k + 1, by omega, by go_num, by first | exact HB.out | exact ⟨HB.out.os, HB.out.tape, HB.out.output, HB.out.size, HB.out.block⟩⟩
        case measure => simp [intOf]; omega
    · have hklt : ¬ (k : Int) < (m : Int) := by omega
      obtain ⟨Z0, h0⟩ : ∃ x, x = wr := ⟨_, rfl⟩
      subst h0
      have HI1z := Lib.hid (HI1'.out.below hb)
      have HI2z := Lib.hid (HI2.out.below hb)
      have BZ := Lib.hid (below_step B2.out hb)
      clear hb HB hk hlt HI1' HI2
      go_wp2_with fail
      go_loopw [10, 11] (fun f i wr => OnRel2 cl Z0 f i wr) (fun _ i _ => 400 - (intOf i).toNat)
      case atStart => exact ⟨193, by omega, by omega, rfl, by rw [frees_low cl 193 (by omega)]; rfl, Below.refl _ _⟩
      case round =>
        obtain ⟨q, hq1, hq4, rfl, rfl, hb⟩ := hrel
        have HB := Lib.hid hb
        have hfl := frees_len cl q
        by_cases hlt : q < 400
        · have hqlt : (q : Int) < 400 := by omega
          have hqc : q < cl.length := by rw [HCL.out]; exact hlt
          have hqci : (q : Int) < (cl.length : Int) := by omega
          obtain ⟨b1, o1, rfl, hbl1, hc1, -⟩ := (HI1z.out.below hb) q hqc
          have hs := frees_succ_len' cl q hq1
          have hg : cl.getD q 0 = cl[q] := by simp [List.getD, hqc]
          have hnx := HNX.out q hlt hq1
          rw [hg] at hs hnx
          have HS := Lib.hid hs
          have HN := Lib.hid hnx
          clear hs hg hnx
          generalize cl[q] = x at *
          by_cases hx : x = 0
          · subst hx
            have hs := HS.out
            rw [if_pos rfl] at hs
            have HS2 := Lib.hid hs
            clear hs
            by_cases hfm : (frees cl q).length < m
            · have hfmi : ((frees cl q).length : Int) < (m : Int) := by omega
              have ht := HN.out rfl hfm
              obtain ⟨hft, htq⟩ := List.getElem?_eq_some_iff.1 ht
              obtain ⟨b2, o2, rfl, hbl2, hc2, -⟩ := (HI2z.out.below hb) _ hft
              rw [htq] at hc2
              have hqq : ((q : Int) != (q : Int)) = false := by simp
              clear ht hft htq hb
              generalize hff : (frees cl q).length = f at *
              go_wp2_with fail
              go_roundw
              case rel => exact ⟨q + 1, by omega, by omega, by go_num, by rw [HS2.out]; go_num, HB.out⟩
              case measure => simp [intOf]; omega
            · have hfmi : ¬ ((frees cl q).length : Int) < (m : Int) := by omega
              clear hb
              generalize hff : (frees cl q).length = f at *
              go_wp2_with fail
              go_roundw
              case rel => exact ⟨q + 1, by omega, by omega, by go_num, by rw [HS2.out]; go_num, HB.out⟩
              case measure => simp [intOf]; omega
          · have hs := HS.out
            rw [if_neg hx] at hs
            have HS2 := Lib.hid hs
            have hxb : (x == 0) = false := by simpa using hx
            clear hs hb
            go_wp2_with fail
            go_roundw
            case rel => exact ⟨q + 1, by omega, by omega, by go_num, by rw [HS2.out, Nat.add_zero], HB.out⟩
            case measure => simp [intOf]; omega
        · have hqlt : ¬ (q : Int) < 400 := by omega
          have hfe : (frees cl q).length = sFree cl := by rw [HSF.out, show q = 400 by omega]
          rw [hfe]
          have HI1y := Lib.hid (HI1z.out.below hb)
          have HI2y := Lib.hid (HI2z.out.below hb)
          have BY := Lib.hid (below_step BZ.out hb)
          have hmf : m ≤ sFree cl := hm
          obtain ⟨Y0, h0⟩ : ∃ x, x = wr := ⟨_, rfl⟩
          subst h0
          clear hb HB hq1 hq4 hlt hfl hfe HI1z HI2z BZ
          obtain ⟨fr, hfr⟩ : ∃ f, sFree cl = f := ⟨_, rfl⟩
          rw [hfr] at hmf ⊢
          have HFRE := Lib.hid hfr
          have HTY := HT0.out.below BY.out
          obtain ⟨vs, hvs, hcell⟩ := ImsAt.vals HTY
          have hvl : vs.length = zss.length := hvs.1
          have hnews : ∀ ad, A = some ad → ∀ j u, vs[j]? = some u → Y0.cell? (ad.add j) = some u := by
            intro ad hA j u hj
            have hjl := (List.getElem?_eq_some_iff.1 hj).1
            obtain ⟨b, o, _, _, h1, _⟩ := HTY 0 (by omega)
            rw [hA] at h1
            obtain rfl : ad = ⟨b, o, none⟩ := Option.some.inj h1
            rw [addr_add]
            exact hcell b o hA j u hj
          have HVS := Lib.hid hvs
          have HNEWS := Lib.hid hnews
          have HVONE := Lib.hid hvs.one
          have hown0 : OImgs Y0 Y0.heap.size (.slice none 0 0) [] := World.ownsRow_nil _ _ _ _
          have H0 := Lib.hid hown0
          clear hfr HTY hvs hcell hnews hown0
          cases hA : A with
          | none =>
            subst hA
            obtain ⟨hz, rfl⟩ := HNIL.out rfl
            have hvs0 : vs = [] := List.eq_nil_of_length_eq_zero (by omega)
            have HOI : Hid (OImgs Y0 Y0.heap.size (.slice none 0 0) vs) := by
              unfold Hid
              rw [hvs0]
              exact H0.out
            have hz0l : zss = [] := List.eq_nil_of_length_eq_zero hz
            rw [hz]
            clear hvs0
            have hown2 := World.ownsRow.alloc (show Y0.ownsRow Y0.heap.size 23 1 _ vs.length vs from HOI.out) (.cells #[.slice A2 m c2] 23)
            have HO2 := Lib.hid hown2
            have HNW : Hid (∀ (j : Nat) (u : Value), ([.slice A2 m c2] : List Value)[j]? = some u → (Y0.alloc (.cells #[.slice A2 m c2] 23)).cell? ((⟨Y0.heap.size, 0, none⟩ : Addr).add j) = some u) := by
              intro j u hj
              match j, hj with
              | 0, hj =>
                simp at hj
                subst hj
                rw [addr_add]
                exact (Blk.new Y0 23 #[.slice A2 m c2]).cell 0
            have HONE : Hid (∀ u ∈ ([.slice A2 m c2] : List Value), u.oneCell' = true) := by
              intro u hu
              simp at hu
              subst hu
              rfl
            have HB3 := Lib.hid ((Below.refl Y0.heap.size Y0).alloc (Below.refl Y0.heap.size Y0).size (.cells #[.slice A2 m c2] 23))
            clear hown2
            go_wp2_with (first | (at_builtin; refine wpList_append_own_none rfl (.tmp 114) (.tmp 115) 22 rfl Y0.heap.size 23 i0 1 Try.underlying22 hi _ 0 [] rfl H0.out rfl ?_) | (at_builtin; refine wpList_append_own _ rfl (.tmp 117) (.tmp 119) 22 rfl Y0.heap.size 23 i0 (.slice none 0 0) 1 24 Try.underlying22 hi hz0 hz1 hz2 rfl (by decide) _ vs.length _ rfl HO2.out ⟨Y0.heap.size, 0, none⟩ 1 1 [.slice A2 m c2] rfl rfl HNW.out HONE.out ?_ ?_ HB3.out.size ?_))
            · unfold maxLen; omega
            · intro v2 Y2 hown3 hgrow _
              have hb2 := HB3.out.grown hgrow HB3.out.size (fun j hj => (HO2.out.lt j hj).1)
              have hvv : Vals Y2 (vs ++ [.slice A2 m c2]) (zss ++ [tl]) := (HVS.out.below hb2).snoc ⟨A2, c2, by rw [HLEN.out], HI2y.out.below hb2, by rw [HLEN.out]; omega⟩
              have hoo : OImgs Y2 Y0.heap.size v2 (vs ++ [.slice A2 m c2]) := by
                unfold OImgs
                rw [List.length_append]
                rw [show vs.length = 0 by omega]
                exact hown3
              obtain ⟨A9, c9, hv9, him⟩ := OImgs.view hoo hvv
              obtain ⟨N9, hN9⟩ : ∃ N, (zss ++ [tl]).length = N := ⟨_, rfl⟩
              have hcall := HHC.out A9 c9 (zss ++ [tl]) 400 Y2 him (by simp only [List.length_append, List.length_cons, List.length_nil]; omega) (by unfold i64B; omega)
              rw [hN9] at hv9 hcall
              subst hv9
              have HCALL := Lib.hid hcall
              have HI1e := Lib.hid (HI1y.out.below hb2)
              have HBE := Lib.hid (below_step BY.out hb2)
              clear hcall hN9 hown3 hgrow hb2 hvv him hoo HVS HI2y HI1y BY HO2 HNW HONE HB3 HOI
              go_wp2_with fail
              have hcall := HCALL.out
              obtain ⟨ds, hds, hfs⟩ := HMO.out
              have HDL2 : Hid (ds.length ≤ 1024) := by
                have := sCounts_len (zss ++ [tl]) 400
                rw [hds] at this
                exact this
              have HDL : Hid (ds.length ≤ 9223372036854775807) := by
                have := sCounts_len (zss ++ [tl]) 400
                rw [hds] at this
                exact Nat.le_trans this (by decide)
              rw [hds] at hcall
              refine hcall.mono ?_
              clear hcall hds
              rintro e Y3 ⟨A10, c10, rfl, hI10, b, _, _⟩
              have HI10 := Lib.hid hI10
              have HI1f := Lib.hid (HI1e.out.below b)
              have BF := Lib.hid (below_step HBE.out b)
              clear b hI10 HI1e HCALL
              dsimp only
              obtain ⟨g, hg⟩ : ∃ g, sFree ds = g := ⟨_, rfl⟩
              rw [hg, HFRE.out] at hfs
              have hsub : (fr : Int) - (m : Int) = (g : Int) := hfs.symm
              have hgb : (g : Int) ≤ 1024 := by
                have h1 := frees_len ds ds.length
                have h2 := HDL2.out
                unfold sFree at hg
                omega
              have HG := Lib.hid hg
              have hfq : ((fr : Int) == (fr : Int)) = true := by simp
              have hgq : ((g : Int) == (g : Int)) = true := by simp
              have hfc := HHF.out A1 c1 cl Y3 HI1f.out (by rw [HCL.out]; decide)
              rw [HFRE.out] at hfc
              have HFC := Lib.hid hfc
              clear hfc hfs hg
              go_wp2_with fail
              refine HFC.out.mono ?_
              rintro e Y4 ⟨rfl, b⟩
              have BG := Lib.hid (below_step BF.out b)
              have hfc := HHF.out A10 c10 ds Y4 (HI10.out.below b) HDL.out
              rw [HG.out] at hfc
              have HFC2 := Lib.hid hfc
              clear b hfc HFC
              go_wp2_with fail
              refine HFC2.out.mono ?_
              rintro e Y5 ⟨rfl, b⟩
              have BH := Lib.hid (below_step BG.out b)
              clear b HFC2
              go_wp2_with fail
              go_ret
              exact ⟨rfl, BH.out⟩
          | some ad =>
            subst hA
            go_wp2_with (at_builtin; refine wpList_append_own _ rfl (.tmp 114) (.tmp 115) 22 rfl Y0.heap.size 23 i0 (.slice none 0 0) 1 24 Try.underlying22 hi hz0 hz1 hz2 rfl (by decide) _ 0 [] rfl H0.out ad zss.length c vs rfl (by omega) (HNEWS.out ad rfl) HVONE.out ?_ ?_ (Nat.le_refl _) ?_)
            · unfold maxLen; omega
            · omega
            · intro v1 Y1 hown1 hgrow1 _
              have hb1 := (Below.refl Y0.heap.size Y0).grown hgrow1 (Nat.le_refl _) (fun j hj => (H0.out.lt j hj).1)
              have HOI : Hid (OImgs Y1 Y0.heap.size v1 vs) := by
                unfold Hid OImgs
                rw [hvl]
                simpa using hown1
              have HB1 := Lib.hid hb1
              have HVS1 := Lib.hid (HVS.out.below hb1)
              have HI2y1 := Lib.hid (HI2y.out.below hb1)
              have HI1y1 := Lib.hid (HI1y.out.below hb1)
              have BY1 := Lib.hid (below_step BY.out hb1)
              clear hown1 hgrow1 hb1
              have hown2 := World.ownsRow.alloc (show Y1.ownsRow Y0.heap.size 23 1 _ vs.length vs from HOI.out) (.cells #[.slice A2 m c2] 23)
              have HO2 := Lib.hid hown2
              have HNW : Hid (∀ (j : Nat) (u : Value), ([.slice A2 m c2] : List Value)[j]? = some u → (Y1.alloc (.cells #[.slice A2 m c2] 23)).cell? ((⟨Y1.heap.size, 0, none⟩ : Addr).add j) = some u) := by
                intro j u hj
                match j, hj with
                | 0, hj =>
                  simp at hj
                  subst hj
                  rw [addr_add]
                  exact (Blk.new Y1 23 #[.slice A2 m c2]).cell 0
              have HONE : Hid (∀ u ∈ ([.slice A2 m c2] : List Value), u.oneCell' = true) := by
                intro u hu
                simp at hu
                subst hu
                rfl
              have HB3 := Lib.hid (HB1.out.alloc HB1.out.size (.cells #[.slice A2 m c2] 23))
              clear hown2
              go_wp2_with (at_builtin; refine wpList_append_own _ rfl (.tmp 117) (.tmp 119) 22 rfl Y0.heap.size 23 i0 (.slice none 0 0) 1 24 Try.underlying22 hi hz0 hz1 hz2 rfl (by decide) _ vs.length _ rfl HO2.out ⟨Y1.heap.size, 0, none⟩ 1 1 [.slice A2 m c2] rfl rfl HNW.out HONE.out ?_ ?_ HB3.out.size ?_)
              · unfold maxLen; omega
              · omega
              · intro v2 Y2 hown3 hgrow _
                have hb2 := HB3.out.grown hgrow HB3.out.size (fun j hj => (HO2.out.lt j hj).1)
                have hvv : Vals Y2 (vs ++ [.slice A2 m c2]) (zss ++ [tl]) := (HVS.out.below hb2).snoc ⟨A2, c2, by rw [HLEN.out], HI2y.out.below hb2, by rw [HLEN.out]; omega⟩
                have hoo : OImgs Y2 Y0.heap.size v2 (vs ++ [.slice A2 m c2]) := by
                  unfold OImgs
                  rw [List.length_append]
                  rw [hvl]
                  exact hown3
                obtain ⟨A9, c9, hv9, him⟩ := OImgs.view hoo hvv
                obtain ⟨N9, hN9⟩ : ∃ N, (zss ++ [tl]).length = N := ⟨_, rfl⟩
                have hcall := HHC.out A9 c9 (zss ++ [tl]) 400 Y2 him (by simp only [List.length_append, List.length_cons, List.length_nil]; omega) (by unfold i64B; omega)
                rw [hN9] at hv9 hcall
                subst hv9
                have HCALL := Lib.hid hcall
                have HI1e := Lib.hid (HI1y.out.below hb2)
                have HBE := Lib.hid (below_step BY.out hb2)
                clear hcall hN9 hown3 hgrow hb2 hvv him hoo HVS HI2y HI1y BY HO2 HNW HONE HB3 HOI
                go_wp2_with fail
                have hcall := HCALL.out
                obtain ⟨ds, hds, hfs⟩ := HMO.out
                have HDL2 : Hid (ds.length ≤ 1024) := by
                  have := sCounts_len (zss ++ [tl]) 400
                  rw [hds] at this
                  exact this
                have HDL : Hid (ds.length ≤ 9223372036854775807) := by
                  have := sCounts_len (zss ++ [tl]) 400
                  rw [hds] at this
                  exact Nat.le_trans this (by decide)
                rw [hds] at hcall
                refine hcall.mono ?_
                clear hcall hds
                rintro e Y3 ⟨A10, c10, rfl, hI10, b, _, _⟩
                have HI10 := Lib.hid hI10
                have HI1f := Lib.hid (HI1e.out.below b)
                have BF := Lib.hid (below_step HBE.out b)
                clear b hI10 HI1e HCALL
                dsimp only
                obtain ⟨g, hg⟩ : ∃ g, sFree ds = g := ⟨_, rfl⟩
                rw [hg, HFRE.out] at hfs
                have hsub : (fr : Int) - (m : Int) = (g : Int) := hfs.symm
                have hgb : (g : Int) ≤ 1024 := by
                  have h1 := frees_len ds ds.length
                  have h2 := HDL2.out
                  unfold sFree at hg
                  omega
                have HG := Lib.hid hg
                have hfq : ((fr : Int) == (fr : Int)) = true := by simp
                have hgq : ((g : Int) == (g : Int)) = true := by simp
                have hfc := HHF.out A1 c1 cl Y3 HI1f.out (by rw [HCL.out]; decide)
                rw [HFRE.out] at hfc
                have HFC := Lib.hid hfc
                clear hfc hfs hg
                go_wp2_with fail
                refine HFC.out.mono ?_
                rintro e Y4 ⟨rfl, b⟩
                have BG := Lib.hid (below_step BF.out b)
                have hfc := HHF.out A10 c10 ds Y4 (HI10.out.below b) HDL.out
                rw [HG.out] at hfc
                have HFC2 := Lib.hid hfc
                clear b hfc HFC
                go_wp2_with fail
                refine HFC2.out.mono ?_
                rintro e Y5 ⟨rfl, b⟩
                have BH := Lib.hid (below_step BG.out b)
                clear b HFC2
                go_wp2_with fail
                go_ret
                exact ⟨rfl, BH.out⟩
end Go.Proofs.Ytpeeoaogklkjlaa.sp

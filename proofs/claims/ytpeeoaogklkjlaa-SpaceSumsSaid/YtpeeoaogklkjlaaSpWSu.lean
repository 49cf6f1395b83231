/- The walk of SpaceSums. -/
import Derived.Test.YtpeeoaogklkjlaaSpW1
namespace Go.Proofs.Ytpeeoaogklkjlaa.sp
open Go Go.RowKit Go.ChangeShapes Go.WideShapes Go.Proofs.Ytpeeoaogklkjlaa.ib
set_option maxRecDepth 100000

theorem ImsAt.mem {w : World} {a : Option Addr} {zss : List (List Int)} (h : ImsAt w a zss) : ∀ z ∈ zss.flatten, i64B z := by
  intro z hz
  obtain ⟨l, hl, hzl⟩ := List.mem_flatten.1 hz
  obtain ⟨i, hi, rfl⟩ := List.getElem_of_mem hl
  obtain ⟨_, _, _, _, _, _, _, h5, _⟩ := h i hi
  exact h5.mem z hzl

theorem flat_mem {zss : List (List Int)} {k : Nat} (h : k < zss.length) {P : Int → Prop} (hP : ∀ z ∈ zss.flatten, P z) (j : Nat) : ∀ z ∈ (zss.take k).flatten ++ zss[k].take j, P z := by
  intro z hz
  refine hP z ?_
  rcases List.mem_append.1 hz with h1 | h1
  · obtain ⟨l, hl, hzl⟩ := List.mem_flatten.1 h1
    exact List.mem_flatten.2 ⟨l, List.mem_of_mem_take hl, hzl⟩
  · exact List.mem_flatten.2 ⟨zss[k], List.getElem_mem h, List.mem_of_mem_take h1⟩

theorem ims_one {W : World} {a : Option Addr} {c : Nat} {zs : List Int} (h : IntsAt W a zs) (hl : zs.length ≤ 9223372036854775807) : ImsAt (W.alloc (.cells #[.slice a zs.length c] 23)) (some ⟨W.heap.size, 0, none⟩) [zs] := fun i hi => by
  obtain rfl : i = 0 := by simp at hi; exact hi
  exact ⟨W.heap.size, 0, a, c, rfl, by simp, (Blk.new W _ _).cell 0, h.below ((Below.refl _ _).alloc (Nat.le_refl _) _), hl⟩

theorem sCounts_flat (zss : List (List Int)) (n : Int) : sCounts [zss.flatten] n = sCounts zss n := by
  unfold sCounts
  rw [List.flatten_cons, List.flatten_nil, List.append_nil]

theorem sCounts_cases (zss : List (List Int)) : (sCounts zss 1024 = ([], 2)) ∨ ∃ cs, sCounts zss 1024 = (cs, 0) ∧ cnts 1024 (List.replicate 1024 0) zss.flatten = some cs := by
  unfold sCounts
  rw [if_neg (by omega)]
  cases h : cnts 1024 (List.replicate (1024 : Int).toNat 0) zss.flatten with
  | none => exact .inl rfl
  | some cs => exact .inr ⟨cs, rfl, h⟩

theorem sum_bound {M : Nat} : ∀ {cs : List Int}, bnd M cs → 0 ≤ cs.sum ∧ cs.sum ≤ (M : Int) * cs.length
  | [], _ => by simp
  | z :: r, h => by
    have h1 := h z (by simp)
    have h2 := sum_bound (cs := r) fun y hy => h y (by simp [hy])
    simp only [List.sum_cons, List.length_cons]
    have : (M : Int) * ((r.length + 1 : Nat) : Int) = (M : Int) * (r.length : Int) + M := by push_cast; rw [Int.mul_add, Int.mul_one]
    omega

def T5 (l : List Int) : List Int := l.take 100000
theorem T5_len (l : List Int) : (T5 l).length ≤ 100000 := by unfold T5; simp; omega
theorem T5_snoc {l : List Int} (h : (T5 l).length < 100000) (x : Int) : T5 (l ++ [x]) = T5 l ++ [x] := by
  unfold T5 at h ⊢
  have hl : l.length < 100000 := by simp at h; omega
  rw [List.take_of_length_le (by simp; omega), List.take_of_length_le (by omega)]
theorem T5_full {l : List Int} (h : 100000 ≤ (T5 l).length) (r : List Int) : T5 (l ++ r) = T5 l := by
  unfold T5 at h ⊢
  have hl : 100000 ≤ l.length := by simp at h; omega
  rw [List.take_append_of_le_length hl]
theorem T5_all {l : List Int} (h : (T5 l).length < 100000) : T5 l = l := by
  unfold T5 at h ⊢
  exact List.take_of_length_le (by simp at h; omega)
theorem T5_mem {l : List Int} {P : Int → Prop} (h : ∀ z ∈ l, P z) : ∀ z ∈ T5 l, P z := fun z hz => h z (List.mem_of_mem_take hz)

def SuOut (zss : List (List Int)) (w1 : World) (v p i : Value) (wr : World) : Prop :=
  ∃ k : Nat, k ≤ zss.length ∧ i = .int .i64 (k : Int) ∧ OInts wr w1.heap.size v (T5 (zss.take k).flatten) ∧ p = .int .i64 (nz (T5 (zss.take k).flatten) : Int) ∧ Below w1.heap.size w1 wr
def SuIn (pre zs : List Int) (w1 : World) (v p i : Value) (wr : World) : Prop :=
  ∃ j : Nat, j ≤ zs.length ∧ i = .int .i64 (j : Int) ∧ OInts wr w1.heap.size v (T5 (pre ++ zs.take j)) ∧ p = .int .i64 (nz (T5 (pre ++ zs.take j)) : Int) ∧ Below w1.heap.size w1 wr
def SumRel (cs : List Int) (w2 : World) (s i : Value) (wr : World) : Prop :=
  ∃ k : Nat, k ≤ cs.length ∧ i = .int .i64 (k : Int) ∧ s = .int .i64 (cs.take k).sum ∧ Below w2.heap.size w2 wr

set_option maxHeartbeats 6400000 in
theorem spaceSums_walk (HC : HCounts) (HT : HTake) (HF : HFree) (A : Option Addr) (c : Nat) (zss : List (List Int)) (w : World) (hl24 : zss.length * 24 ≤ 140737488351232) (hnil : A = none → zss.length = 0 ∧ c = 0) (hT : ImsAt w A zss) :
    Calls Try.prog 6 #[.slice A zss.length c] w (okB true w) := by
  have hl : zss.length ≤ 9223372036854775807 := by omega
  clear hl24 hnil
  obtain ⟨i0, hi, hz0, hz1, hz2⟩ := info_parts infoInt
  have HHC := Lib.hid HC
  have HT0 := Lib.hid hT
  have HMEM := Lib.hid (ImsAt.mem hT)
  have HW := Lib.hid (fun W => works_any HC HT HF W)
  clear hT HC HT HF
  go_enter Try.func6, Try.ntmps6
  go_wp2_with fail
  refine (HW.out w).mono ?_
  rintro e W0 ⟨rfl, b⟩
  have B0 := Lib.hid b
  clear b
  go_wp2_with fail
  have hcall := HHC.out A c zss 1024 W0 (HT0.out.below B0.out) hl (by unfold i64B; omega)
  have hlen := sCounts_len zss 1024
  have hcase := sCounts_cases zss
  have hflat := sCounts_flat zss 1024
  generalize sCounts zss 1024 = r at *
  obtain ⟨cl, ee⟩ := r
  have HCASE := Lib.hid hcase
  have HFLAT := Lib.hid hflat
  dsimp only at hlen
  refine hcall.mono ?_
  clear hcall hcase hflat
  rintro e W1 ⟨A1, c1, rfl, hI1, b, _, _⟩
  have HI1 := Lib.hid hI1
  have B1 := Lib.hid (below_step B0.out b)
  clear hI1 b B0
  dsimp only
  go_wp2_with fail
  go_loopw [5, 6, 7] (fun v p i wr => SuOut zss W1 v p i wr) (fun _ _ i _ => zss.length - (intOf i).toNat)
  case atStart => exact ⟨0, Nat.zero_le _, rfl, World.ownsRow_nil _ _ _ _, rfl, Below.refl _ _⟩
  case round =>
    obtain ⟨k, hk, rfl, ho, rfl, hb⟩ := hrel
    have HO := Lib.hid ho
    have HB := Lib.hid hb
    clear ho hb
    by_cases hlt : k < zss.length
    · have hklt : (k : Int) < (zss.length : Int) := by omega
      have HFT := Lib.hid (flat_take zss k hlt)
      have HFM := Lib.hid (fun j => flat_mem hlt HMEM.out j)
      obtain ⟨bz, oz, A3, c3, rfl, hbl, hc, hz, hzl⟩ := HT0.out k hlt
      have HZ := Lib.hid hz
      have HCZ := Lib.hid hc
      clear hz hc
      generalize hzs : zss[k] = zs at *
      clear hzs
      go_wp2_with fail
      obtain ⟨wo, hwo⟩ : ∃ x, x = wr := ⟨_, rfl⟩
      subst hwo
      go_loopw [5, 6, 8] (fun v p i wr => SuIn (zss.take k).flatten zs W1 v p i wr) (fun _ _ i _ => zs.length - (intOf i).toNat)
      case atStart => exact ⟨0, Nat.zero_le _, rfl, by rw [List.take_zero, List.append_nil]; exact HO.out, by rw [List.take_zero, List.append_nil], HB.out⟩
      case round =>
        clear HO HB
        obtain ⟨j, hj, rfl, ho, rfl, hb⟩ := hrel
        have HO := Lib.hid ho
        have HB := Lib.hid hb
        have BW := Lib.hid (below_step B1.out hb)
        have htl := T5_len ((zss.take k).flatten ++ zs.take j)
        have hnl := nz_len (T5 ((zss.take k).flatten ++ zs.take j))
        have ec : wr.cell? ⟨bz, oz + k, none⟩ = some (.slice A3 zs.length c3) := by rw [BW.out.cell (p := ⟨bz, oz + k, none⟩) hbl]; exact HCZ.out
        have lc : bz < wr.heap.size := Nat.lt_of_lt_of_le hbl BW.out.size
        have hmp : ∀ z ∈ T5 ((zss.take k).flatten ++ zs.take j), i64B z := T5_mem (HFM.out j)
        obtain ⟨a5, c5, rfl, _, _⟩ := ho.view hmp
        clear ho hb hmp
        by_cases hjl : j < zs.length
        · have hjlt : (j : Int) < (zs.length : Int) := by omega
          by_cases hfl : (T5 ((zss.take k).flatten ++ zs.take j)).length < 100000
          · obtain ⟨b1, o1, rfl, hbl1, hc1, hz1⟩ := HZ.out j hjl
            have e1 : wr.cell? ⟨b1, o1 + j, none⟩ = some (.int .i64 zs[j]) := by rw [BW.out.cell (p := ⟨b1, o1 + j, none⟩) hbl1]; exact hc1
            have l1 : b1 < wr.heap.size := Nat.lt_of_lt_of_le hbl1 BW.out.size
            have htk : zs.take (j + 1) = zs.take j ++ [zs[j]] := List.take_succ_eq_append_getElem hjl
            have hsn : T5 ((zss.take k).flatten ++ zs.take (j + 1)) = T5 ((zss.take k).flatten ++ zs.take j) ++ [zs[j]] := by rw [htk, ← List.append_assoc]; exact T5_snoc hfl _
            have HSN := Lib.hid hsn
            have HC1 := Lib.hid hc1
            clear hc1 htk hsn hz1
            generalize zs[j] = x at *
            generalize hP : T5 ((zss.take k).flatten ++ zs.take j) = P at *
            have hPl : (P.length : Int) < 100000 := by omega
            have hown2 := World.ownsRow.alloc (show wr.ownsRow W1.heap.size 3 1 _ P.length (P.map (Value.int .i64)) from HO.out) (.cells #[.int .i64 x] 3)
            have HO2 := Lib.hid hown2
            have HB2 := Lib.hid (HB.out.alloc HB.out.size (.cells #[.int .i64 x] 3))
            have HNW : Hid (∀ (j : Nat) (u : Value), ([.int .i64 x] : List Value)[j]? = some u → (wr.alloc (.cells #[.int .i64 x] 3)).cell? ((⟨wr.heap.size, 0, none⟩ : Addr).add j) = some u) := by
              intro j u hj
              match j, hj with
              | 0, hj =>
                simp at hj
                subst hj
                rw [addr_add]
                exact (Blk.new wr 3 #[.int .i64 x]).cell 0
            clear hown2
            go_wp2_with (at_builtin; refine wpList_append_own _ rfl (.tmp 40) (.tmp 48) 23 rfl W1.heap.size 3 i0 (.int .i64 0) 1 8 Try.underlying23 hi hz0 hz1 hz2 rfl (by decide) _ P.length _ rfl HO2.out ⟨wr.heap.size, 0, none⟩ 1 1 [.int .i64 x] rfl rfl HNW.out (int_one x) ?_ ?_ HB2.out.size ?_)
            · unfold maxLen; omega
            · omega
            · intro v' w2 hown1 hgrow _
              have hb1 := HB2.out.grown hgrow HB2.out.size (fun j hj => (HO2.out.lt j hj).1)
              have hos : OInts w2 W1.heap.size v' (P ++ [x]) := by
                unfold OInts
                rw [List.map_append, List.length_append]
                exact hown1
              have HOS := Lib.hid hos
              have HB3 := Lib.hid hb1
              have hbw := below_step B1.out hb1
              have ec : w2.cell? ⟨bz, oz + k, none⟩ = some (.slice (some ⟨b1, o1, none⟩) zs.length c3) := by rw [hbw.cell (p := ⟨bz, oz + k, none⟩) hbl]; exact HCZ.out
              have lc : bz < w2.heap.size := Nat.lt_of_lt_of_le hbl hbw.size
              have e1 : w2.cell? ⟨b1, o1 + j, none⟩ = some (.int .i64 x) := by rw [hbw.cell (p := ⟨b1, o1 + j, none⟩) hbl1]; exact HC1.out
              have l1 : b1 < w2.heap.size := Nat.lt_of_lt_of_le hbl1 hbw.size
              clear hb1 hos hown1 hgrow hbw
              by_cases hx : x = 0
              · subst hx
                have HN : Hid (nz (P ++ [0]) = nz P) := by unfold Hid; rw [nz_snoc, if_pos rfl]; rfl
                go_wp2_with fail
                go_roundw
                case rel => exact ⟨j + 1, by omega, by go_num, by rw [HSN.out]; exact HOS.out, by rw [HSN.out, HN.out], HB3.out⟩
                case measure => simp [intOf]; omega
              · have hxb2 : (x == 0) = false := by simpa using hx
                have hxb3 : (x != 0) = true := by simpa using hx
                have HN : Hid (nz (P ++ [x]) = nz P + 1) := by unfold Hid; rw [nz_snoc, if_neg hx]
                go_wp2_with fail
                go_roundw
                case rel => exact ⟨j + 1, by omega, by go_num, by rw [HSN.out]; exact HOS.out, by rw [HSN.out, HN.out]; go_num, HB3.out⟩
                case measure => simp [intOf]; omega
          · have hPl : ¬ ((T5 ((zss.take k).flatten ++ zs.take j)).length : Int) < 100000 := by omega
            have hend : T5 (zss.take (k + 1)).flatten = T5 ((zss.take k).flatten ++ zs.take j) := by
              rw [HFT.out]
              have := T5_full (l := (zss.take k).flatten ++ zs.take j) (by omega) (zs.drop j)
              rw [← this, List.append_assoc, List.take_append_drop]
            have HE := Lib.hid hend
            clear hend
            go_wp2_with fail
            go_roundw
            case rel => exact ⟨k + 1, by omega, by go_num, by rw [HE.out]; exact HO.out, by rw [HE.out], HB.out⟩
            case measure => simp [intOf]; omega
        · have hjlt : ¬ (j : Int) < (zs.length : Int) := by omega
          have hje : j = zs.length := by omega
          have hend : T5 (zss.take (k + 1)).flatten = T5 ((zss.take k).flatten ++ zs.take j) := by
            rw [HFT.out, hje, List.take_length]
          have HE := Lib.hid hend
          clear hend hje hj hjl
          go_wp2_with fail
          go_roundw
          case rel => exact ⟨k + 1, by omega, by go_num, by rw [HE.out]; exact HO.out, by rw [HE.out], HB.out⟩
          case measure => simp [intOf]; omega
    · have hklt : ¬ (k : Int) < (zss.length : Int) := by omega
      have hke : k = zss.length := by omega
      have hml := T5_len zss.flatten
      have hmz : ∀ z ∈ T5 zss.flatten, i64B z := T5_mem HMEM.out
      have ho := HO.out
      rw [hke, List.take_length] at ho ⊢
      obtain ⟨a5, c5, rfl, hI5, _⟩ := ho.view hmz
      have HI5 := Lib.hid hI5
      have BW := Lib.hid (below_step B1.out HB.out)
      clear ho hI5 HO hmz
      by_cases hfl : 100000 ≤ (T5 zss.flatten).length
      · have hfi : (100000 : Int) ≤ ((T5 zss.flatten).length : Int) := by omega
        go_wp2_with fail
        go_ret
        exact ⟨rfl, BW.out⟩
      · have hall := T5_all (l := zss.flatten) (by omega)
        rw [hall] at HI5 hfl ⊢
        have hfi : ¬ (100000 : Int) ≤ (zss.flatten.length : Int) := by omega
        have hll : zss.flatten.length ≤ 9223372036854775807 := by omega
        have HCALL := Lib.hid (HHC.out (some ⟨wr.heap.size, 0, none⟩) 1 [zss.flatten] 1024 _ (ims_one (c := c5) HI5.out hll) (by simp) (by unfold i64B; omega))
        rw [HFLAT.out] at HCALL
        have hbn : bnd 100000 cl ∧ (ee = 2 ∨ (ee = 0 ∧ cl.sum = (nz zss.flatten : Int))) := by
          rcases HCASE.out with h | ⟨cs, h1, h2⟩
          · simp only [Prod.mk.injEq] at h
            rw [h.1, h.2]
            exact ⟨fun z hz => (by cases hz), Or.inl rfl⟩
          · simp only [Prod.mk.injEq] at h1
            obtain ⟨rfl, rfl⟩ := h1
            have hz0' : bnd 0 (List.replicate 1024 (0 : Int)) := fun z hz => by rw [List.eq_of_mem_replicate hz]; exact ⟨Int.le_refl _, Int.le_refl _⟩
            obtain ⟨a, b⟩ := cnts_sum _ _ _ 0 h2 hz0' (by simp) (by omega)
            refine ⟨fun z hz => (by have := b z hz; omega), Or.inr ⟨rfl, ?_⟩⟩
            rw [a]
            have : (List.replicate 1024 (0 : Int)).sum = 0 := by decide +kernel
            rw [this, Int.zero_add]
        obtain ⟨hbd, hend⟩ := hbn
        have HBD := Lib.hid hbd
        have HEND := Lib.hid hend
        have hnzl := nz_len zss.flatten
        generalize hnf : nz zss.flatten = nf at *
        generalize zss.flatten.length = fl at *
        clear hbd hend hall hml hnf
        go_wp2_with fail
        refine HCALL.out.mono ?_
        rintro e W3 ⟨A9, c9, rfl, hI9, b, _, _⟩
        have bw2 : Below W1.heap.size W1 W3 := below_step (HB.out.alloc HB.out.size _) b
        have HI9 := Lib.hid hI9
        have HI1' := Lib.hid (HI1.out.below bw2)
        have B3 := Lib.hid (below_step B1.out bw2)
        have hee : (ee != ee) = false := by simp
        have hll2 : ((cl.length : Int) != (cl.length : Int)) = false := by simp
        clear b bw2 hI9 HCALL HI1 HB BW HI5
        dsimp only
        go_wp2_with fail
        go_loopw [11, 12] (fun s i wr => SumRel cl W3 s i wr) (fun _ i _ => cl.length - (intOf i).toNat)
        case atStart => exact ⟨0, Nat.zero_le _, rfl, rfl, Below.refl _ _⟩
        case round =>
          obtain ⟨q, hq, rfl, rfl, hb⟩ := hrel
          have HBQ := Lib.hid hb
          clear hb
          have hqb : bnd 100000 (cl.take q) := fun z hz => HBD.out z (List.mem_of_mem_take hz)
          have hsb := sum_bound hqb
          have hql : (cl.take q).length ≤ 1024 := by simp; omega
          have hs1 : 0 ≤ (cl.take q).sum ∧ (cl.take q).sum ≤ 102400000 := ⟨hsb.1, Int.le_trans hsb.2 (by omega)⟩
          clear hqb hsb hql
          by_cases hql : q < cl.length
          · have hqlt : (q : Int) < (cl.length : Int) := by omega
            obtain ⟨b1, o1, rfl, hbl1, hc1, _⟩ := HI1'.out q hql
            obtain ⟨b9, o9, rfl, hbl9, hc9, _⟩ := HI9.out q hql
            have hzb := HBD.out cl[q] (List.getElem_mem hql)
            have hts : (cl.take (q + 1)).sum = (cl.take q).sum + cl[q] := by rw [List.take_succ_eq_append_getElem hql, List.sum_append]; simp
            have HTS := Lib.hid hts
            have e1 : wr.cell? ⟨b1, o1 + q, none⟩ = some (.int .i64 cl[q]) := by rw [HBQ.out.cell (p := ⟨b1, o1 + q, none⟩) hbl1]; exact hc1
            have e9 : wr.cell? ⟨b9, o9 + q, none⟩ = some (.int .i64 cl[q]) := by rw [HBQ.out.cell (p := ⟨b9, o9 + q, none⟩) hbl9]; exact hc9
            have l1 : b1 < wr.heap.size := Nat.lt_of_lt_of_le hbl1 HBQ.out.size
            have l9 : b9 < wr.heap.size := Nat.lt_of_lt_of_le hbl9 HBQ.out.size
            clear hc1 hc9 hts
            generalize cl[q] = z at *
            generalize (cl.take q).sum = s at *
            have hzz : (z != z) = false := by simp
            go_wp2_with fail
            go_quiet (fail)
            go_wp2_with fail
            go_roundw
            case rel => exact ⟨q + 1, by omega, by go_num, by rw [HTS.out], by first | exact HBQ.out | exact ⟨HBQ.out.os, HBQ.out.tape, HBQ.out.output, HBQ.out.size, HBQ.out.block⟩⟩
            case measure => simp [intOf]; omega
          · have hqlt : ¬ (q : Int) < (cl.length : Int) := by omega
            have hqe : q = cl.length := by omega
            have BZ := Lib.hid (below_step B3.out HBQ.out)
            rw [hqe, List.take_length] at hs1 ⊢
            rcases HEND.out with h2 | ⟨h0, hsum⟩
            · subst h2
              go_wp2_with fail
              go_ret
              exact ⟨rfl, BZ.out⟩
            · subst h0
              rw [hsum]
              have hnn : ((nf : Int) == (nf : Int)) = true := by simp
              go_wp2_with fail
              go_ret
              exact ⟨rfl, BZ.out⟩
end Go.Proofs.Ytpeeoaogklkjlaa.sp

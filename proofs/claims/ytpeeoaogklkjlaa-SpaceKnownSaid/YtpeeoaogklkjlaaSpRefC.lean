/- The document's own counts. -/
import Derived.Test.YtpeeoaogklkjlaaSpRef
namespace Go.Proofs.Ytpeeoaogklkjlaa.sp
open Go Go.RowKit Go.Proofs.Ytpeeoaogklkjlaa.ib
set_option maxRecDepth 100000

theorem flat_take (zss : List (List Int)) (k : Nat) (h : k < zss.length) : (zss.take (k + 1)).flatten = (zss.take k).flatten ++ zss[k] := by
  rw [List.take_succ_eq_append_getElem h, List.flatten_append]
  simp
theorem flat_split (zss : List (List Int)) (k : Nat) (h : k < zss.length) (j : Nat) (hj : j < zss[k].length) : zss.flatten = ((zss.take k).flatten ++ zss[k].take j ++ [zss[k][j]]) ++ (zss[k].drop (j + 1) ++ (zss.drop (k + 1)).flatten) := by
  have h1 : zss = zss.take k ++ zss[k] :: zss.drop (k + 1) := by rw [List.getElem_cons_drop h, List.take_append_drop]
  have h2 : zss[k] = zss[k].take j ++ zss[k][j] :: zss[k].drop (j + 1) := by rw [List.getElem_cons_drop hj, List.take_append_drop]
  calc zss.flatten = (zss.take k ++ zss[k] :: zss.drop (k + 1)).flatten := congrArg List.flatten h1
    _ = (zss.take k).flatten ++ (zss[k] ++ (zss.drop (k + 1)).flatten) := by rw [List.flatten_append, List.flatten_cons]
    _ = (zss.take k).flatten ++ ((zss[k].take j ++ zss[k][j] :: zss[k].drop (j + 1)) ++ (zss.drop (k + 1)).flatten) := by rw [← h2]
    _ = _ := by simp only [List.append_assoc, List.cons_append, List.nil_append]

def CtOut (n : Int) (zss : List (List Int)) (w : World) (i : Value) (wr : World) : Prop :=
  ∃ (k : Nat) (cs : List Int), k ≤ zss.length ∧ i = .int .i64 (k : Int) ∧ cnts n (List.replicate n.toNat 0) (zss.take k).flatten = some cs ∧ Blk wr w.heap.size 3 (icells cs) ∧ Below w.heap.size w wr
def CtIn (n : Int) (pre zs : List Int) (w : World) (i : Value) (wr : World) : Prop :=
  ∃ (j : Nat) (cs : List Int), j ≤ zs.length ∧ i = .int .i64 (j : Int) ∧ cnts n (List.replicate n.toNat 0) (pre ++ zs.take j) = some cs ∧ Blk wr w.heap.size 3 (icells cs) ∧ Below w.heap.size w wr

theorem sCounts_bad {zss : List (List Int)} {n : Int} (h : cnts n (List.replicate n.toNat 0) zss.flatten = none) : sCounts zss n = ([], 2) := by
  unfold sCounts
  rw [h]
  split <;> rfl
theorem sCounts_ok {zss : List (List Int)} {n : Int} {cs : List Int} (h0 : 0 ≤ n) (h1 : n ≤ 1024) (h : cnts n (List.replicate n.toNat 0) zss.flatten = some cs) : sCounts zss n = (cs, 0) := by
  unfold sCounts
  rw [h, if_neg (by omega)]

theorem okL_blk {w wr : World} {g c : Nat} {n : Nat} {cs : List Int} {r : List Int × Int} (hk : Blk wr g 3 (icells cs)) (hb : Below w.heap.size w wr) (hg : w.heap.size ≤ g) (hn : cs.length = n) (hc : n ≤ c) (hz : ∀ z ∈ cs, i64B z) (hr : r = (cs, 0)) :
    okL r w (.returned (.tuple #[.slice (some ⟨g, 0, none⟩) n c, .int .i64 0])) wr := by
  subst hr hn
  refine ⟨_, c, rfl, Blk.ints hk hz, hb, fun b o h => ?_, hc⟩
  simp only [Option.some.injEq, Addr.mk.injEq, and_true] at h
  rw [← h.1]
  exact ⟨hg, hk.lt⟩

set_option maxHeartbeats 3200000 in
theorem rcounts_any (A : Option Addr) (c : Nat) (zss : List (List Int)) (n : Int) (w : World) (hp : ImsAt w A zss) (hl : zss.length ≤ 9223372036854775807) (hn : i64B n) :
    Calls Try.prog 9 #[.slice A zss.length c, .int .i64 n] w (okL (sCounts zss n) w) := by
  have HP := Lib.hid hp
  obtain ⟨res, hres⟩ : ∃ r, sCounts zss n = r := ⟨_, rfl⟩
  rw [hres]
  by_cases h0 : n < 0
  · have hr : res = ([], 2) := by rw [← hres]; unfold sCounts; rw [if_pos (.inl h0)]
    subst hr
    clear hp hres
    go_enter Try.func9, Try.ntmps9
    go_wp2_with fail
    go_ret2
    exact okL_nil (Below.refl _ _)
  by_cases h1 : 1024 < n
  · have hr : res = ([], 2) := by rw [← hres]; unfold sCounts; rw [if_pos (.inr h1)]
    subst hr
    clear hp hres
    go_enter Try.func9, Try.ntmps9
    go_wp2_with fail
    go_ret2
    exact okL_nil (Below.refl _ _)
  have hmk := make_ints n (by omega) (by omega)
  obtain ⟨m, rfl⟩ := Int.eq_ofNat_of_zero_le (show 0 ≤ n by omega)
  rw [Int.toNat_natCast] at hmk
  have hm : m ≤ 1024 := by omega
  have HRES := Lib.hid hres
  have kb : Blk (w.alloc (.cells (icells (List.replicate m 0)) 3)) w.heap.size 3 (icells (List.replicate m 0)) := Blk.new w _ _
  have hb0 : Below w.heap.size w (w.alloc (.cells (icells (List.replicate m 0)) 3)) := (Below.refl w.heap.size w).alloc (Nat.le_refl _) _
  clear hp hres
  go_enter Try.func9, Try.ntmps9
  go_wp2_with fail
  clear hmk
  have HB0 := Lib.hid hb0
  have HK0 := Lib.hid kb
  have HM := Lib.hid hm
  obtain ⟨w0, hw0⟩ : ∃ x, w.alloc (.cells (icells (List.replicate m 0)) 3) = x := ⟨_, rfl⟩
  rw [hw0] at HB0 HK0
  rw [hw0]
  clear hw0 kb hb0 hm
  obtain ⟨g, hg⟩ : ∃ g, w.heap.size = g := ⟨_, rfl⟩
  rw [hg]
  have HGG := Lib.hid hg
  clear hg
  go_loopw [7] (fun i wr => CtOut (m : Int) zss w i wr) (fun i _ => zss.length - (intOf i).toNat)
  case atStart => exact ⟨0, _, Nat.zero_le _, rfl, rfl, HK0.out, HB0.out⟩
  case round =>
    obtain ⟨k, cs, hk, rfl, hcs, hbk, hb⟩ := hrel
    have HCS := Lib.hid hcs
    have HBK := Lib.hid hbk
    have HB := Lib.hid hb
    clear hcs hbk hb
    by_cases hlt : k < zss.length
    · have hklt : (k : Int) < (zss.length : Int) := by omega
      have hft := flat_take zss k hlt
      have hsp := flat_split zss k hlt
      obtain ⟨b, o, A1, c1, rfl, hbl, hc, hz, hzl⟩ := HP.out k hlt
      have HFT := Lib.hid hft
      have HSP := Lib.hid hsp
      have HZ := Lib.hid hz
      have HC := Lib.hid hc
      clear hft hsp hz hc
      generalize hzs : zss[k] = zs at *
      have HZS := Lib.hid hzs
      clear hzs
      go_wp2_with fail
      obtain ⟨wo, hwo⟩ : ∃ x, x = wr := ⟨_, rfl⟩
      subst hwo
      go_loopw [8] (fun i wr => CtIn (m : Int) (zss.take k).flatten zs w i wr) (fun i _ => zs.length - (intOf i).toNat)
      case atStart => exact ⟨0, cs, Nat.zero_le _, rfl, by rw [List.take_zero, List.append_nil]; exact HCS.out, HBK.out, HB.out⟩
      case round =>
        clear HCS HBK HB
        obtain ⟨j, ds, hj, rfl, hds, hbk, hb⟩ := hrel
        have HDS := Lib.hid hds
        have HBK := Lib.hid hbk
        have HB := Lib.hid hb
        have ec : wr.cell? ⟨b, o + k, none⟩ = some (.slice A1 zs.length c1) := by rw [hb.cell (p := ⟨b, o + k, none⟩) hbl]; exact HC.out
        have lc : b < wr.heap.size := Nat.lt_of_lt_of_le hbl hb.size
        clear hds hbk hb
        by_cases hjl : j < zs.length
        · have hjlt : (j : Int) < (zs.length : Int) := by omega
          obtain ⟨b1, o1, rfl, hbl1, hc1, hz1⟩ := HZ.out j hjl
          have e1 : wr.cell? ⟨b1, o1 + j, none⟩ = some (.int .i64 zs[j]) := by rw [HB.out.cell (p := ⟨b1, o1 + j, none⟩) hbl1]; exact hc1
          have l1 : b1 < wr.heap.size := Nat.lt_of_lt_of_le hbl1 HB.out.size
          have htk : zs.take (j + 1) = zs.take j ++ [zs[j]] := List.take_succ_eq_append_getElem hjl
          have hsn := cnts_snoc HDS.out zs[j]
          rw [List.append_assoc, ← htk] at hsn
          have HSN := Lib.hid hsn
          have HS2 := Lib.hid (HSP.out j hjl)
          have HTK := Lib.hid htk
          have hxb := hz1
          have hdl : ds.length = m := by rw [cnts_len HDS.out, List.length_replicate, Int.toNat_natCast]
          have HDL := Lib.hid hdl
          unfold i64B at hxb
          clear hc1 htk hsn hz1 hdl
          generalize zs[j] = x at *
          by_cases hx0 : x = 0
          · subst hx0
            have hs := HSN.out
            rw [if_pos rfl] at hs
            have HSN2 := Lib.hid hs
            clear hs
            go_wp2_with fail
            go_roundw
            case rel => exact ⟨j + 1, ds, by omega, by go_num, HSN2.out, HBK.out, HB.out⟩
            case measure => simp [intOf]; omega
          · have hx0b : (x == 0) = false := by simpa using hx0
            by_cases hbad : x < 193 ∨ (m : Int) ≤ x
            · have hs := HSN.out
              rw [if_neg hx0, if_pos hbad] at hs
              have hr : res = ([], 2) := by
                rw [← HRES.out]
                refine sCounts_bad ?_
                rw [HS2.out]
                refine cnts_none ?_ _
                rw [List.append_assoc, ← HTK.out]
                exact hs
              have HR := Lib.hid hr
              clear hs hr
              by_cases hlow : x < 193
              · go_wp2_with fail
                go_ret2
                rw [HR.out]
                exact okL_nil HB.out
              · have hge : (m : Int) ≤ x := by omega
                go_wp2_with fail
                go_ret2
                rw [HR.out]
                exact okL_nil HB.out
            · have hs := HSN.out
              rw [if_neg hx0, if_neg hbad] at hs
              have hlow : ¬ x < 193 := fun h => hbad (.inl h)
              have hge : ¬ (m : Int) ≤ x := fun h => hbad (.inr h)
              obtain ⟨t, rfl⟩ := Int.eq_ofNat_of_zero_le (show 0 ≤ x by omega)
              rw [Int.toNat_natCast] at hs
              have htm : t < m := by omega
              have hti : (t : Int) < (m : Int) := by omega
              have htd : t < ds.length := by rw [HDL.out]; exact htm
              have HSN2 := Lib.hid hs
              have hq := HBK.out.cell t
              rw [icells_at ds t htd] at hq
              have hfz := HBK.out.frozen t
              have hgl := HBK.out.lt
              have hgd : ds.getD t 0 = ds[t] := by simp [List.getD, htd]
              have hset := icells_set ds t (wrap64 (ds[t] + 1))
              have hbk2 := HBK.out.set_ t (.int .i64 (wrap64 (ds[t] + 1)))
              rw [hset, ← hgd] at hbk2
              have HBK2 : Hid (Blk (wr.setCell ⟨w.heap.size, t, none⟩ (.int .i64 (wrap64 (ds.getD t 0 + 1)))) w.heap.size 3 (icells (bump ds t))) := hbk2
              have HB2 := Lib.hid (HB.out.setCell (p := ⟨w.heap.size, t, none⟩) (Nat.le_refl _) (.int .i64 (wrap64 (ds.getD t 0 + 1))))
              rw [hgd] at HBK2 HB2
              rw [HGG.out] at hq hfz hgl HBK2 HB2
              have hv := cnts_i64 HDS.out (zeros_i64 _) ds[t] (List.getElem_mem htd)
              unfold i64B at hv
              clear hs hgd hset hbk2
              generalize ds[t] = v at *
              go_wp2_with fail
              go_roundw
              case rel => exact ⟨j + 1, bump ds t, by omega, by go_num, HSN2.out, by rw [HGG.out]; exact HBK2.out, by rw [HGG.out]; exact HB2.out⟩
              case measure => simp [intOf]; omega
        · have hjlt : ¬ (j : Int) < (zs.length : Int) := by omega
          have hje : j = zs.length := by omega
          have hd2 : cnts (m : Int) (List.replicate (m : Int).toNat 0) (zss.take (k + 1)).flatten = some ds := by
            rw [HFT.out, ← HDS.out, hje, List.take_length]
          have HD2 := Lib.hid hd2
          clear hd2 hje hj hjl
          go_wp2_with fail
          go_roundw
          case rel => exact ⟨k + 1, ds, by omega, by go_num, HD2.out, HBK.out, HB.out⟩
          case measure => simp [intOf]; omega
    · have hklt : ¬ (k : Int) < (zss.length : Int) := by omega
      have hke : k = zss.length := by omega
      have hcs := HCS.out
      rw [hke, List.take_length] at hcs
      have hr : res = (cs, 0) := by
        rw [← HRES.out]
        exact sCounts_ok (by omega) (by have := HM.out; omega) hcs
      have HR := Lib.hid hr
      have HL : Hid (cs.length = m) := by unfold Hid; rw [cnts_len hcs, List.length_replicate, Int.toNat_natCast]
      have HZZ := Lib.hid (cnts_i64 hcs (zeros_i64 _))
      clear hcs hr hke
      go_wp2_with fail
      go_ret2
      rw [← HGG.out]
      exact okL_blk HBK.out HB.out (Nat.le_refl _) HL.out (Nat.le_refl _) HZZ.out HR.out
end Go.Proofs.Ytpeeoaogklkjlaa.sp

/- ImRefC, MtChk. -/
import Derived.Test.YtklmgdiaianlbaaQ10
import Derived.Test.YtklmgdiaianlbaaQ6
import Derived.LoopTactic
set_option linter.unusedVariables false
set_option linter.unusedSimpArgs false
/- The document's own Check. -/
namespace Go.Proofs.Ytklmgdiaianlbaa.im
open Go Go.RowKit Go.Proofs.Ytklmgdiaianlbaa.ib
set_option maxRecDepth 100000

def CkOne (l : List Int) (n : Int) (w : World) (i : Value) (wr : World) : Prop := ∃ k : Nat, k ≤ l.length ∧ i = .int .i64 (k : Int) ∧ (l.take k).any (badP n) = false ∧ Below w.heap.size w wr
def CkTwo (l : List Int) (w : World) (i : Value) (wr : World) : Prop := ∃ k : Nat, k ≤ l.length ∧ i = .int .i64 (k : Int) ∧ dupTo l k = false ∧ Below w.heap.size w wr
def CkIn (l : List Int) (k : Nat) (w : World) (i : Value) (wr : World) : Prop := ∃ j : Nat, j ≤ k ∧ i = .int .i64 (j : Int) ∧ (decide (pl l k ≠ 0) && dupAt l k j) = false ∧ Below w.heap.size w wr

set_option maxHeartbeats 6400000 in
theorem rcheck_any (A : Option Addr) (c : Nat) (l : List Int) (b n : Int) (w : World) (hp : IntsAt w A l) (hl : l.length ≤ 1000) :
    Calls Try.prog 43 #[.slice A l.length c, .int .i64 b, .int .i64 n] w (endI (iCheck l b n) w) := by
  have HP := Lib.hid hp
  obtain ⟨res, hres⟩ : ∃ r, iCheck l b n = r := ⟨_, rfl⟩
  rw [hres]
  unfold iCheck at hres
  clear hp
  by_cases h0 : b < 1
  · rw [if_pos (.inl h0)] at hres
    subst hres
    go_enter Try.func43, Try.ntmps43
    go_wp2_with fail
    go_ret
    exact ⟨rfl, Below.refl _ _⟩
  by_cases h1 : 8 < b
  · rw [if_pos (.inr (.inl h1))] at hres
    subst hres
    go_enter Try.func43, Try.ntmps43
    go_wp2_with fail
    go_ret
    exact ⟨rfl, Below.refl _ _⟩
  by_cases h2 : (l.length : Int) = b
  · rw [if_neg (by omega)] at hres
    have hlb : ((l.length : Int) != b) = false := by rw [h2]; simp
    have HRES := Lib.hid hres
    clear hres h2
    go_enter Try.func43, Try.ntmps43
    go_wp2_with fail
    go_loopw [7] (fun i wr => CkOne l n w i wr) (fun i _ => l.length - (intOf i).toNat)
    case atStart => exact ⟨0, Nat.zero_le _, rfl, by simp, Below.refl _ _⟩
    case round =>
      obtain ⟨k, hk, rfl, ha, hb⟩ := hrel
      have HA := Lib.hid ha
      have HB := Lib.hid hb
      clear ha hb
      by_cases hlt : k < l.length
      · have hklt : (k : Int) < (l.length : Int) := by omega
        have HS := Lib.hid (any_snoc hlt (badP n))
        have HT := Lib.hid (fun h => any_at (p := badP n) hlt h)
        obtain ⟨bl, o, rfl, hbl, hc, hz⟩ := HP.out k hlt
        have e0 : wr.cell? ⟨bl, o + k, none⟩ = some (.int .i64 l[k]) := by rw [HB.out.cell (p := ⟨bl, o + k, none⟩) hbl]; exact hc
        have l0 : bl < wr.heap.size := Nat.lt_of_lt_of_le hbl HB.out.size
        clear hc hz
        generalize l[k] = x at *
        by_cases hx : x = 0
        · subst hx
          have hs : (l.take (k + 1)).any (badP n) = false := by rw [HS.out, HA.out]; rfl
          have HS2 := Lib.hid hs
          clear hs
          go_wp2_with fail
          go_roundw
          case rel => exact ⟨k + 1, by omega, by go_num, HS2.out, HB.out⟩
          case measure => simp [intOf]; omega
        · have hxb : (x != 0) = true := by simpa using hx
          by_cases hbad : x < 193 ∨ n ≤ x
          · have hbp : badP n x = true := by
              unfold badP
              rw [decide_eq_true hx, Bool.true_and]
              rcases hbad with h | h
              · rw [decide_eq_true h, Bool.true_or]
              · rw [decide_eq_true h, Bool.or_true]
            have hr : res = 2 := by rw [← HRES.out, if_pos (HT.out hbp)]
            subst hr
            by_cases hlow : x < 193
            · go_wp2_with fail
              go_ret
              exact ⟨rfl, HB.out⟩
            · have hge : n ≤ x := by omega
              go_wp2_with fail
              go_ret
              exact ⟨rfl, HB.out⟩
          · have hlow : ¬ x < 193 := fun h => hbad (.inl h)
            have hge : ¬ n ≤ x := fun h => hbad (.inr h)
            have hs : (l.take (k + 1)).any (badP n) = false := by
              rw [HS.out, HA.out]
              unfold badP
              rw [decide_eq_false hlow, decide_eq_false hge, Bool.or_false, Bool.and_false, Bool.or_false]
            have HS2 := Lib.hid hs
            clear hs
            go_wp2_with fail
            go_roundw
            case rel => exact ⟨k + 1, by omega, by go_num, HS2.out, HB.out⟩
            case measure => simp [intOf]; omega
      · have hklt : ¬ (k : Int) < (l.length : Int) := by omega
        have hres := HRES.out
        have ha := HA.out
        rw [List.take_of_length_le (by omega)] at ha
        rw [ha, if_neg (by decide)] at hres
        have HR2 := Lib.hid hres
        have HB1 := HB
        clear ha hres HRES HA hk
        go_wp2_with fail
        obtain ⟨wo, hwo⟩ : ∃ x, x = wr := ⟨_, rfl⟩
        subst hwo
        go_loopw [8] (fun i wr => CkTwo l w i wr) (fun i _ => l.length - (intOf i).toNat)
        case atStart => exact ⟨0, Nat.zero_le _, rfl, rfl, HB1.out⟩
        case round =>
          clear HB1 HB
          obtain ⟨k, hk, rfl, ha, hb⟩ := hrel
          have HA := Lib.hid ha
          have HB := Lib.hid hb
          clear ha hb
          by_cases hlt : k < l.length
          · have hklt : (k : Int) < (l.length : Int) := by omega
            have HS := Lib.hid (dupTo_succ l k)
            go_wp2_with fail
            go_loopw [9] (fun i wr => CkIn l k w i wr) (fun i _ => k - (intOf i).toNat)
            case atStart => exact ⟨0, Nat.zero_le _, rfl, by simp [dupAt], HB.out⟩
            case round =>
              obtain ⟨j, hj, rfl, hd, hb⟩ := hrel
              have HD := Lib.hid hd
              have HB2 := Lib.hid hb
              clear hd hb
              by_cases hjk : j < k
              · have hjki : (j : Int) < (k : Int) := by omega
                have hjlt : j < l.length := by omega
                have hjlti : (j : Int) < (l.length : Int) := by omega
                obtain ⟨bl, o, rfl, hbl, hc, hz⟩ := HP.out k hlt
                obtain ⟨bl', o', hA', hbl', hc', hz'⟩ := HP.out j hjlt
                simp only [Option.some.injEq, Addr.mk.injEq, and_true] at hA'
                obtain ⟨rfl, rfl⟩ := hA'
                have e0 : wr.cell? ⟨bl, o + k, none⟩ = some (.int .i64 l[k]) := by rw [HB2.out.cell (p := ⟨bl, o + k, none⟩) hbl]; exact hc
                have e1 : wr.cell? ⟨bl, o + j, none⟩ = some (.int .i64 l[j]) := by rw [HB2.out.cell (p := ⟨bl, o + j, none⟩) hbl]; exact hc'
                have l0 : bl < wr.heap.size := Nat.lt_of_lt_of_le hbl HB2.out.size
                have hpk : pl l k = l[k] := pl_at hlt
                have hpj : pl l j = l[j] := pl_at hjlt
                have HDA := Lib.hid (dupAt_succ l k j)
                have HDT := Lib.hid (fun h0 h => dupTo_true (l := l) (m := l.length) hlt hjk h0 h)
                rw [hpk, hpj] at HDT HDA
                rw [hpk] at HD
                have HPK := Lib.hid hpk
                clear hc hc' hz hz' hbl hbl' hpj hpk
                generalize l[k] = x at *
                generalize l[j] = y at *
                by_cases hx : x = 0
                · subst hx
                  have hx0 : ((0 : Int) != 0) = false := rfl
                  have hs : (decide (pl l k ≠ 0) && dupAt l k (j + 1)) = false := by rw [HPK.out]; rfl
                  have HS2 := Lib.hid hs
                  clear hs
                  go_wp2_with fail
                  go_quiet (fail)
                  go_wp2_with fail
                  go_roundw
                  case rel => exact ⟨j + 1, by omega, by go_num, HS2.out, by first | exact drewA HB2.out _ | exact HB2.out⟩
                  case measure => simp [intOf]; omega
                · have hxb : (x != 0) = true := by simpa using hx
                  by_cases hxy : x = y
                  · have hr : res = 16 := by rw [← HR2.out, if_pos (HDT.out hx hxy)]
                    subst hr
                    have hxyb : (x == y) = true := by simpa using hxy
                    clear hxy
                    go_wp2_with fail
                    go_quiet (fail)
                    go_wp2_with fail
                    go_ret
                    exact ⟨rfl, by first | exact drewA HB2.out _ | exact HB2.out⟩
                  · have hxyb : (x == y) = false := by simpa using hxy
                    have hs : (decide (pl l k ≠ 0) && dupAt l k (j + 1)) = false := by
                      have hd := HD.out
                      rw [decide_eq_true hx, Bool.true_and] at hd
                      rw [HPK.out, decide_eq_true hx, Bool.true_and, HDA.out, hd, decide_eq_false hxy]
                      rfl
                    have HS2 := Lib.hid hs
                    clear hs hxy
                    go_wp2_with fail
                    go_quiet (fail)
                    go_wp2_with fail
                    go_roundw
                    case rel => exact ⟨j + 1, by omega, by go_num, HS2.out, by first | exact drewA HB2.out _ | exact HB2.out⟩
                    case measure => simp [intOf]; omega
              · have hjki : ¬ (j : Int) < (k : Int) := by omega
                have hs : dupTo l (k + 1) = false := by
                  have hd := HD.out
                  rw [show j = k by omega] at hd
                  rw [HS.out, HA.out, hd]
                  rfl
                have HS2 := Lib.hid hs
                clear hs
                go_wp2_with fail
                go_roundw
                case rel => exact ⟨k + 1, by omega, by go_num, HS2.out, HB2.out⟩
                case measure => simp [intOf]; omega
          · have hklt : ¬ (k : Int) < (l.length : Int) := by omega
            have hr : res = 0 := by
              have ha := HA.out
              rw [show k = l.length by omega] at ha
              rw [← HR2.out, ha, if_neg (by decide)]
            subst hr
            go_wp2_with fail
            go_ret
            exact ⟨rfl, HB.out⟩
  · rw [if_pos (.inr (.inr h2))] at hres
    subst hres
    have hlb : ((l.length : Int) != b) = true := by simpa using h2
    clear h2
    go_enter Try.func43, Try.ntmps43
    go_wp2_with fail
    go_ret
    exact ⟨rfl, Below.refl _ _⟩
end Go.Proofs.Ytklmgdiaianlbaa.im

/- The document's own Check of a table. -/
namespace Go.Proofs.Ytklmgdiaianlbaa.mt
open Go Go.RowKit Go.Proofs.Ytklmgdiaianlbaa.ib Go.Proofs.Ytklmgdiaianlbaa.wi Go.Proofs.Ytklmgdiaianlbaa.im
set_option maxRecDepth 100000

def CkG (g0 gl bb bo len cs k : Nat) (gx last : Gd) : Nat → Value → World → Prop
  | 0, v, _ => v = .pointer (some ⟨g0, 1, none⟩)
  | 1, v, _ => v = .slice (some ⟨bb, bo, none⟩) len cs
  | 2, v, _ => v = .int .i64 (k : Int)
  | 3, v, _ => v = .pointer (some ⟨bb, bo + k * 4, none⟩)
  | 4, v, _ => v = .pointer (some ⟨bb, bo + k * 4, none⟩)
  | 5, v, _ => v = gv gx
  | 6, v, _ => v = gv last
  | 7, v, _ => v = .bool (above gx last)
  | 8, v, _ => v = .bool (!above gx last)
  | _, _, _ => True
theorem CkG_mono (g0 gl bb bo len cs k : Nat) (gx last : Gd) (i : Nat) (v : Value) (w w' : World) (hi : i < 9) (h : CkG g0 gl bb bo len cs k gx last i v w) (hb : Below w.heap.size w w') : CkG g0 gl bb bo len cs k gx last i v w' := by
  match i, hi, h with
  | 0, _, h | 1, _, h | 2, _, h | 3, _, h | 4, _, h | 5, _, h | 6, _, h | 7, _, h | 8, _, h => exact h
  | j + 9, hi, _ => exact absurd hi (by omega)

def CkRel (gl : Nat) (b n : Int) (xs : List Sp) (w : World) (i : Value) (wr : World) : Prop :=
  ∃ (k : Nat) (last : Gd), k ≤ xs.length ∧ i = .int .i64 (k : Int) ∧ Blk wr gl 26 #[.int .u64 (last.1 : Int), .int .u64 (last.2 : Int)] ∧ snChk b n (0, 0) xs = snChk b n last (xs.drop k) ∧ But (fun j => j = gl) w wr

theorem mCheck_long {m : Mt} {b n : Int} (h1 : iCheck m.live b n = 0) (h2 : 20 < m.snaps.length) : mCheck m b n = 3 := by
  unfold mCheck
  rw [if_neg (show ¬ iCheck m.live b n ≠ 0 by rw [h1]; simp), if_pos h2]
theorem mCheck_go {m : Mt} {b n : Int} (h1 : iCheck m.live b n = 0) (h2 : ¬ 20 < m.snaps.length) : mCheck m b n = if (snChk b n (0, 0) m.snaps).1 ≠ 0 then (snChk b n (0, 0) m.snaps).1 else tkChk b n (snChk b n (0, 0) m.snaps).2 m.tok := by
  unfold mCheck
  rw [if_neg (show ¬ iCheck m.live b n ≠ 0 by rw [h1]; simp), if_neg h2]

theorem snChk_bad {b n : Int} {last : Gd} {x : Sp} {r : List Sp} (h : above x.g last = false) : snChk b n last (x :: r) = (2, last) := by
  conv => lhs; unfold snChk
  rw [h]
  rfl
theorem snChk_img {b n : Int} {last : Gd} {x : Sp} {r : List Sp} (h : above x.g last = true) (h0 : iCheck x.img b n ≠ 0) : snChk b n last (x :: r) = (iCheck x.img b n, x.g) := by
  conv => lhs; unfold snChk
  rw [if_pos h, if_neg h0]
theorem snChk_next {b n : Int} {last : Gd} {x : Sp} {r : List Sp} (h : above x.g last = true) (h0 : iCheck x.img b n = 0) : snChk b n last (x :: r) = snChk b n x.g r := by
  conv => lhs; unfold snChk
  rw [if_pos h, if_pos h0]

set_option maxRecDepth 100000 in
set_option maxHeartbeats 6400000 in
theorem mcheck_any (v : Value) (m : Mt) (b n : Int) (w : World) (h : MtAt w v m) (hs : mtS m) : Calls Try.prog 11 #[v, .int .i64 b, .int .i64 n] w (endI (mCheck m b n) w) := by
  obtain ⟨A0, A1, A2, c0', c1', c2', rfl, hm⟩ := h
  have HM := Lib.hid hm
  have HSZ := Lib.hid hs
  clear hm hs
  have hb0 := (Below.refl w.heap.size w).alloc (Nat.le_refl _) (.cells (mtC A0 A1 A2 c0' c1' c2' m) 30)
  have HB0 := Lib.hid hb0
  have HM0 := Lib.hid (HM.out.below hb0)
  have ha0 := Blk.new w 30 (mtC A0 A1 A2 c0' c1' c2' m)
  have HA0 := Lib.hid ha0
  obtain ⟨w0, hw0⟩ : ∃ z, w.alloc (.cells (mtC A0 A1 A2 c0' c1' c2' m) 30) = z := ⟨_, rfl⟩
  rw [hw0] at HB0 HM0 HA0
  clear hb0 ha0
  have c0 := HA0.out.cell 0
  unfold mtC at c0 hw0 ⊢
  simp only [List.getElem?_toArray, List.getElem?_cons_zero, List.getElem?_cons_succ] at c0
  have hlt := HA0.out.lt
  obtain ⟨res, hres⟩ : ∃ r, mCheck m b n = r := ⟨_, rfl⟩
  rw [hres]
  have HRES := Lib.hid hres
  clear hres
  go_enter Try.func11, Try.ntmps11
  go_wp2_with fail
  try rw [hw0]
  clear hw0 c0 hlt
  refine (rcheck_any A0 c0' m.live b n w0 HM0.out.live.ints HSZ.out.live).mono ?_
  rintro e W1 ⟨rfl, hb1⟩
  have HB1 := Lib.hid (below_step HB0.out hb1)
  have HM1 := Lib.hid (HM0.out.below hb1)
  have HA1 := Lib.hid (HA0.out.below hb1)
  clear hb1 HA0 HM0 HB0
  obtain ⟨er, her⟩ : ∃ er, iCheck m.live b n = er := ⟨_, rfl⟩
  rw [her]
  have HER := Lib.hid her
  clear her
  by_cases he : er = 0
  case' neg =>
    have hne : (er != 0) = true := by simpa using he
    have hr : res = er := by rw [← HRES.out]; unfold mCheck; rw [HER.out, if_pos he]
    have HR := Lib.hid hr
    clear hr he
    go_wp2_with fail
    go_ret
    exact ⟨by rw [HR.out]; rfl, HB1.out⟩
  case' pos =>
    subst he
  have c1 := HA1.out.cell 1
  simp only [mtC, List.getElem?_toArray, List.getElem?_cons_zero, List.getElem?_cons_succ] at c1
  have hlt := HA1.out.lt
  by_cases hl : 20 < m.snaps.length
  case' pos =>
    have hli : (20 : Int) < (m.snaps.length : Int) := by omega
    have hr : res = 3 := by rw [← HRES.out]; exact mCheck_long HER.out hl
    have HR := Lib.hid hr
    clear hr hl
    go_wp2_with fail
    go_ret
    exact ⟨by rw [HR.out]; rfl, HB1.out⟩
  have hli : ¬ (20 : Int) < (m.snaps.length : Int) := by omega
  have hres : (if (snChk b n (0, 0) m.snaps).1 ≠ 0 then (snChk b n (0, 0) m.snaps).1 else tkChk b n (snChk b n (0, 0) m.snaps).2 m.tok) = res := by
    rw [← HRES.out]
    exact (mCheck_go HER.out hl).symm
  have HRES2 := Lib.hid hres
  have HL20 : Hid (m.snaps.length ≤ 20) := by unfold Hid; omega
  clear hres hl HRES HER
  have hb2 := (Below.refl _ W1).alloc (Nat.le_refl _) (.cells #[.int .u64 0, .int .u64 0] 26)
  have HB2 := Lib.hid (below_step HB1.out hb2)
  have HM2 := Lib.hid (HM1.out.below hb2)
  have HA2 := Lib.hid (HA1.out.below hb2)
  have HL2 := Lib.hid (Blk.new W1 26 #[.int .u64 0, .int .u64 0])
  have HGL : Hid (w.heap.size < W1.heap.size) := HA1.out.lt
  clear hb2
  obtain ⟨gl, hgl⟩ : ∃ g, W1.heap.size = g := ⟨_, rfl⟩
  obtain ⟨W2, hW2⟩ : ∃ z, W1.alloc (.cells #[.int .u64 0, .int .u64 0] 26) = z := ⟨_, rfl⟩
  rw [hW2] at HB2 HM2 HA2 HL2
  go_wp2_with fail
  try rw [hW2]
  rw [hgl] at HGL HL2
  try rw [hgl]
  clear hW2 c1 hlt HA1 HM1 HB1
  clear hgl
  obtain ⟨len, hlen⟩ : ∃ k, m.snaps.length = k := ⟨_, rfl⟩
  have HLEN := Lib.hid hlen
  rw [hlen] at HL20 ⊢
  clear hlen
  go_loopw [7, 9] (fun _ i wr => CkRel gl b n m.snaps W2 i wr) (fun _ i _ => m.snaps.length - (intOf i).toNat)
  case atStart => exact ⟨0, (0, 0), Nat.zero_le _, rfl, HL2.out, rfl, But.refl _ _⟩
  case round =>
    obtain ⟨k, last, hk, rfl, hbl, hsn, hbw⟩ := hrel
    have HLA := Lib.hid hbl
    have HSN := Lib.hid hsn
    have HBT := Lib.hid hbw
    have HBW : Hid (Below w.heap.size w wr) := HB2.out.trans (hbw.below (fun j hj => by rw [hj]; exact Nat.le_of_lt HGL.out) HB2.out.size)
    have HMW := Lib.hid (HM.out.below HBW.out)
    have HAW := Lib.hid (HA2.out.of_block (hbw.block _ HA2.out.lt (fun e => by have := HGL.out; omega)))
    have c1 := HAW.out.cell 1
    simp only [mtC, List.getElem?_toArray, List.getElem?_cons_zero, List.getElem?_cons_succ] at c1
    rw [HLEN.out] at c1 hk
    have hltA := HAW.out.lt
    clear hbl hsn hbw
    by_cases hlt : k < len
    · have hki : (k : Int) < (len : Int) := by omega
      have hkm : k < m.snaps.length := by rw [HLEN.out]; exact hlt
      obtain ⟨bb, bo, B, cb, hA1, hlb, e0, e1, e2, e3, hsl, hgd⟩ := HM.out.snaps k hkm
      obtain ⟨x, hx⟩ : ∃ x, m.snaps[k] = x := ⟨_, rfl⟩
      rw [hx] at e0 e1 e2 e3 hsl hgd
      have HDR : Hid (m.snaps.drop k = x :: m.snaps.drop (k + 1)) := by rw [← hx]; exact List.drop_eq_getElem_cons hkm
      have HXS : Hid (x.img.length ≤ 1000) := by rw [← hx]; exact HSZ.out.imgs _ (List.getElem_mem hkm)
      subst hA1
      have E0 := Lib.hid e0
      have E1 := Lib.hid e1
      have E2 := Lib.hid e2
      have HSL := Lib.hid hsl
      clear e0 e1 e2 e3 hsl hgd hx HMW
      go_wp2_with fail
      clear c1
      refine wp_region_inv (by kernel_rfl) [30, 31, 32, 33, 34, 35, 36, 37, 38] (by kernel_rfl) (fun L vs W => Below wr.heap.size wr W ∧ ∀ i, L i = true → i < 9 → CkG w.heap.size gl bb bo len c1' k x.g last i (vs i) W) ⟨(Below.refl _ _).drew, fun i hi => by cases hi⟩ ?_ ?_ ?_
      · intro i o L vs ρ W ho hli haft hρ hgd hI
        obtain ⟨hb, hG'⟩ := hI
        have hG : ∀ j, L j = true → CkG w.heap.size gl bb bo len c1' k x.g last j (vs j) W := fun j hj => by
          by_cases h51 : j < 9
          · exact hG' j hj h51
          · match j, h51 with
            | j + 9, _ => exact trivial
        have hi51 : i < 9 := (Array.getElem?_eq_some_iff.1 ho).1
        have hc := hρ.const
        have hfn := hρ.fn
        have next : ∀ v W', Below W.heap.size W W' → CkG w.heap.size gl bb bo len c1' k x.g last i v W' → Below wr.heap.size wr W' ∧ ∀ j, updB L i j = true → j < 9 → CkG w.heap.size gl bb bo len c1' k x.g last j (updV vs i v j) W' := fun v W' h1 h2 => by
          refine ⟨below_step hb h1, fun j hj h51 => ?_⟩
          by_cases hji : j = i
          · subst hji
            simpa [updV] using h2
          · simp only [updB, if_neg hji] at hj
            simpa [updV, hji] using CkG_mono w.heap.size gl bb bo len c1' k x.g last j _ W W' h51 (hG' j hj h51) h1
        have hbw := HBW.out.trans (hb.mono HBW.out.size)
        have hA := HAW.out.below hb
        have hltA := hA.lt
        have c1 := hA.cell 1
        have hL := HLA.out.below hb
        have l0 := hL.cell 0
        have l1 := hL.cell 1
        have hltL := hL.lt
        simp only [mtC, List.getElem?_toArray, List.getElem?_cons_zero, List.getElem?_cons_succ] at c1 l0 l1
        rw [HLEN.out] at c1
        have e0 : W.cell? ⟨bb, bo + k * 4, none⟩ = some (.int .u64 (x.g.1 : Int)) := by rw [hbw.cell (p := ⟨bb, bo + k * 4, none⟩) hlb]; exact E0.out
        have e1 : W.cell? ⟨bb, bo + k * 4 + 1, none⟩ = some (.int .u64 (x.g.2 : Int)) := by rw [hbw.cell (p := ⟨bb, bo + k * 4 + 1, none⟩) hlb]; exact E1.out
        have hltb : bb < W.heap.size := Nat.lt_of_lt_of_le hlb hbw.size
        rcases i with _ | _ | _ | _ | _ | _ | _ | _ | _ | i
        all_goals (first | omega | skip)
        all_goals simp only [List.getElem?_toArray, List.getElem?_cons_zero, List.getElem?_cons_succ, Option.some.injEq] at ho
        all_goals subst ho
        · have o3 : ρ (.tmp 3) = .pointer (some ⟨w.heap.size, 0, none⟩) := hρ.out 3 rfl
          exact stepTo_value (w' := W) (by unfold execOp; simp only [o3, hc]; go_simp) (next _ _ (Below.refl _ _) rfl)
        · have g30 : CkG w.heap.size gl bb bo len c1' k x.g last 0 (vs 0) W := hG 0 (haft 0 (by kernel_rfl))
          have s30 : ρ (.tmp 30) = .pointer (some ⟨w.heap.size, 1, none⟩) := (hρ.at_ 30 0 rfl).trans g30
          exact stepTo_value (w' := W) (by unfold execOp; simp only [s30, hc]; go_simp) (next _ _ (Below.refl _ _) rfl)
        · have o9 : ρ (.tmp 9) = .int .i64 (k : Int) := hρ.out 9 rfl
          exact stepTo_value (w' := W) (by unfold execOp; simp only [o9, hc]; go_simp) (next _ _ (Below.refl _ _) rfl)
        · have g31 : CkG w.heap.size gl bb bo len c1' k x.g last 1 (vs 1) W := hG 1 (haft 1 (by kernel_rfl))
          have s31 : ρ (.tmp 31) = .slice (some ⟨bb, bo, none⟩) len c1' := (hρ.at_ 31 1 rfl).trans g31
          have g32 : CkG w.heap.size gl bb bo len c1' k x.g last 2 (vs 2) W := hG 2 (haft 2 (by kernel_rfl))
          have s32 : ρ (.tmp 32) = .int .i64 (k : Int) := (hρ.at_ 32 2 rfl).trans g32
          exact stepTo_value (w' := W) (by unfold execOp; simp only [s31, s32, hc]; go_simp) (next _ _ (Below.refl _ _) rfl)
        · have g33 : CkG w.heap.size gl bb bo len c1' k x.g last 3 (vs 3) W := hG 3 (haft 3 (by kernel_rfl))
          have s33 : ρ (.tmp 33) = .pointer (some ⟨bb, bo + k * 4, none⟩) := (hρ.at_ 33 3 rfl).trans g33
          exact stepTo_value (w' := W) (by unfold execOp; simp only [s33, hc]; go_simp) (next _ _ (Below.refl _ _) rfl)
        · have g34 : CkG w.heap.size gl bb bo len c1' k x.g last 4 (vs 4) W := hG 4 (haft 4 (by kernel_rfl))
          have s34 : ρ (.tmp 34) = .pointer (some ⟨bb, bo + k * 4, none⟩) := (hρ.at_ 34 4 rfl).trans g34
          exact stepTo_value (v := gv x.g) (w' := W) (by unfold execOp; simp only [s34, gv]; go_simp) (next _ _ (Below.refl _ _) rfl)
        · have o8 : ρ (.tmp 8) = .pointer (some ⟨gl, 0, none⟩) := hρ.out 8 rfl
          exact stepTo_value (v := gv last) (w' := W) (by unfold execOp; simp only [o8, gv]; go_simp) (next _ _ (Below.refl _ _) rfl)
        · have g35 : CkG w.heap.size gl bb bo len c1' k x.g last 5 (vs 5) W := hG 5 (haft 5 (by kernel_rfl))
          have s35 : ρ (.tmp 35) = gv x.g := (hρ.at_ 35 5 rfl).trans g35
          have g36 : CkG w.heap.size gl bb bo len c1' k x.g last 6 (vs 6) W := hG 6 (haft 6 (by kernel_rfl))
          have s36 : ρ (.tmp 36) = gv last := (hρ.at_ 36 6 rfl).trans g36
          refine stepTo_enter (f := 44) (args := #[gv x.g, gv last]) (w' := W) (by unfold execOp; simp only [hfn, s35, s36]; go_simp) ((rabove_any x.g last W).mono ?_)
          rintro x W' ⟨rfl, hb'⟩
          exact ⟨_, rfl, next _ _ hb' rfl⟩
        · have g37 : CkG w.heap.size gl bb bo len c1' k x.g last 7 (vs 7) W := hG 7 (haft 7 (by kernel_rfl))
          have s37 : ρ (.tmp 37) = .bool (above x.g last) := (hρ.at_ 37 7 rfl).trans g37
          exact stepTo_value (w' := W) (by unfold execOp; simp only [s37, hc]; go_simp) (next _ _ (Below.refl _ _) rfl)
      · intro i o L vs W j want ho hli haft hg hv hI
        obtain ⟨hb, hG'⟩ := hI
        have hG : ∀ j, L j = true → CkG w.heap.size gl bb bo len c1' k x.g last j (vs j) W := fun j hj => by
          by_cases h51 : j < 9
          · exact hG' j hj h51
          · match j, h51 with
            | j + 9, _ => exact trivial
        have hi51 : i < 9 := (Array.getElem?_eq_some_iff.1 ho).1
        rcases i with _ | _ | _ | _ | _ | _ | _ | _ | _ | i
        all_goals (first | omega | skip)
        all_goals simp only [List.getElem?_toArray, List.getElem?_cons_zero, List.getElem?_cons_succ, Option.some.injEq] at ho
        all_goals subst ho
        all_goals simp only [reduceCtorEq, Option.some.injEq, Prod.mk.injEq] at hg
      · intro vs W hI
        have g8 : vs 8 = .bool (!above x.g last) := hI.2 8 (by decide) (by decide)
        have hb := hI.1
        have HBX := Lib.hid (HBW.out.trans (hb.mono HBW.out.size))
        have HAX := Lib.hid (HAW.out.below hb)
        have HLX := Lib.hid (HLA.out.below hb)
        have HBU := Lib.hid (HBT.out.trans (But.of_below (S := fun j => j = gl) hb) (fun i hi => .inl hi))
        clear hI hb HAW HLA HBT HBW
        simp only [putList, putSel, if_true]
        rw [g8]
        generalize vs 0 = z0
        generalize vs 1 = z1
        generalize vs 2 = z2
        generalize vs 3 = z3
        generalize vs 4 = z4
        generalize vs 5 = z5
        generalize vs 6 = z6
        generalize vs 7 = z7
        clear g8
        simp only [Act.put, List.setIfInBounds_toArray, List.set_cons_succ, List.set_cons_zero]
        cases hab : above x.g last with
        | false =>
          have hr : res = 2 := by
            rw [← HRES2.out, HSN.out, HDR.out, snChk_bad hab]
            rfl
          have HR := Lib.hid hr
          clear hr hab
          simp only [Bool.not_false]
          go_wp2_with fail
          go_ret
          exact ⟨by rw [HR.out]; rfl, HBX.out⟩
        | true =>
          have HAB := Lib.hid hab
          clear hab
          simp only [Bool.not_true]
          have c1 := HAX.out.cell 1
          have hltA := HAX.out.lt
          have e0 : W.cell? ⟨bb, bo + k * 4, none⟩ = some (.int .u64 (x.g.1 : Int)) := by rw [HBX.out.cell (p := ⟨bb, bo + k * 4, none⟩) hlb]; exact E0.out
          have e1 : W.cell? ⟨bb, bo + k * 4 + 1, none⟩ = some (.int .u64 (x.g.2 : Int)) := by rw [HBX.out.cell (p := ⟨bb, bo + k * 4 + 1, none⟩) hlb]; exact E1.out
          have hltb : bb < W.heap.size := Nat.lt_of_lt_of_le hlb HBX.out.size
          have l0 := HLX.out.cell 0
          have l1 := HLX.out.cell 1
          simp only [mtC, List.getElem?_toArray, List.getElem?_cons_zero, List.getElem?_cons_succ] at c1 l0 l1
          rw [HLEN.out] at c1
          have f0 := HLX.out.frozen 0
          have f1 := HLX.out.frozen 1
          have hltL := HLX.out.lt
          have hgg := HGL.out
          have n1 : ¬ gl = w.heap.size := by omega
          have n2 : ¬ w.heap.size = gl := by omega
          have n3 : ¬ gl = bb := by omega
          have n4 : ¬ bb = gl := by omega
          have e2 : W.cell? ⟨bb, bo + k * 4 + 1 + 1, none⟩ = some (.slice B x.img.length cb) := by rw [show bo + k * 4 + 1 + 1 = bo + k * 4 + 2 from rfl, HBX.out.cell (p := ⟨bb, bo + k * 4 + 2, none⟩) hlb]; exact E2.out
          clear hgg
          go_wp2_with fail
          clear c1 e0 e1 e2 l0 l1 f0 f1 hltA hltb hltL
          have hly := (HLX.out.set_ 0 (.int .u64 (x.g.1 : Int))).set_ 1 (.int .u64 (x.g.2 : Int))
          have HLY : Hid (Blk ((W.setCell ⟨gl, 0, none⟩ (.int .u64 (x.g.1 : Int))).setCell ⟨gl, 1, none⟩ (.int .u64 (x.g.2 : Int))) gl 26 #[.int .u64 (x.g.1 : Int), .int .u64 (x.g.2 : Int)]) := by unfold Hid; simpa using hly
          have HBV := Lib.hid ((HBU.out.setCell ⟨gl, 0, none⟩ (.int .u64 (x.g.1 : Int)) (.inl rfl)).setCell ⟨gl, 1, none⟩ (.int .u64 (x.g.2 : Int)) (.inl rfl))
          have HBY := Lib.hid ((HBX.out.setCell (p := ⟨gl, 0, none⟩) (Nat.le_of_lt HGL.out) (.int .u64 (x.g.1 : Int))).setCell (p := ⟨gl, 1, none⟩) (Nat.le_of_lt HGL.out) (.int .u64 (x.g.2 : Int)))
          clear hly
          generalize (W.setCell ⟨gl, 0, none⟩ (.int .u64 (x.g.1 : Int))).setCell ⟨gl, 1, none⟩ (.int .u64 (x.g.2 : Int)) = W5 at *
          refine (rcheck_any B cb x.img b n W5 (HSL.out.below HBY.out).ints HXS.out).mono ?_
          rintro e W6 ⟨rfl, hb6⟩
          have HLZ := Lib.hid (HLY.out.below hb6)
          have HBZ := Lib.hid (below_step HBY.out hb6)
          have HBQ := Lib.hid (HBV.out.trans (But.of_below (S := fun j => j = gl) hb6) (fun i hi => .inl hi))
          clear hb6 HLY HBY HBV HLX HAX HBX HBU
          obtain ⟨er, her⟩ : ∃ er, iCheck x.img b n = er := ⟨_, rfl⟩
          rw [her]
          have HER := Lib.hid her
          clear her
          by_cases he : er = 0
          · subst he
            go_wp2_with fail
            go_roundw
            case rel => exact ⟨k + 1, x.g, by omega, by go_num, HLZ.out, by rw [HSN.out, HDR.out, snChk_next HAB.out HER.out], HBQ.out⟩
            case measure => simp [intOf]; have := HLEN.out; omega
          · have hne : (er != 0) = true := by simpa using he
            have hr : res = er := by
              rw [← HRES2.out, HSN.out, HDR.out, snChk_img HAB.out (by rw [HER.out]; exact he), HER.out]
              simp [he]
            have HR := Lib.hid hr
            clear hr he
            go_wp2_with fail
            go_ret
            exact ⟨by rw [HR.out]; rfl, HBZ.out⟩
    · have hki : ¬ (k : Int) < (len : Int) := by omega
      have hsn : snChk b n (0, 0) m.snaps = (0, last) := by
        rw [HSN.out, List.drop_eq_nil_of_le (by have := HLEN.out; omega)]
        rfl
      have hres : tkChk b n last m.tok = res := by
        rw [← HRES2.out, hsn]
        simp
      have HIM := Lib.hid (HM.out.img.below HBW.out)
      have HIS := Lib.hid HSZ.out.img
      have c2 := HAW.out.cell 2
      have c3 := HAW.out.cell 3
      have c4 := HAW.out.cell 4
      have c5 := HAW.out.cell 5
      have c6 := HAW.out.cell 6
      have c7 := HAW.out.cell 7
      have c8 := HAW.out.cell 8
      simp only [mtC, List.getElem?_toArray, List.getElem?_cons_zero, List.getElem?_cons_succ] at c2 c3 c4 c5 c6 c7 c8
      clear hsn HSN HRES2 HMW HAW HBT HM HM2 HA2 HSZ
      generalize m.tok = t at *
      obtain ⟨base, target, nx, al, img⟩ := t
      dsimp only at c2 c3 c4 c5 c6 c7 c8 HIM HIS ⊢
      have HT := Lib.hid hres
      clear hres
      have HTB : Hid (Blk (wr.alloc (.cells #[.int .u64 (base.1 : Int), .int .u64 (base.2 : Int), .int .u64 (target.1 : Int), .int .u64 (target.2 : Int), .int .i64 nx, .int .i64 al, .slice A2 img.length c2'] 28)) wr.heap.size 28 #[.int .u64 (base.1 : Int), .int .u64 (base.2 : Int), .int .u64 (target.1 : Int), .int .u64 (target.2 : Int), .int .i64 nx, .int .i64 al, .slice A2 img.length c2']) := Blk.new _ _ _
      have hb7 := (Below.refl wr.heap.size wr).alloc (Nat.le_refl _) (.cells #[.int .u64 (base.1 : Int), .int .u64 (base.2 : Int), .int .u64 (target.1 : Int), .int .u64 (target.2 : Int), .int .i64 nx, .int .i64 al, .slice A2 img.length c2'] 28)
      have HB7 : Hid (∀ o, Below w.heap.size w (wr.alloc o)) := fun o => HBW.out.trans (((Below.refl wr.heap.size wr).alloc (Nat.le_refl _) o).mono HBW.out.size)
      have HL7 := Lib.hid (HLA.out.below hb7)
      have HI7 := Lib.hid (HIM.out.below hb7)
      clear hb7
      by_cases hz : target = (0, 0)
      · subst hz
        have htz : (((0 : Nat) : Int) == 0 && ((0 : Nat) : Int) == 0) = true := by decide
        by_cases h1 : base = (0, 0)
        · subst h1
          by_cases h2 : nx = 0
          · subst h2
            by_cases h3 : al = 0
            · subst h3
              by_cases h4 : img = []
              · subst h4
                have hr : res = 0 := by rw [← HT.out]; rfl
                have HR := Lib.hid hr
                clear hr
                go_wp2_with fail
                go_ret
                exact ⟨by rw [HR.out]; rfl, HB7.out _⟩
              · have hl4 : ((img.length : Int) != 0) = true := by cases img with | nil => exact absurd rfl h4 | cons _ _ => simp; omega
                have hr : res = 2 := by rw [← HT.out]; unfold tkChk tkNone; simp [h4]
                have HR := Lib.hid hr
                clear hr h4
                go_wp2_with fail
                go_ret
                exact ⟨by rw [HR.out]; rfl, HB7.out _⟩
            · have h3' : (al != 0) = true := by simpa using h3
              have hr : res = 2 := by rw [← HT.out]; unfold tkChk tkNone; simp [h3]
              have HR := Lib.hid hr
              clear hr h3
              go_wp2_with fail
              go_ret
              exact ⟨by rw [HR.out]; rfl, HB7.out _⟩
          · have h2' : (nx != 0) = true := by simpa using h2
            have hr : res = 2 := by rw [← HT.out]; unfold tkChk tkNone; simp [h2]
            have HR := Lib.hid hr
            clear hr h2
            go_wp2_with fail
            go_ret
            exact ⟨by rw [HR.out]; rfl, HB7.out _⟩
        · have hr : res = 2 := by rw [← HT.out]; unfold tkChk tkNone; simp [h1]
          have HR := Lib.hid hr
          obtain ⟨x1, x2⟩ := base
          dsimp only at *
          by_cases hx1 : x1 = 0
          · have hx2 : ¬ x2 = 0 := fun e => h1 (by rw [hx1, e])
            clear hr h1
            go_wp2_with fail
            go_ret
            exact ⟨by rw [HR.out]; rfl, HB7.out _⟩
          · clear hr h1
            go_wp2_with fail
            go_ret
            exact ⟨by rw [HR.out]; rfl, HB7.out _⟩
      · have hzz : (¬ target.1 = 0) ∨ (target.1 = 0 ∧ ¬ target.2 = 0) := by
          obtain ⟨t1, t2⟩ := target
          by_cases e1 : t1 = 0
          · exact .inr ⟨e1, fun e2 => hz (by rw [show t1 = 0 from e1, show t2 = 0 from e2])⟩
          · exact .inl e1
        have l0 := HLA.out.cell 0
        have l1 := HLA.out.cell 1
        simp only [List.getElem?_toArray, List.getElem?_cons_zero, List.getElem?_cons_succ] at l0 l1
        have hltL := HLA.out.lt
        have HT2 : Hid ((if tkBad ⟨base, target, nx, al, img⟩ last b = true then 2 else iCheck img b n) = res) := by
          rw [← HT.out]
          unfold Hid tkChk
          rw [if_neg hz]
        clear HT hz
        by_cases h1 : base = last
        · subst h1
          obtain ⟨ab, hab⟩ : ∃ r, above target base = r := ⟨_, rfl⟩
          have HT3 : Hid ((if (!ab || decide (nx < 1) || decide (al ≤ nx) || decide (b < al)) = true then 2 else iCheck img b n) = res) := by
            rw [← HT2.out]
            unfold Hid tkBad
            simp only [decide_true, Bool.not_true, Bool.false_or, hab]
          have HC : Hid (∀ W, Calls Try.prog 44 #[gv target, gv base] W (endB ab W)) := fun W => by rw [← hab]; exact rabove_any target base W
          have HTK : Hid (∀ W, Below (wr.alloc (.cells #[.int .u64 (base.1 : Int), .int .u64 (base.2 : Int), .int .u64 (target.1 : Int), .int .u64 (target.2 : Int), .int .i64 nx, .int .i64 al, .slice A2 img.length c2'] 28)).heap.size (wr.alloc (.cells #[.int .u64 (base.1 : Int), .int .u64 (base.2 : Int), .int .u64 (target.1 : Int), .int .u64 (target.2 : Int), .int .i64 nx, .int .i64 al, .slice A2 img.length c2'] 28)) W →
              W.cell? ⟨wr.heap.size, 4, none⟩ = some (.int .i64 nx) ∧ W.cell? ⟨wr.heap.size, 5, none⟩ = some (.int .i64 al) ∧ W.cell? ⟨wr.heap.size, 6, none⟩ = some (.slice A2 img.length c2') ∧ wr.heap.size < W.heap.size ∧ Below w.heap.size w W ∧ SlAt W A2 img c2') := fun W hb => by
            have h := HTB.out.below hb
            exact ⟨h.cell 4, h.cell 5, h.cell 6, h.lt, below_step (HB7.out _) hb, HI7.out.below hb⟩
          clear hab HT2 HTB HB7 HI7
          rcases hzz with hzz | ⟨hzz, hzz2⟩
          case' inr =>
            obtain ⟨t1, t2⟩ := target
            dsimp only at *
            subst hzz
          all_goals
            go_wp2_with fail
            refine (HC.out _).mono ?_
            rintro e W8 ⟨rfl, hb8⟩
            obtain ⟨k4, k5, k6, klt, kb, ki⟩ := HTK.out W8 hb8
            have HB8 := Lib.hid kb
            have HI8 := Lib.hid ki
            clear hb8 kb ki HC HTK c1 c2 c3 c4 c5 c6 c7 c8 l0 l1 hltL hltA
            cases ab with
            | false =>
              have hr : res = 2 := by rw [← HT3.out]; simp
              have HR := Lib.hid hr
              clear hr
              go_wp2_with fail
              go_ret
              exact ⟨by rw [HR.out]; rfl, HB8.out⟩
            | true =>
              by_cases h2 : nx < 1
              · have hr : res = 2 := by rw [← HT3.out]; simp [h2]
                have HR := Lib.hid hr
                clear hr
                go_wp2_with fail
                go_ret
                exact ⟨by rw [HR.out]; rfl, HB8.out⟩
              by_cases h3 : al ≤ nx
              · have hr : res = 2 := by rw [← HT3.out]; simp [h3]
                have HR := Lib.hid hr
                clear hr
                go_wp2_with fail
                go_ret
                exact ⟨by rw [HR.out]; rfl, HB8.out⟩
              by_cases h4 : b < al
              · have hr : res = 2 := by rw [← HT3.out]; simp [h4]
                have HR := Lib.hid hr
                clear hr
                go_wp2_with fail
                go_ret
                exact ⟨by rw [HR.out]; rfl, HB8.out⟩
              have hr : res = iCheck img b n := by rw [← HT3.out, if_neg (by simp [h2, h3, h4])]
              have HR := Lib.hid hr
              clear hr
              go_wp2_with fail
              refine (rcheck_any A2 c2' img b n W8 HI8.out.ints HIS.out).mono ?_
              rintro e W9 ⟨rfl, hb9⟩
              have HB9 := Lib.hid (below_step HB8.out hb9)
              clear hb9
              go_wp2_with fail
              go_ret
              exact ⟨by rw [HR.out]; rfl, HB9.out⟩
        · have hr : res = 2 := by rw [← HT2.out]; unfold tkBad; simp [h1]
          have HR := Lib.hid hr
          have hbl : (¬ base.1 = last.1) ∨ (base.1 = last.1 ∧ ¬ base.2 = last.2) := by
            obtain ⟨t1, t2⟩ := base
            obtain ⟨u1, u2⟩ := last
            by_cases e1 : t1 = u1
            · exact .inr ⟨e1, fun e2 => h1 (by rw [show t1 = u1 from e1, show t2 = u2 from e2])⟩
            · exact .inl e1
          clear hr h1
          rcases hzz with hzz | ⟨hzz, hzz2⟩
          · rcases hbl with hbl | ⟨hbl, hbl2⟩
            · go_wp2_with fail
              go_ret
              exact ⟨by rw [HR.out]; rfl, HB7.out _⟩
            · go_wp2_with fail
              go_ret
              exact ⟨by rw [HR.out]; rfl, HB7.out _⟩
          · rcases hbl with hbl | ⟨hbl, hbl2⟩
            · go_wp2_with fail
              go_ret
              exact ⟨by rw [HR.out]; rfl, HB7.out _⟩
            · go_wp2_with fail
              go_ret
              exact ⟨by rw [HR.out]; rfl, HB7.out _⟩
end Go.Proofs.Ytklmgdiaianlbaa.mt


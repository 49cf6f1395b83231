/- MgCk, MgPut, WiRefP, MtNums, MtGdB. -/
import Derived.Test.YtklmgdiaianlbaaQ1
import Derived.Test.YtklmgdiaianlbaaQ10
import Derived.Test.YtklmgdiaianlbaaQ11
import Derived.Test.YtklmgdiaianlbaaQ3
import Derived.Test.YtklmgdiaianlbaaQ6
import Derived.Laws.AppendOwnNone
import Derived.LoopTactic
set_option linter.unusedVariables false
set_option linter.unusedSimpArgs false
/- May a table be, as the program tells it. -/
namespace Go.Proofs.Ytklmgdiaianlbaa.mt.pg
open Go Go.RowKit Go.Proofs.Ytklmgdiaianlbaa.ib Go.Proofs.Ytklmgdiaianlbaa.wi Go.Proofs.Ytklmgdiaianlbaa.im Go.Proofs.Ytklmgdiaianlbaa.mt
set_option maxRecDepth 100000

/-- The snapshots so far are right; the last one's guid lies in block gl. -/
def CRel (gl : Nat) (b n : Int) (xs : List Sp) (w : World) (i : Value) (wr : World) : Prop :=
  ∃ (k : Nat) (last : Gd), k ≤ xs.length ∧ i = .int .i64 (k : Int) ∧ Blk wr gl 26 #[.int .u64 (last.1 : Int), .int .u64 (last.2 : Int)] ∧ snChk b n (0, 0) xs = snChk b n last (xs.drop k) ∧ But (fun j => j = gl) w wr

set_option maxHeartbeats 6400000 in
theorem check_any (v : Value) (m : Mt) (b n : Int) (w : World) (h : MtAt w v m) (hs : mtS m) (hbB : i64B b) (hnB : i64B n) : Calls Try.prog 10 #[v, .int .i64 b, .int .i64 n] w (endI (mCheck m b n) w) := by
  obtain ⟨A0, A1, A2, c0', c1', c2', rfl, hm⟩ := h
  have HM := Lib.hid hm
  have HSZ := Lib.hid hs
  have HNB := Lib.hid (And.intro hbB hnB)
  clear hm hs hbB hnB
  have hb0 := (Below.refl w.heap.size w).alloc (Nat.le_refl _) (.cells (mtC A0 A1 A2 c0' c1' c2' m) 30)
  have HB0 := Lib.hid hb0
  have HM0 := Lib.hid (HM.out.below hb0)
  have HA0 := Lib.hid (Blk.new w 30 (mtC A0 A1 A2 c0' c1' c2' m))
  obtain ⟨w0, hw0⟩ : ∃ z, w.alloc (.cells (mtC A0 A1 A2 c0' c1' c2' m) 30) = z := ⟨_, rfl⟩
  rw [hw0] at HB0 HM0 HA0
  clear hb0
  have c0 := HA0.out.cell 0
  unfold mtC at c0 hw0 ⊢
  simp only [List.getElem?_toArray, List.getElem?_cons_zero, List.getElem?_cons_succ] at c0
  have hlt := HA0.out.lt
  obtain ⟨res, hres⟩ : ∃ r, mCheck m b n = r := ⟨_, rfl⟩
  rw [hres]
  have HRES := Lib.hid hres
  clear hres
  go_enter Try.func10, Try.ntmps10
  go_wp2_with fail
  try rw [hw0]
  clear hw0 c0 hlt
  refine (hcheck_any A0 c0' m.live b n w0 HM0.out.live HSZ.out.live HNB.out.1 HNB.out.2).mono ?_
  rintro e W1 ⟨rfl, hb1⟩
  have HB1 := Lib.hid (below_step HB0.out hb1)
  have HM1 := Lib.hid (HM0.out.below hb1)
  have HA1 := Lib.hid (HA0.out.below hb1)
  clear hb1 HA0 HM0 HB0
  obtain ⟨er, her⟩ : ∃ er, iCheck m.live b n = er := ⟨_, rfl⟩
  rw [her]
  have HER := Lib.hid her
  clear her
  by_cases he : er = 0
  case' neg =>
    have hne : (er != 0) = true := by simpa using he
    have hr : res = er := by rw [← HRES.out]; unfold mCheck; rw [HER.out, if_pos he]
    have HR := Lib.hid hr
    clear hr he
    go_wp2_with fail
    go_ret
    exact ⟨by rw [HR.out]; rfl, HB1.out⟩
  case' pos =>
    subst he
  have c1 := HA1.out.cell 1
  simp only [mtC, List.getElem?_toArray, List.getElem?_cons_zero, List.getElem?_cons_succ] at c1
  have hlt := HA1.out.lt
  by_cases hl : 20 < m.snaps.length
  case' pos =>
    have hli : (20 : Int) < (m.snaps.length : Int) := by omega
    have hr : res = 3 := by rw [← HRES.out]; exact mCheck_long HER.out hl
    have HR := Lib.hid hr
    clear hr hl
    go_wp2_with fail
    go_ret
    exact ⟨by rw [HR.out]; rfl, HB1.out⟩
  have hli : ¬ (20 : Int) < (m.snaps.length : Int) := by omega
  have hres : (if (snChk b n (0, 0) m.snaps).1 ≠ 0 then (snChk b n (0, 0) m.snaps).1 else tkChk b n (snChk b n (0, 0) m.snaps).2 m.tok) = res := by
    rw [← HRES.out]
    exact (mCheck_go HER.out hl).symm
  have HRES2 := Lib.hid hres
  have HL20 : Hid (m.snaps.length ≤ 20) := by unfold Hid; omega
  clear hres hl HRES HER
  have hb2 := (Below.refl _ W1).alloc (Nat.le_refl _) (.cells #[.int .u64 0, .int .u64 0] 26)
  have HB2 := Lib.hid (below_step HB1.out hb2)
  have HM2 := Lib.hid (HM1.out.below hb2)
  have HA2 := Lib.hid (HA1.out.below hb2)
  have HL2 := Lib.hid (Blk.new W1 26 #[.int .u64 0, .int .u64 0])
  have HGL : Hid (w.heap.size < W1.heap.size) := HA1.out.lt
  clear hb2
  obtain ⟨gl, hgl⟩ : ∃ g, W1.heap.size = g := ⟨_, rfl⟩
  obtain ⟨W2, hW2⟩ : ∃ z, W1.alloc (.cells #[.int .u64 0, .int .u64 0] 26) = z := ⟨_, rfl⟩
  rw [hW2] at HB2 HM2 HA2 HL2
  have d1 := HA2.out.cell 1
  simp only [mtC, List.getElem?_toArray, List.getElem?_cons_zero, List.getElem?_cons_succ] at d1
  have hlt2 := HA2.out.lt
  go_upto_region 7 with fail
  try rw [hW2]
  clear hW2 c1 hlt
  go_wp2_with fail
  rw [hgl] at HGL HL2
  try rw [hgl]
  clear d1 hlt2 HA1 HM1 HB1
  clear hgl
  obtain ⟨len, hlen⟩ : ∃ k, m.snaps.length = k := ⟨_, rfl⟩
  have HLEN := Lib.hid hlen
  rw [hlen] at HL20 ⊢
  clear hlen
  go_loopw [10, 11, 27] (fun _ _ i wr => CRel gl b n m.snaps W2 i wr) (fun _ _ i _ => m.snaps.length - (intOf i).toNat)
  case atStart => exact ⟨0, (0, 0), Nat.zero_le _, rfl, HL2.out, rfl, But.refl _ _⟩
  case round =>
    obtain ⟨k, last, hk, rfl, hbl, hsn, hbw⟩ := hrel
    have HLA := Lib.hid hbl
    have HSN := Lib.hid hsn
    have HBT := Lib.hid hbw
    have HBW : Hid (Below w.heap.size w wr) := HB2.out.trans (hbw.below (fun j hj => by rw [hj]; exact Nat.le_of_lt HGL.out) HB2.out.size)
    have HMW := Lib.hid (HM.out.below HBW.out)
    have HAW := Lib.hid (HA2.out.of_block (hbw.block _ HA2.out.lt (fun e => by have := HGL.out; omega)))
    rw [HLEN.out] at hk
    clear hbl hsn hbw
    by_cases hlt : k < len
    · have hki : (k : Int) < (len : Int) := by omega
      have hkm : k < m.snaps.length := by rw [HLEN.out]; exact hlt
      obtain ⟨bb, bo, B, cb, hA1, hlb, e0, e1, e2, e3, hsl, hgd⟩ := HMW.out.snaps k hkm
      obtain ⟨x, hx⟩ : ∃ x, m.snaps[k] = x := ⟨_, rfl⟩
      rw [hx] at e0 e1 e2 e3 hsl hgd
      have HDR : Hid (m.snaps.drop k = x :: m.snaps.drop (k + 1)) := by rw [← hx]; exact List.drop_eq_getElem_cons hkm
      have HXS : Hid (x.img.length ≤ 1000) := by rw [← hx]; exact HSZ.out.imgs _ (List.getElem_mem hkm)
      subst hA1
      have HSL := Lib.hid hsl
      clear hsl hgd hx HMW
      obtain ⟨W3, hW3⟩ : ∃ z, wr.alloc (.cells (snC x B cb) 48) = z := ⟨_, rfl⟩
      have hb3 : Below wr.heap.size wr W3 := by rw [← hW3]; exact (Below.refl _ wr).alloc (Nat.le_refl _) _
      have hS : Blk W3 wr.heap.size 48 (snC x B cb) := by rw [← hW3]; exact Blk.new _ _ _
      have HB3 := Lib.hid hb3
      have HS3 := Lib.hid hS
      have HL3 := Lib.hid (HLA.out.below hb3)
      have x0 := hS.cell 0
      have x1 := hS.cell 1
      have hlx := hS.lt
      have l0 := HL3.out.cell 0
      have l1 := HL3.out.cell 1
      have hll := HL3.out.lt
      simp only [snC, List.getElem?_toArray, List.getElem?_cons_zero, List.getElem?_cons_succ] at x0 x1 l0 l1
      unfold snC at hW3
      clear hS hb3
      have HAB := Lib.hid (above_any x.g last W3)
      unfold gv at HAB
      go_upto_region 10 with fail
      try rw [hW3]
      clear hW3 e0 e1 e2 e3
      obtain ⟨gs, hgs⟩ : ∃ g, wr.heap.size = g := ⟨_, rfl⟩
      have HGS := Lib.hid hgs
      rw [hgs] at x0 x1 hlx HS3
      try rw [hgs]
      clear hgs
      go_wp2_with fail
      refine HAB.out.mono ?_
      rintro e W4 ⟨rfl, hb4⟩
      have HB4 := Lib.hid (below_step HB3.out hb4)
      have HS4 := Lib.hid (HS3.out.below hb4)
      have HL4 := Lib.hid (HL3.out.below hb4)
      have hS := HS4.out
      have x1' := hS.cell 2
      have hlx := hS.lt
      simp only [snC, List.getElem?_toArray, List.getElem?_cons_zero, List.getElem?_cons_succ] at x1'
      clear hb4 x0 x1 l0 l1 hll hS HS3 HL3
      obtain ⟨q, hq⟩ : ∃ q, above x.g last = q := ⟨_, rfl⟩
      rw [hq]
      cases q with
      | false =>
        have HR : Hid (res = 2) := by
          unfold Hid
          rw [← HRES2.out, HSN.out, HDR.out, snChk_bad hq]
          rfl
        clear hq
        go_wp2_with fail
        go_ret
        exact ⟨by rw [HR.out]; rfl, below_step HBW.out HB4.out⟩
      | true =>
        have HQ := Lib.hid hq
        clear hq
        go_wp2_with fail
        refine (hcheck_any B cb x.img b n W4 (HSL.out.below HB4.out) HXS.out HNB.out.1 HNB.out.2).mono ?_
        rintro e W5 ⟨rfl, hb5⟩
        have HB5 := Lib.hid (below_step HB4.out hb5)
        have HS5 := Lib.hid (HS4.out.below hb5)
        have HL5 := Lib.hid (HL4.out.below hb5)
        clear hb5 x1' hlx HS4 HL4
        obtain ⟨ei, hei⟩ : ∃ z, iCheck x.img b n = z := ⟨_, rfl⟩
        rw [hei]
        by_cases he : ei = 0
        · subst he
          have HN : Hid (snChk b n (0, 0) m.snaps = snChk b n x.g (m.snaps.drop (k + 1))) := by
            unfold Hid
            rw [HSN.out, HDR.out, snChk_next HQ.out hei]
          have x0 := HS5.out.cell 0
          have x1 := HS5.out.cell 1
          have hlx := HS5.out.lt
          have hll := HL5.out.lt
          have l0 := HL5.out.cell 0
          have l1 := HL5.out.cell 1
          have f0 := HL5.out.frozen 0
          have f1 := HL5.out.frozen 1
          simp only [snC, List.getElem?_toArray, List.getElem?_cons_zero, List.getElem?_cons_succ] at x0 x1 l0 l1
          clear hei
          go_wp2_with fail
          have HL6 := Lib.hid ((HL5.out.set_ 0 (.int .u64 (x.g.1 : Int))).set_ 1 (.int .u64 (x.g.2 : Int)))
          go_roundw
          case rel =>
            refine ⟨k + 1, x.g, by rw [HLEN.out]; omega, by go_num, HL6.out, HN.out, ?_⟩
            have hbt : But (fun j => j = gl) W2 W5 := HBT.out.trans (But.of_below HB5.out) (fun i hi => .inl hi)
            exact (hbt.setCell _ _ (.inl rfl)).setCell _ _ (.inl rfl)
          case measure => simp [intOf]; have := HLEN.out; omega
        · have hne : (ei != 0) = true := by simpa using he
          have HR : Hid (res = ei) := by
            unfold Hid
            rw [← HRES2.out, HSN.out, HDR.out, snChk_img HQ.out (by rw [hei]; exact he), hei]
            simp [he]
          clear hei he
          go_wp2_with fail
          go_ret
          exact ⟨by rw [HR.out]; rfl, below_step HBW.out HB5.out⟩
    · have hki : ¬ (k : Int) < (len : Int) := by omega
      have hsn : snChk b n (0, 0) m.snaps = (0, last) := by
        rw [HSN.out, List.drop_eq_nil_of_le (by have := HLEN.out; omega)]
        rfl
      have HR : Hid (tkChk b n last m.tok = res) := by
        unfold Hid
        rw [← HRES2.out, hsn]
        simp
      have HT := Lib.hid (checkToken_any m.tok A2 c2' last b n wr (HM.out.img.below HBW.out) HSZ.out.img HNB.out.1 HNB.out.2)
      rw [HR.out] at HT
      unfold gv tkC at HT
      have c2 := HAW.out.cell 2
      have c3 := HAW.out.cell 3
      have c4 := HAW.out.cell 4
      have c5 := HAW.out.cell 5
      have c6 := HAW.out.cell 6
      have c7 := HAW.out.cell 7
      have c8 := HAW.out.cell 8
      have l0 := HLA.out.cell 0
      have l1 := HLA.out.cell 1
      have hla := HAW.out.lt
      have hll := HLA.out.lt
      simp only [mtC, List.getElem?_toArray, List.getElem?_cons_zero, List.getElem?_cons_succ] at c2 c3 c4 c5 c6 c7 c8 l0 l1
      clear hsn HSN
      go_wp2_with fail
      refine HT.out.mono ?_
      rintro e W4 ⟨rfl, hb4⟩
      have HB4 := Lib.hid (below_step HBW.out hb4)
      clear hb4 c2 c3 c4 c5 c6 c7 c8 l0 l1
      go_wp2_with fail
      go_ret
      exact ⟨rfl, HB4.out⟩
end Go.Proofs.Ytklmgdiaianlbaa.mt.pg

/- A token's bytes, a table's bytes, as the program lays them; Encode. -/
namespace Go.Proofs.Ytklmgdiaianlbaa.mt.pg
open Go Go.RowKit Go.Proofs.Ytklmgdiaianlbaa.ib Go.Proofs.Ytklmgdiaianlbaa.wi Go.Proofs.Ytklmgdiaianlbaa.im Go.Proofs.Ytklmgdiaianlbaa.mt
set_option maxRecDepth 100000

def endT0 (r : List UInt8) (w0 w : World) (e : Ending) (w' : World) : Prop := e = .returned (.string (str r)) ∧ Below w0.heap.size w0 w' ∧ Below w.heap.size w w'
theorem lay1 (L : List UInt8) (z : Int) (W : World) (h0 : 0 ≤ z) (h1 : z ≤ 9223372036854775807) (hs : L.length ≤ 100000) :
    Calls Try.prog 68 #[.string (str L), .slice (some ⟨W.heap.size, 0, none⟩) 1 1] (W.alloc (.cells #[.int .i64 z] 3)) (fun e w' => e = .returned (.string (str (L ++ intB z))) ∧ Below W.heap.size W w') := by
  have h := lay_any L (some ⟨W.heap.size, 0, none⟩) 1 [z] (W.alloc (.cells #[.int .i64 z] 3)) (nums_new W [z] (by intro x hx; simp only [List.mem_cons, List.not_mem_nil, or_false] at hx; subst hx; unfold i64B; omega)) (by intro x hx; simp only [List.mem_cons, List.not_mem_nil, or_false] at hx; subst hx; exact h0) hs (by simp)
  refine h.mono ?_
  rintro e w' ⟨rfl, hb⟩
  exact ⟨by simp [intsB], below_step ((Below.refl _ W).alloc (Nat.le_refl _) _) hb⟩
theorem lay2 (L : List UInt8) (z y : Int) (W : World) (h0 : 0 ≤ z) (h1 : z ≤ 9223372036854775807) (h2 : 0 ≤ y) (h3 : y ≤ 9223372036854775807) (hs : L.length ≤ 100000) :
    Calls Try.prog 68 #[.string (str L), .slice (some ⟨W.heap.size, 0, none⟩) 2 2] (W.alloc (.cells #[.int .i64 z, .int .i64 y] 3)) (fun e w' => e = .returned (.string (str (L ++ (intB z ++ intB y)))) ∧ Below W.heap.size W w') := by
  have h := lay_any L (some ⟨W.heap.size, 0, none⟩) 2 [z, y] (W.alloc (.cells #[.int .i64 z, .int .i64 y] 3)) (nums_new W [z, y] (by intro x hx; simp only [List.mem_cons, List.not_mem_nil, or_false] at hx; unfold i64B; rcases hx with rfl | rfl <;> omega)) (by intro x hx; simp only [List.mem_cons, List.not_mem_nil, or_false] at hx; rcases hx with rfl | rfl <;> assumption) hs (by simp)
  refine h.mono ?_
  rintro e w' ⟨rfl, hb⟩
  exact ⟨by simp [intsB], below_step ((Below.refl _ W).alloc (Nat.le_refl _) _) hb⟩
theorem nats_new (W : World) (l : List Nat) (h : ∀ z ∈ l, z < 18446744073709551616) (t : TypeId) : NatsAt (W.alloc (.cells (l.map fun (n : Nat) => Value.int .u64 (n : Int)).toArray t)) (some ⟨W.heap.size, 0, none⟩) l := fun i hi =>
  ⟨W.heap.size, 0, rfl, by simp, by rw [Nat.zero_add, (Blk.new W t _).cell i]; simp [hi], h _ (List.getElem_mem hi)⟩
theorem layG (L : List UInt8) (g : Gd) (W : World) (hg : gdB g) (hs : L.length ≤ 100000) :
    Calls Try.prog 69 #[.string (str L), .slice (some ⟨W.heap.size, 0, none⟩) 2 2] (W.alloc (.cells #[.int .u64 (g.1 : Int), .int .u64 (g.2 : Int)] 24)) (fun e w' => e = .returned (.string (str (L ++ gdBs g))) ∧ Below W.heap.size W w') := by
  have h := layU_any L (some ⟨W.heap.size, 0, none⟩) 2 [g.1, g.2] (W.alloc (.cells #[.int .u64 (g.1 : Int), .int .u64 (g.2 : Int)] 24)) (nats_new W [g.1, g.2] (by intro x hx; simp only [List.mem_cons, List.not_mem_nil, or_false] at hx; rcases hx with rfl | rfl; exact hg.1; exact hg.2) _) hs (by simp)
  refine h.mono ?_
  rintro e w' ⟨rfl, hb⟩
  exact ⟨by simp [natsB, gdBs], below_step ((Below.refl _ W).alloc (Nat.le_refl _) _) hb⟩
theorem layGG (L : List UInt8) (g y : Gd) (W : World) (hg : gdB g) (hy : gdB y) (hs : L.length ≤ 100000) :
    Calls Try.prog 69 #[.string (str L), .slice (some ⟨W.heap.size, 0, none⟩) 4 4] (W.alloc (.cells #[.int .u64 (g.1 : Int), .int .u64 (g.2 : Int), .int .u64 (y.1 : Int), .int .u64 (y.2 : Int)] 24)) (fun e w' => e = .returned (.string (str (L ++ (gdBs g ++ gdBs y)))) ∧ Below W.heap.size W w') := by
  have h := layU_any L (some ⟨W.heap.size, 0, none⟩) 4 [g.1, g.2, y.1, y.2] (W.alloc (.cells #[.int .u64 (g.1 : Int), .int .u64 (g.2 : Int), .int .u64 (y.1 : Int), .int .u64 (y.2 : Int)] 24)) (nats_new W [g.1, g.2, y.1, y.2] (by intro x hx; simp only [List.mem_cons, List.not_mem_nil, or_false] at hx; rcases hx with rfl | rfl | rfl | rfl; exact hg.1; exact hg.2; exact hy.1; exact hy.2) _) hs (by simp)
  refine h.mono ?_
  rintro e w' ⟨rfl, hb⟩
  exact ⟨by simp [natsB, gdBs], below_step ((Below.refl _ W).alloc (Nat.le_refl _) _) hb⟩

def tkP (t : Tk) : List UInt8 := if t = tk0 then numB 0 else numB 1 ++ (gdBs t.base ++ (gdBs t.target ++ (intB t.next ++ (intB t.all ++ intsB t.img))))
/-- A token that can be laid. -/
structure TkF (t : Tk) : Prop where
  base : gdB t.base
  target : gdB t.target
  next : 0 ≤ t.next ∧ t.next ≤ 9223372036854775807
  all : 0 ≤ t.all ∧ t.all ≤ 9223372036854775807
  img : ∀ z ∈ t.img, 0 ≤ z
  few : t.img.length ≤ 100

set_option maxHeartbeats 6400000 in
theorem putToken_any (L : List UInt8) (t : Tk) (A : Option Addr) (c : Nat) (w : World) (h : SlAt w A t.img c) (ht : TkF t) (hs : L.length ≤ 50000) : Calls Try.prog 71 #[.string (str L), .agg (tkC t A c)] w (endT (L ++ tkP t) w) := by
  have HT := Lib.hid ht
  have HS := Lib.hid hs
  have hb := (Below.refl w.heap.size w).alloc (Nat.le_refl _) (.cells (tkC t A c) 28)
  have ha := Blk.new w 28 (tkC t A c)
  obtain ⟨W, hW⟩ : ∃ z, w.alloc (.cells (tkC t A c) 28) = z := ⟨_, rfl⟩
  rw [hW] at hb ha
  have HI := Lib.hid (h.below hb)
  have HN := Lib.hid (isNone_any t A c W HI.out (by have := ht.few; omega))
  have HB := Lib.hid hb
  have HA := Lib.hid ha
  have a0 := ha.cell 0
  have a1 := ha.cell 1
  have a2 := ha.cell 2
  have a3 := ha.cell 3
  have a4 := ha.cell 4
  have a5 := ha.cell 5
  have a6 := ha.cell 6
  have hla := ha.lt
  simp only [tkC, List.getElem?_toArray, List.getElem?_cons_zero, List.getElem?_cons_succ] at a0 a1 a2 a3 a4 a5 a6
  clear hb ha h hs ht
  unfold tkC at hW HN ⊢
  go_enter Try.func71, Try.ntmps71
  go_upto_region 1 with fail
  try rw [hW]
  clear hW
  go_wp2_with fail
  refine HN.out.mono ?_
  rintro e W1 ⟨rfl, hb1⟩
  have HB1 := Lib.hid (below_step HB.out hb1)
  have HA1 := Lib.hid (HA.out.below hb1)
  have HI1 := Lib.hid (HI.out.below hb1)
  clear hb1 a0 a1 a2 a3 a4 a5 a6 hla HN HA HI HB
  by_cases h0 : t = tk0
  · have HR : Hid (tkP t = intB 0) := by unfold Hid tkP; rw [if_pos h0]; rfl
    rw [decide_eq_true h0]
    clear h0
    go_wp2_with fail
    refine (flag_any false W1).mono ?_
    rintro e _ ⟨rfl, rfl⟩
    dsimp only
    go_wp2_with fail
    refine (lay1 L 0 _ (by omega) (by omega) (by have := HS.out; omega)).mono ?_
    rintro e W2 ⟨rfl, hb2⟩
    have HB2 := Lib.hid (below_step HB1.out hb2)
    rw [← HR.out]
    clear hb2
    go_wp2_with fail
    go_ret
    exact ⟨rfl, HB2.out⟩
  · have HR : Hid (tkP t = intB 1 ++ (gdBs t.base ++ (gdBs t.target ++ (intB t.next ++ (intB t.all ++ intsB t.img))))) := by unfold Hid tkP; rw [if_neg h0]; rfl
    rw [decide_eq_false h0]
    clear h0
    go_wp2_with fail
    refine (flag_any true W1).mono ?_
    rintro e _ ⟨rfl, rfl⟩
    dsimp only
    go_wp2_with fail
    refine (lay1 L 1 _ (by omega) (by omega) (by have := HS.out; omega)).mono ?_
    rintro e W2 ⟨rfl, hb2⟩
    have HB2 := Lib.hid (below_step HB1.out hb2)
    have ha := HA1.out.below hb2
    have HA2 := Lib.hid ha
    have HI2 := Lib.hid (HI1.out.below hb2)
    obtain ⟨L1, hL1⟩ : ∃ x, L ++ intB 1 = x := ⟨_, rfl⟩
    have HL1 := Lib.hid hL1
    have HS1 : Hid (L1.length ≤ 50009) := by
      unfold Hid
      rw [← hL1, List.length_append]
      have := HS.out
      have := numB_len (1 : Int).toNat
      unfold intB
      omega
    rw [hL1]
    have a0 := ha.cell 0
    have a1 := ha.cell 1
    have a2 := ha.cell 2
    have a3 := ha.cell 3
    have hla := ha.lt
    simp only [tkC, List.getElem?_toArray, List.getElem?_cons_zero, List.getElem?_cons_succ] at a0 a1 a2 a3
    clear hb2 ha hL1
    go_wp2_with fail
    refine (layGG L1 t.base t.target _ HT.out.base HT.out.target (by have := HS1.out; omega)).mono ?_
    rintro e W3 ⟨rfl, hb3⟩
    have HB3 := Lib.hid (below_step HB2.out hb3)
    have ha := HA2.out.below hb3
    have HA3 := Lib.hid ha
    have HI3 := Lib.hid (HI2.out.below hb3)
    obtain ⟨L2, hL2⟩ : ∃ x, L1 ++ (gdBs t.base ++ gdBs t.target) = x := ⟨_, rfl⟩
    have HL2 := Lib.hid hL2
    have HS2 : Hid (L2.length ≤ 50100) := by
      unfold Hid
      rw [← hL2]
      have := HS1.out
      have := numB_len t.base.1
      have := numB_len t.base.2
      have := numB_len t.target.1
      have := numB_len t.target.2
      unfold gdBs
      simp only [List.length_append]
      omega
    rw [hL2]
    have a4 := ha.cell 4
    have a5 := ha.cell 5
    have hla := ha.lt
    simp only [tkC, List.getElem?_toArray, List.getElem?_cons_zero, List.getElem?_cons_succ] at a4 a5
    clear hb3 ha hL2 a0 a1 a2 a3
    go_wp2_with fail
    refine (lay2 L2 t.next t.all _ HT.out.next.1 HT.out.next.2 HT.out.all.1 HT.out.all.2 (by have := HS2.out; omega)).mono ?_
    rintro e W4 ⟨rfl, hb4⟩
    have HB4 := Lib.hid (below_step HB3.out hb4)
    have ha := HA3.out.below hb4
    have HI4 := Lib.hid (HI3.out.below hb4)
    obtain ⟨L3, hL3⟩ : ∃ x, L2 ++ (intB t.next ++ intB t.all) = x := ⟨_, rfl⟩
    have HL3 := Lib.hid hL3
    have HS3 : Hid (L3.length ≤ 50200) := by
      unfold Hid
      rw [← hL3]
      have := HS2.out
      have := numB_len t.next.toNat
      have := numB_len t.all.toNat
      unfold intB
      simp only [List.length_append]
      omega
    rw [hL3]
    have a6 := ha.cell 6
    have hla := ha.lt
    simp only [tkC, List.getElem?_toArray, List.getElem?_cons_zero, List.getElem?_cons_succ] at a6
    clear hb4 ha hL3 a4 a5
    go_wp2_with fail
    refine (lay_any L3 A c t.img W4 HI4.out.ints HT.out.img (by have := HS3.out; omega) (by have := HT.out.few; omega)).mono ?_
    rintro e W5 ⟨rfl, hb5⟩
    have HB5 := Lib.hid (below_step HB4.out hb5)
    have HE : Hid (L3 ++ intsB t.img = L ++ tkP t) := by
      unfold Hid
      rw [HR.out, ← HL3.out, ← HL2.out, ← HL1.out]
      simp only [List.append_assoc]
    rw [HE.out]
    clear hb5 a6 hla
    go_wp2_with fail
    go_ret
    exact ⟨rfl, HB5.out⟩
end Go.Proofs.Ytklmgdiaianlbaa.mt.pg

/- What the document's own calls that lay numbers and texts as bytes do: PutNum and PutText of package stemmaref01. -/
namespace Go.Proofs.Ytklmgdiaianlbaa.wi
open Go.RowKit
set_option maxRecDepth 100000

def RefRel (n0 : Nat) (w : World) (n b : Value) (wr : World) : Prop :=
  ∃ (m : Nat) (L : List UInt8), n = .int .u64 (m : Int) ∧ m < 18446744073709551616 ∧ digs n0 = digs m ++ L ∧
    wr.ownsRow w.heap.size 5 1 b L.length (Lib.byteCells L) ∧ Below w.heap.size w wr

theorem conv_row (L : List UInt8) (v : Value) (B : Nat) (wr : World) (h : wr.ownsRow B 5 1 v L.length (Lib.byteCells L)) :
    (convert 44 9 v).run Try.prog wr = .ok (.string (str L)) wr := by
  rcases h.2 with ⟨rfl, hn⟩ | ⟨g, cap, cur, rfl, _⟩
  · have : L = [] := List.length_eq_zero_iff.1 hn
    subst this
    exact run_convert_bytes_nil (P := Try.prog) wr 44 5 Try.underlying44 Try.underlying5 0 0 9 Try.underlying9
  · refine run_convert_bytes_back (P := Try.prog) wr 44 9 5 ⟨g, 0, none⟩ cap L Try.underlying44 Try.underlying5 Try.underlying9 ?_
    intro j hj
    have := h.cellAt j (by omega)
    rw [addr_add, Nat.zero_add, this]
    simp [Lib.byteCells, List.getElem?_eq_getElem hj]

theorem add_str (a b : ByteArray) (h : a.size + b.size ≤ 9223372036854775807) (w : World) : (Op.stringOp .add a b).run Try.prog w = .ok (.string (str (bl a ++ bl b))) w := by
  rw [run_string_add_sum (P := Try.prog) w a b h]
  obtain ⟨⟨x⟩⟩ := a
  obtain ⟨⟨y⟩⟩ := b
  congr 2

theorem row_form {B : Nat} {wr : World} {v : Value} {L : List UInt8} (h : wr.ownsRow B 5 1 v L.length (Lib.byteCells L)) : ∃ a c, v = .slice a L.length c := by
  rcases h.2 with ⟨rfl, hn⟩ | ⟨g, cap, cur, rfl, _⟩
  · exact ⟨none, 0, by rw [hn]⟩
  · exact ⟨_, _, rfl⟩

set_option maxHeartbeats 400000 in
theorem refPutNum_any (s : ByteArray) (n : Nat) (w : World) (h1 : n < 18446744073709551616) (hs : s.size ≤ 140737488355000) :
    Calls Try.prog 72 #[.string s, .int .u64 (n : Int)] w (okPutNum s n w) := by
  have hl := digs_len n
  obtain ⟨i0, hi, hz0, hz1, hz2⟩ := info_parts Try.info5
  have hbl := bl_len s
  have Hbl := Lib.hid hbl
  clear hbl
  go_enter Try.func72, Try.ntmps72
  go_wp2
  go_loopw [1, 5] (fun n' b wr => RefRel n w n' b wr) (fun n' _ _ => (intOf n').toNat)
  case atStart => exact ⟨n, [], rfl, h1, by simp, World.ownsRow_nil _ _ _ _, Below.refl _ _⟩
  case round =>
    obtain ⟨m, L, rfl, hm, hd, hown, hB⟩ := hrel
    by_cases h0 : m = 0
    · subst h0
      have hL : digs n = L := by simpa [digs_zero] using hd
      subst hL
      clear hd
      have hcv := conv_row (digs n) _ _ _ (hown.alloc (.cells #[.int .u8 ((digs n).length : Int)] 5))
      have hc1 := conv1 (digs n).length (by omega) wr
      have ha1 := add_str s (str [UInt8.ofNat (digs n).length]) (by rw [str_size]; simp; omega)
      have ha2 := add_str (str (bl s ++ bl (str [UInt8.ofNat (digs n).length]))) (str (digs n)) (by rw [str_size, str_size]; have := Hbl.out; simp [bl_str]; omega)
      rw [bl_str, bl_str, bl_str] at ha2
      rw [bl_str] at ha1
      obtain ⟨a, c, rfl⟩ := row_form hown
      clear hi hz0 hz1 hz2
      go_wp2
      go_ret
      exact ⟨rfl, below_new hB _⟩
    · have hpos : (0 : Int) < (m : Int) := by omega
      have hdp := digs_pos m h0 hm
      have hD : digs n = digs (m / 256) ++ (UInt8.ofNat (m % 256) :: L) := by rw [hd, hdp]; simp
      have hLl : L.length ≤ 8 := by have := congrArg List.length hd; simp at this; omega
      have hm1 : m / 256 < 18446744073709551616 := by omega
      have hz : (UInt8.ofNat (m % 256)).toNat = m % 256 := ofNat_small _ (by omega)
      have hdst : (wr.alloc (.cells #[.int .u8 ((m : Int) % 256)] 5)).ownsRow w.heap.size 5 1 (.slice (some ⟨wr.heap.size, 0, none⟩) 1 1) 1 [.int .u8 ((m : Int) % 256)] :=
        World.ownsRow_lit wr #[.int .u8 ((m : Int) % 256)] 1 hB.size (by unfold maxLen; omega) (by simp)
      have hcat : Value.int .u8 ((m : Int) % 256) :: Lib.byteCells L = Lib.byteCells (UInt8.ofNat (m % 256) :: L) := by
        simp [Lib.byteCells, hz]
      have Hcat := Lib.hid hcat
      have HD := Lib.hid hD
      have hbn := below_new hB (.cells #[.int .u8 ((m : Int) % 256)] 5)
      clear hcat hD hd hdp hz
      rcases hown.2 with ⟨rfl, hn⟩ | ⟨g, cap, cur, rfl, hrest⟩
      · have : L = [] := List.length_eq_zero_iff.1 hn
        subst this
        clear hown hn
        go_wp2
        exact ⟨⟨m / 256, [UInt8.ofNat (m % 256)], rfl, hm1, HD.out, by rw [← Hcat.out]; exact hdst, hbn⟩, by simp [intOf]; omega⟩
      · have hnews : ∀ j u, (Lib.byteCells L)[j]? = some u → (wr.alloc (.cells #[.int .u8 ((m : Int) % 256)] 5)).cell? ((⟨g, 0, none⟩ : Addr).add j) = some u :=
          (hown.alloc _).cells rfl
        have h1c : ∀ u ∈ Lib.byteCells L, u.oneCell' = true := by
          intro u hu
          obtain ⟨x, _, rfl⟩ := List.mem_map.1 hu
          rfl
        have hlen := Lib.byteCells_length L
        have Hnews := Lib.hid hnews
        have Hlen := Lib.hid hlen
        have H1c := Lib.hid h1c
        clear hnews hlen h1c hrest hown
        go_wp2_with (at_builtin; refine wpList_append_own _ rfl _ _ 44 rfl w.heap.size 5 i0 (.int .u8 0) 1 1 Try.underlying44 hi hz0 hz1 hz2 rfl (by decide) _ 1 _ rfl hdst ⟨g, 0, none⟩ L.length cap (Lib.byteCells L) rfl ?_ Hnews.out H1c.out ?_ ?_ hbn.size ?_)
        · rw [Hlen.out]; omega
        · unfold maxLen; omega
        · omega
        · intro v' w1 hown1 hgrow _
          rw [Hcat.out, show 1 + L.length = (UInt8.ofNat (m % 256) :: L).length from by simp; omega] at hown1
          have hb1 := hbn.grown hgrow hbn.size (fun j hj => by simp [Value.ownBlock] at hj; have := hB.size; omega)
          have Hown1 := Lib.hid hown1
          clear hown1 hgrow hdst
          go_wp2
          exact ⟨⟨m / 256, _, rfl, hm1, HD.out, Hown1.out, hb1⟩, by simp [intOf]; omega⟩

end Go.Proofs.Ytklmgdiaianlbaa.wi

/- The document's own bytes of numbers, of a guid. -/
namespace Go.Proofs.Ytklmgdiaianlbaa.mt
open Go Go.RowKit Go.Proofs.Ytklmgdiaianlbaa.ib Go.Proofs.Ytklmgdiaianlbaa.wi
set_option maxRecDepth 100000

def endT (r : List UInt8) (w : World) (e : Ending) (w' : World) : Prop := e = .returned (.string (str r)) ∧ Below w.heap.size w w'
def NmRel (s : ByteArray) (l : List Int) (w : World) (v i : Value) (wr : World) : Prop :=
  ∃ k : Nat, k ≤ l.length ∧ i = .int .i64 (k : Int) ∧ v = .string (str (bl s ++ intsB (l.take k))) ∧ Below w.heap.size w wr
theorem intsB_snoc (l : List Int) (k : Nat) (h : k < l.length) : intsB (l.take (k + 1)) = intsB (l.take k) ++ intB l[k] := by
  unfold intsB
  rw [List.take_succ_eq_append_getElem h, List.flatMap_append]
  simp
theorem intB_len (z : Int) : (intB z).length ≤ 9 := by
  unfold intB numB
  have := digs_len z.toNat
  simp only [List.length_cons]
  omega
theorem intsB_len : ∀ l : List Int, (intsB l).length ≤ 9 * l.length
  | [] => by simp [intsB]
  | z :: l => by
    have h1 := intB_len z
    have h2 := intsB_len l
    simp only [intsB, List.flatMap_cons, List.length_append, List.length_cons] at h2 ⊢
    omega

set_option maxHeartbeats 1600000 in
theorem nums_any (s : ByteArray) (A : Option Addr) (c : Nat) (l : List Int) (w : World) (hl : IntsAt w A l) (h0 : ∀ z ∈ l, 0 ≤ z) (hs : s.size + 9 * l.length ≤ 1000000000) :
    Calls Try.prog 48 #[.string s, .slice A l.length c] w (endT (bl s ++ intsB l) w) := by
  have HL := Lib.hid hl
  have HN := Lib.hid h0
  have HS := Lib.hid hs
  clear hl h0 hs
  go_enter Try.func48, Try.ntmps48
  go_wp2_with fail
  go_loopw [0, 5] (fun v i wr => NmRel s l w v i wr) (fun _ i _ => l.length - (intOf i).toNat)
  case atStart => exact ⟨0, Nat.zero_le _, rfl, by simp [intsB, str_bl], Below.refl _ _⟩
  case round =>
    obtain ⟨k, hk, rfl, rfl, hb⟩ := hrel
    have HB := Lib.hid hb
    have hl1 : l.length ≤ 1000000000 := by have := HS.out; omega
    clear hb
    by_cases hlt : k < l.length
    · have hki : (k : Int) < (l.length : Int) := by omega
      obtain ⟨b, o, rfl, hbl, hc, hz⟩ := HL.out k hlt
      have hz0 := HN.out l[k] (List.getElem_mem hlt)
      have HSN := Lib.hid (intsB_snoc l k hlt)
      have HLN := Lib.hid (intsB_len (l.take k))
      have e0 : wr.cell? ⟨b, o + k, none⟩ = some (.int .i64 l[k]) := by rw [HB.out.cell (p := ⟨b, o + k, none⟩) hbl]; exact hc
      have l0 : b < wr.heap.size := Nat.lt_of_lt_of_le hbl HB.out.size
      clear hc hbl
      obtain ⟨u, hu⟩ : ∃ u : Nat, l[k] = (u : Int) := ⟨l[k].toNat, by omega⟩
      rw [hu] at e0
      have hu64 : (u : Int) ≤ 9223372036854775807 := by rw [← hu]; exact hz.2
      have HU := Lib.hid hu
      obtain ⟨P, hP⟩ : ∃ P, str (bl s ++ intsB (l.take k)) = P := ⟨_, rfl⟩
      have hPs : P.size ≤ 140737488355000 := by
        rw [← hP, str_size, List.length_append, bl_len]
        have := HLN.out
        have := HS.out
        simp at *
        omega
      have HP := Lib.hid hP
      have HPS := Lib.hid hPs
      rw [hP]
      clear hP hPs hu hz hz0
      go_wp2_with fail
      refine (refPutNum_any P u wr (by omega) HPS.out).mono ?_
      rintro e w' ⟨rfl, hb'⟩
      have HB' := Lib.hid (below_step HB.out hb')
      clear hb'
      go_wp2_with fail
      go_roundw
      case rel =>
        refine ⟨k + 1, by omega, by go_num, ?_, HB'.out⟩
        rw [HSN.out, HU.out, ← HP.out, bl_str, List.append_assoc]
        rfl
      case measure => simp [intOf]; omega
    · have hki : ¬ (k : Int) < (l.length : Int) := by omega
      obtain rfl : k = l.length := by omega
      rw [List.take_length]
      go_wp2_with fail
      go_ret
      exact ⟨rfl, HB.out⟩
end Go.Proofs.Ytklmgdiaianlbaa.mt

/- The document's own bytes of a guid. -/
namespace Go.Proofs.Ytklmgdiaianlbaa.mt
open Go Go.RowKit Go.Proofs.Ytklmgdiaianlbaa.ib Go.Proofs.Ytklmgdiaianlbaa.wi Go.Proofs.Ytklmgdiaianlbaa.im
set_option maxRecDepth 100000

def GbG (g0 x y : Nat) (S0 S1 S2 : ByteArray) : Nat → Value → World → Prop
  | 0, v, _ => v = .string S0
  | 1, v, _ => v = .pointer (some ⟨g0, 0, none⟩)
  | 2, v, _ => v = .int .u64 (x : Int)
  | 3, v, _ => v = .string S1
  | 4, v, _ => v = .pointer (some ⟨g0, 1, none⟩)
  | 5, v, _ => v = .int .u64 (y : Int)
  | 6, v, _ => v = .string S2
  | 7, v, _ => v = .string S2
  | _, _, _ => True
theorem GbG_mono (g0 x y : Nat) (S0 S1 S2 : ByteArray) (i : Nat) (v : Value) (w w' : World) (hi : i < 8) (h : GbG g0 x y S0 S1 S2 i v w) (hb : Below w.heap.size w w') : GbG g0 x y S0 S1 S2 i v w' := by
  match i, hi, h with
  | 0, _, h | 1, _, h | 2, _, h | 3, _, h | 4, _, h | 5, _, h | 6, _, h | 7, _, h => exact h
  | j + 8, hi, _ => exact absurd hi (by omega)

theorem numB_len (n : Nat) : (numB n).length ≤ 9 := by
  unfold numB
  have := digs_len n
  simp only [List.length_cons]
  omega
theorem gdBs_len (g : Gd) : (gdBs g).length ≤ 18 := by
  unfold gdBs
  have := numB_len g.1
  have := numB_len g.2
  rw [List.length_append]
  omega

set_option maxHeartbeats 3200000 in
theorem gd_any (s : ByteArray) (g : Gd) (w : World) (hg : gdB g) (hs : s.size ≤ 1000000000) : Calls Try.prog 49 #[.string s, gv g] w (endT (bl s ++ gdBs g) w) := by
  obtain ⟨x, y⟩ := g
  obtain ⟨hx, hy⟩ := hg
  dsimp only at hx hy
  show Calls Try.prog 49 #[.string s, .agg #[.int .u64 (x : Int), .int .u64 (y : Int)]] w _
  obtain ⟨S0, hS0⟩ : ∃ S0, s = S0 := ⟨_, rfl⟩
  subst hS0
  obtain ⟨S1, hS1⟩ : ∃ S1, str (bl s ++ numB x) = S1 := ⟨_, rfl⟩
  have h1s : S1.size ≤ 1000000009 := by rw [← hS1, str_size, List.length_append, bl_len]; have := numB_len x; omega
  obtain ⟨S2, hS2⟩ : ∃ S2, str (bl S1 ++ numB y) = S2 := ⟨_, rfl⟩
  have HS1 := Lib.hid hS1
  have HS2 := Lib.hid hS2
  have HF : Hid (S2 = str (bl s ++ gdBs (x, y))) := by unfold Hid gdBs; rw [← hS2, ← hS1, bl_str, List.append_assoc]
  have HP1 : Hid (∀ W, Calls Try.prog 72 #[.string s, .int .u64 (x : Int)] W (okPutNum s x W)) := fun W => refPutNum_any s x W hx (by omega)
  have HP2 : Hid (∀ W, Calls Try.prog 72 #[.string S1, .int .u64 (y : Int)] W (okPutNum S1 y W)) := fun W => refPutNum_any S1 y W hy (by omega)
  clear hS1 hS2 h1s hs
  have HB0 := Lib.hid ((Below.refl w.heap.size w).alloc (Nat.le_refl _) (.cells #[.int .u64 (x : Int), .int .u64 (y : Int)] 26))
  have HA0 := Lib.hid (Blk.new w 26 #[.int .u64 (x : Int), .int .u64 (y : Int)])
  obtain ⟨w0, hw0⟩ : ∃ z, w.alloc (.cells #[.int .u64 (x : Int), .int .u64 (y : Int)] 26) = z := ⟨_, rfl⟩
  rw [hw0] at HB0 HA0
  go_enter Try.func49, Try.ntmps49
  go_wp2_with fail
  try rw [hw0]
  clear hw0
  refine wp_region_inv (by kernel_rfl) [5, 6, 7, 8, 9, 10, 11, 4] (by kernel_rfl) (fun L vs W => Below w0.heap.size w0 W ∧ ∀ i, L i = true → i < 8 → GbG w.heap.size x y s S1 S2 i (vs i) W) ⟨(Below.refl _ _).drew, fun i hi => by cases hi⟩ ?_ ?_ ?_
  · intro i o L vs ρ W ho hli haft hρ hgd hI
    obtain ⟨hb, hG'⟩ := hI
    have hG : ∀ j, L j = true → GbG w.heap.size x y s S1 S2 j (vs j) W := fun j hj => by
      by_cases h51 : j < 8
      · exact hG' j hj h51
      · match j, h51 with
        | j + 8, _ => exact trivial
    have hi51 : i < 8 := (Array.getElem?_eq_some_iff.1 ho).1
    have hc := hρ.const
    have hfn := hρ.fn
    have next : ∀ v W', Below W.heap.size W W' → GbG w.heap.size x y s S1 S2 i v W' → Below w0.heap.size w0 W' ∧ ∀ j, updB L i j = true → j < 8 → GbG w.heap.size x y s S1 S2 j (updV vs i v j) W' := fun v W' h1 h2 => by
      refine ⟨below_step hb h1, fun j hj h51 => ?_⟩
      by_cases hji : j = i
      · subst hji
        simpa [updV] using h2
      · simp only [updB, if_neg hji] at hj
        simpa [updV, hji] using GbG_mono w.heap.size x y s S1 S2 j _ W W' h51 (hG' j hj h51) h1
    have hA := HA0.out.below hb
    have hlt := hA.lt
    have c0 := hA.cell 0
    have c1 := hA.cell 1
    simp only [List.getElem?_toArray, List.getElem?_cons_zero, List.getElem?_cons_succ] at c0 c1
    rcases i with _ | _ | _ | _ | _ | _ | _ | _ | i
    all_goals (first | omega | skip)
    all_goals simp only [List.getElem?_toArray, List.getElem?_cons_zero, List.getElem?_cons_succ, Option.some.injEq] at ho
    all_goals subst ho
    · have o0 : ρ (.tmp 0) = .string s := hρ.out 0 rfl
      exact stepTo_value (w' := W) (by unfold execOp; simp only [o0, hc]; go_simp) (next _ _ (Below.refl _ _) rfl)
    · have o3 : ρ (.tmp 3) = .pointer (some ⟨w.heap.size, 0, none⟩) := hρ.out 3 rfl
      exact stepTo_value (w' := W) (by unfold execOp; simp only [o3, hc]; go_simp) (next _ _ (Below.refl _ _) rfl)
    · have g6 : GbG w.heap.size x y s S1 S2 1 (vs 1) W := hG 1 (haft 1 (by kernel_rfl))
      have s6 : ρ (.tmp 6) = .pointer (some ⟨w.heap.size, 0, none⟩) := (hρ.at_ 6 1 rfl).trans g6
      exact stepTo_value (w' := W) (by unfold execOp; simp only [s6, hc]; go_simp) (next _ _ (Below.refl _ _) rfl)
    · have g5 : GbG w.heap.size x y s S1 S2 0 (vs 0) W := hG 0 (haft 0 (by kernel_rfl))
      have s5 : ρ (.tmp 5) = .string s := (hρ.at_ 5 0 rfl).trans g5
      have g7 : GbG w.heap.size x y s S1 S2 2 (vs 2) W := hG 2 (haft 2 (by kernel_rfl))
      have s7 : ρ (.tmp 7) = .int .u64 (x : Int) := (hρ.at_ 7 2 rfl).trans g7
      refine stepTo_enter (f := 72) (args := #[.string s, .int .u64 (x : Int)]) (w' := W) (by unfold execOp; simp only [hfn, s5, s7]; go_simp) ((HP1.out W).mono ?_)
      rintro x W' ⟨rfl, hb'⟩
      exact ⟨_, rfl, next _ _ hb' (congrArg Value.string HS1.out)⟩
    · have o3 : ρ (.tmp 3) = .pointer (some ⟨w.heap.size, 0, none⟩) := hρ.out 3 rfl
      exact stepTo_value (w' := W) (by unfold execOp; simp only [o3, hc]; go_simp) (next _ _ (Below.refl _ _) rfl)
    · have g9 : GbG w.heap.size x y s S1 S2 4 (vs 4) W := hG 4 (haft 4 (by kernel_rfl))
      have s9 : ρ (.tmp 9) = .pointer (some ⟨w.heap.size, 1, none⟩) := (hρ.at_ 9 4 rfl).trans g9
      exact stepTo_value (w' := W) (by unfold execOp; simp only [s9, hc]; go_simp) (next _ _ (Below.refl _ _) rfl)
    · have g8 : GbG w.heap.size x y s S1 S2 3 (vs 3) W := hG 3 (haft 3 (by kernel_rfl))
      have s8 : ρ (.tmp 8) = .string S1 := (hρ.at_ 8 3 rfl).trans g8
      have g10 : GbG w.heap.size x y s S1 S2 5 (vs 5) W := hG 5 (haft 5 (by kernel_rfl))
      have s10 : ρ (.tmp 10) = .int .u64 (y : Int) := (hρ.at_ 10 5 rfl).trans g10
      refine stepTo_enter (f := 72) (args := #[.string S1, .int .u64 (y : Int)]) (w' := W) (by unfold execOp; simp only [hfn, s8, s10]; go_simp) ((HP2.out W).mono ?_)
      rintro x W' ⟨rfl, hb'⟩
      exact ⟨_, rfl, next _ _ hb' (congrArg Value.string HS2.out)⟩
    · have g11 : GbG w.heap.size x y s S1 S2 6 (vs 6) W := hG 6 (haft 6 (by kernel_rfl))
      have s11 : ρ (.tmp 11) = .string S2 := (hρ.at_ 11 6 rfl).trans g11
      exact stepTo_value (w' := W) (by unfold execOp; simp only [s11, hc]; go_simp) (next _ _ (Below.refl _ _) rfl)
  · intro i o L vs W j want ho hli haft hg hv hI
    obtain ⟨hb, hG'⟩ := hI
    have hG : ∀ j, L j = true → GbG w.heap.size x y s S1 S2 j (vs j) W := fun j hj => by
      by_cases h51 : j < 8
      · exact hG' j hj h51
      · match j, h51 with
        | j + 8, _ => exact trivial
    have hi51 : i < 8 := (Array.getElem?_eq_some_iff.1 ho).1
    rcases i with _ | _ | _ | _ | _ | _ | _ | _ | i
    all_goals (first | omega | skip)
    all_goals simp only [List.getElem?_toArray, List.getElem?_cons_zero, List.getElem?_cons_succ, Option.some.injEq] at ho
    all_goals subst ho
    all_goals simp only [reduceCtorEq, Option.some.injEq, Prod.mk.injEq] at hg
  · intro vs W hI
    have g7 : vs 7 = .string S2 := hI.2 7 (by decide) (by decide)
    have hbW := Lib.hid (below_step HB0.out hI.1)
    clear hI
    go_wp2_with fail
    refine bodyPost_slot 7 rfl (by decide +kernel) (by kernel_rfl) rfl g7 ⟨by rw [HF.out], hbW.out⟩
end Go.Proofs.Ytklmgdiaianlbaa.mt


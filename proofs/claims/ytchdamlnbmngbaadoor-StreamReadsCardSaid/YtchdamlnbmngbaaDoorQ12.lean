/- StRDec, StSld, StPureW. -/
import Derived.Test.YtchdamlnbmngbaaDoorQ1
import Derived.Test.YtchdamlnbmngbaaDoorQ10
import Derived.Test.YtchdamlnbmngbaaDoorQ11
import Derived.Test.YtchdamlnbmngbaaDoorQ4
import Derived.Test.YtchdamlnbmngbaaDoorQ6
import Derived.Test.YtchdamlnbmngbaaDoorQ7
import Derived.Test.YtchdamlnbmngbaaDoorQ8
import Derived.Test.YtchdamlnbmngbaaDoorQ9
set_option linter.unusedVariables false
set_option linter.unusedSimpArgs false
/- The document's reading of a part. -/
namespace Go.Proofs.YtchdamlnbmngbaaDoor.st
open Go Go.RowKit Go.Sort Go.Proofs.YtchdamlnbmngbaaDoor.ib Go.Proofs.YtchdamlnbmngbaaDoor.wi Go.Proofs.YtchdamlnbmngbaaDoor.mt
open Go.Proofs.YtchdamlnbmngbaaDoor.ch (ChL OChs chVals infoCh)
set_option maxRecDepth 100000

def endQ (c : Nat) (s : St) (w : World) (e : Ending) (w' : World) : Prop := e = .returned (.string (str (textS s).1)) ∧ But (Tc c) w w' ∧ QS w' c (textS s).2
theorem qtext_any {w : World} {c : Nat} {s : St} (h : QS w c s) : Calls Tryd.prog 57 #[.pointer (some ⟨c, 0, none⟩)] w (endQ c s w) := by
  unfold QS at h
  split at h
  · obtain ⟨q, h1⟩ := h
    refine (q_text_bad c q w h1).mono ?_
    rintro e w' ⟨hg, rfl, hq⟩
    exact ⟨rfl, but_grown hg, _, hq⟩
  · obtain ⟨q, rfl, h1⟩ := h
    refine (q_text c q w h1).mono ?_
    rintro e w' ⟨hg, ⟨t, r, s', h2, rfl, h3, hq⟩ | ⟨h2, rfl, hq⟩⟩
    · have hn : textS (some (bl q)) = (t, some r) := by unfold textS; simp only [h2]
      unfold endQ
      rw [hn]
      exact ⟨rfl, but_grown hg, s', h3, hq⟩
    · have hn : textS (some (bl q)) = ([], none) := by unfold textS; simp only [h2]
      unfold endQ
      rw [hn]
      exact ⟨rfl, but_grown hg, _, hq⟩
theorem qs_blk {w : World} {c : Nat} {s : St} (h : QS w c s) : ∃ cs, Blk w c 85 cs := by
  unfold QS at h
  split at h
  · obtain ⟨q, h1, _⟩ := h
    exact ⟨_, h1⟩
  · obtain ⟨q, _, h1, _⟩ := h
    exact ⟨_, h1⟩
theorem q_kp {w w' : World} {c : Nat} {s : St} (h : QS w c s) (hb : But (Tc c) w w') : Kp 85 w w' := by
  obtain ⟨cs, hc⟩ := qs_blk h
  exact Kp.of_but hb hc
theorem rChs_snoc : ∀ (n : Nat) (s : St), rChs (n + 1) s = ((rChs n s).1 ++ [(rCh (rChs n s).2).1], (rCh (rChs n s).2).2)
  | 0, s => rfl
  | n + 1, s => by
    have ih := rChs_snoc n (rCh s).2
    show ((((rCh s).1 :: (rChs (n + 1) (rCh s).2).1), (rChs (n + 1) (rCh s).2).2) : List Ch × St) = _
    rw [ih]
    rfl
theorem rChs_b64 : ∀ (n : Nat) (s : St), ∀ x ∈ (rChs n s).1, b64 x.1
  | 0, _, x, hx => absurd hx (by simp [rChs])
  | n + 1, s, x, hx => by
    simp only [rChs, List.mem_cons] at hx
    rcases hx with rfl | hx
    · unfold rCh b64
      dsimp only
      omega
    · exact rChs_b64 n _ x hx
/-- Numbers one behind the other. -/
def stS : Nat → St → St
  | 0, s => s
  | n + 1, s => (numS (stS n s)).2
def xS (n : Nat) (s : St) : Nat := (numS (stS n s)).1
def arrF (s : St) (k : Nat) : Array Value := #[.int .u64 (if 0 < k then (xS 0 s : Int) else 0), .int .u64 (if 1 < k then (xS 1 s : Int) else 0), .int .u64 (if 2 < k then (xS 2 s : Int) else 0), .int .u64 (if 3 < k then (xS 3 s : Int) else 0), .int .u64 (if 4 < k then (xS 4 s : Int) else 0), .int .u64 (if 5 < k then (xS 5 s : Int) else 0), .int .u64 (if 6 < k then (xS 6 s : Int) else 0)]
theorem arrF_set (s : St) (k : Nat) (hk : k < 7) : (arrF s k).setIfInBounds k (.int .u64 (xS k s : Int)) = arrF s (k + 1) := by
  match k, hk with
  | 0, _ | 1, _ | 2, _ | 3, _ | 4, _ | 5, _ | 6, _ => simp [arrF]
theorem arrF_old (s : St) (k : Nat) (hk : k < 7) : (arrF s k)[k]? = some (.int .u64 0) := by
  match k, hk with
  | 0, _ | 1, _ | 2, _ | 3, _ | 4, _ | 5, _ | 6, _ => simp [arrF]
theorem rP_is (s : St) : rP s = (⟨(xS 0 s, xS 1 s), (xS 2 s, xS 3 s), ((min (xS 4 s) 99 : Nat) : Int), ((min (xS 5 s) 99 : Nat) : Int), (rChs (min (xS 6 s) 9) (stS 7 s)).1⟩, (rChs (min (xS 6 s) 9) (stS 7 s)).2) := rfl

/-- A part that the document's way reads: its block, the result's, the numbers', its changes so far, what the reader has left. -/
structure RkS (w : World) (c gm gR gA : Nat) (ar : Array Value) (s : St) (g t : Gd) (fr all : Int) (v : Value) (l : List Ch) (W : World) : Prop where
  m : Blk W gm 30 (pC g t fr all v)
  res : Blk W gR 30 pZ
  arr : Blk W gA 86 ar
  row : OChs W w.heap.size v l
  q : QS W c s
  below : Below w.heap.size w W
  lo : w.heap.size ≤ gm ∧ w.heap.size ≤ c
  ne : gm ≠ gR
section
variable {w W W' : World} {c gm gR gA : Nat} {ar : Array Value} {s s' : St} {g t : Gd} {fr all : Int} {v : Value} {l : List Ch}
theorem RkS.grow (h : RkS w c gm gR gA ar s g t fr all v l W) (hb : Below W.heap.size W W') : RkS w c gm gR gA ar s g t fr all v l W' :=
  ⟨h.m.below hb, h.res.below hb, h.arr.below hb, row_of_block h.row (fun j hj => hb.block j (h.row.lt j hj).2), h.q.block (hb.block _ h.q.lt), below_step h.below hb, h.lo, h.ne⟩
theorem RkS.turn (h : RkS w c gm gR gA ar s g t fr all v l W) (hb : But (Tc c) W W') (hq : QS W' c s') : RkS w c gm gR gA ar s' g t fr all v l W' := by
  have hk := q_kp h.q hb
  exact ⟨hk _ _ _ (by decide) h.m, hk _ _ _ (by decide) h.res, hk _ _ _ (by decide) h.arr, hk.row (by decide) h.row, hq, h.below.trans (hb.below (fun j hj => by unfold Tc at hj; rw [hj]; exact h.lo.2) h.below.size), h.lo, h.ne⟩
theorem RkS.own {j : Nat} (h : RkS w c gm gR gA ar s g t fr all v l W) (hl : l.length = j) : W.ownsRow w.heap.size 36 2 v j (chVals l) := by
  have := h.row
  unfold OChs at this
  rwa [hl] at this
theorem RkS.lowb (h : RkS w c gm gR gA ar s g t fr all v l W) : w.heap.size ≤ W.heap.size := h.below.size
theorem RkS.push {x : Ch} {v' : Value} {j : Nat} (h : RkS w c gm gR gA ar s g t fr all v l W) (hl : l.length = j) (ho : W'.ownsRow w.heap.size 36 2 v' (j + 1) (chVals l ++ [.int .i64 x.1, .string (str x.2)])) (hg : W.grownBy W' v.ownBlock) :
    RkS w c gm gR gA ar s g t fr all v' (l ++ [x]) (W'.setCell ⟨gm, 6, none⟩ v') ∧ W'.cell? ⟨gm, 6, none⟩ = some v ∧ W'.frozen? ⟨gm, 6, none⟩ = false := by
  have hk := Kp.of_grown hg h.row
  have hm := hk _ _ _ (by decide) h.m
  have hr := hk _ _ _ (by decide) h.res
  have ha := hk _ _ _ (by decide) h.arr
  obtain ⟨cs, hcb⟩ := qs_blk h.q
  have hcb' := hk _ _ _ (by decide) hcb
  have ho' : OChs W' w.heap.size v' (l ++ [x]) := ochs_snoc (by rw [hl]; exact ho)
  have hq' : QS W' c s := h.q.block (hg.block c hcb.lt (fun e => own_type h.row hcb (by decide) c e.symm rfl))
  have hb' : Below w.heap.size w W' := h.below.grown hg h.below.size (fun j hj => (h.row.lt j hj).1)
  refine ⟨⟨?_, hr.of_block (set_oth _ _ _ _ _ h.ne.symm), ha.of_block (set_oth _ _ _ _ _ (blk_type ha hm (by decide))), row_of_block ho' (fun j hj => set_oth _ _ _ _ _ (own_type ho' hm (by decide) j hj)), hq'.block (set_oth _ _ _ _ _ (blk_type hcb' hm (by decide))), hb'.setCell (show w.heap.size ≤ gm from h.lo.1) _, h.lo, h.ne⟩, ?_, hm.frozen 6⟩
  · have := hm.set_ 6 v'
    simp only [pC, List.setIfInBounds_toArray, List.set_cons_succ, List.set_cons_zero] at this
    exact this
  · rw [hm.cell 6]
    simp [pC]
end
def RkQ (w : World) (c gm gR gA : Nat) (ar : Array Value) (s s' : St) (g t : Gd) (fr all : Int) (v : Value) (l : List Ch) (q : Bool) (W : World) : Prop := RkS w c gm gR gA ar (cond q s' s) g t fr all v l W
section
variable {w W W' : World} {c gm gR gA : Nat} {ar : Array Value} {s s' : St} {g t : Gd} {fr all : Int} {v : Value} {l : List Ch} {q : Bool}
theorem RkQ.m (h : RkQ w c gm gR gA ar s s' g t fr all v l q W) : Blk W gm 30 (pC g t fr all v) := RkS.m h
theorem RkQ.grow (h : RkQ w c gm gR gA ar s s' g t fr all v l q W) (hb : Below W.heap.size W W') : RkQ w c gm gR gA ar s s' g t fr all v l q W' := RkS.grow h hb
theorem RkQ.own {j : Nat} (h : RkQ w c gm gR gA ar s s' g t fr all v l q W) (hl : l.length = j) : W.ownsRow w.heap.size 36 2 v j (chVals l) := RkS.own h hl
theorem RkQ.lowb (h : RkQ w c gm gR gA ar s s' g t fr all v l q W) : w.heap.size ≤ W.heap.size := RkS.lowb h
theorem RkQ.push {x : Ch} {v' : Value} {j : Nat} (h : RkQ w c gm gR gA ar s s' g t fr all v l true W) (hl : l.length = j) (ho : W'.ownsRow w.heap.size 36 2 v' (j + 1) (chVals l ++ [.int .i64 x.1, .string (str x.2)])) (hg : W.grownBy W' v.ownBlock) :
    RkS w c gm gR gA ar s' g t fr all v' (l ++ [x]) (W'.setCell ⟨gm, 6, none⟩ v') ∧ W'.cell? ⟨gm, 6, none⟩ = some v ∧ W'.frozen? ⟨gm, 6, none⟩ = false := RkS.push h hl ho hg
end
/-- The numbers so far. -/
structure R7S (w : World) (c gR gA : Nat) (s : St) (k : Nat) (W : World) : Prop where
  res : Blk W gR 30 pZ
  arr : Blk W gA 86 (arrF s k)
  q : QS W c (stS k s)
  below : Below w.heap.size w W
  lo : w.heap.size ≤ gA
def R7 (w : World) (c gR gA : Nat) (s : St) (i : Value) (wr : World) : Prop := ∃ k : Nat, k ≤ 7 ∧ i = .int .i64 (k : Int) ∧ R7S w c gR gA s k wr
def RkRel (w : World) (c gm gR gA : Nat) (ar : Array Value) (s : St) (g t : Gd) (fr all : Int) (N : Nat) (i : Value) (wr : World) : Prop :=
  ∃ (k : Nat) (v : Value), k ≤ N ∧ i = .int .u64 (k : Int) ∧ RkS w c gm gR gA ar (rChs k s).2 g t fr all v (rChs k s).1 wr
def RtG (gm c : Nat) (v1 : Value) (x1 : Int) (T : ByteArray) : Nat → Value → World → Prop
  | 0, v, _ => v = .pointer (some ⟨gm, 6, none⟩)
  | 1, v, _ => v = v1
  | 2, v, _ => v = .int .i64 x1
  | 3, v, _ => v = .pointer (some ⟨c, 0, none⟩)
  | 4, v, _ => v = .string T
  | 5, v, _ => v = .agg #[.int .i64 x1, .string T]
  | 6, v, W => ∃ g, v = .slice (some ⟨g, 0, none⟩) 1 1 ∧ Blk W g 36 #[.int .i64 x1, .string T]
  | _, _, _ => True
theorem RtG_mono (gm c : Nat) (v1 : Value) (x1 : Int) (T : ByteArray) (i : Nat) (v : Value) (w w' : World) (hi : i < 7) (h : RtG gm c v1 x1 T i v w) (hb : Kp 85 w w') : RtG gm c v1 x1 T i v w' := by
  match i, hi, h with
  | 0, _, h | 1, _, h | 2, _, h | 3, _, h | 4, _, h | 5, _, h => exact h
  | 6, _, ⟨g, h1, h2⟩ => exact ⟨g, h1, hb _ _ _ (by decide) h2⟩
  | j + 7, hi, _ => exact absurd hi (by omega)

set_option maxHeartbeats 12800000 in
theorem rdec_any (s : ByteArray) (w : World) (hs : s.size ≤ 100000) : Calls Tryd.prog 21 #[.string s] w (endP (pDec (bl s)) w) := by
  obtain ⟨i0, hi, hz0, hz1, hz2⟩ := info_parts infoCh
  have HDI : Hid (pDec (bl s) = match openB (bl s) with
    | none => (pa0, 4)
    | some l => if pEnc (rP (some l)).1 = (bl s, 0) then ((rP (some l)).1, 0) else (pa0, 4)) := rfl
  have c1 := (Below.refl w.heap.size w).alloc (Nat.le_refl _) (.cells pZ 30)
  have k1 := Blk.new w 30 pZ
  obtain ⟨W1, hW1⟩ : ∃ z, w.alloc (.cells pZ 30) = z := ⟨_, rfl⟩
  rw [hW1] at c1 k1
  have HB1 := Lib.hid c1
  obtain ⟨gR, hgR⟩ : ∃ q, w.heap.size = q := ⟨_, rfl⟩
  rw [hgR] at k1
  have HR1 := Lib.hid k1
  have HGE : Hid (w.heap.size ≤ gR) := Nat.le_of_eq hgR
  obtain ⟨D, hD⟩ : ∃ z, pDec (bl s) = z := ⟨_, rfl⟩
  rw [hD] at HDI ⊢
  have HOP := Lib.hid (ropen_any s W1 (by omega))
  have HOL : Hid (∀ m, openB (bl s) = some m → m.length ≤ 100000) := fun m h => by
    have := openB_is _ m h
    have h2 := congrArg List.length this
    rw [sealB_length, bl_len] at h2
    omega
  unfold pZ at hW1
  clear c1 k1 hD
  go_enter Tryd.func21, Tryd.ntmps21
  go_upto_region 1 with fail
  try rw [hW1]
  try rw [hgR]
  clear hW1 hgR
  go_wp2_with fail
  refine HOP.out.mono ?_
  rintro e W2 ⟨ho, c2⟩
  have HBX := Lib.hid (below_step HB1.out c2)
  have HRX := Lib.hid (HR1.out.below c2)
  clear c2 HOP HB1 HR1
  cases hop : openB (bl s) with
  | none =>
    rw [hop] at ho HDI
    dsimp only at ho HDI
    subst ho
    have HD4 : Hid (D = (pa0, 4)) := HDI.out
    clear hop HDI HOL
    have hr := HRX.out
    have a0 := hr.cell 0
    have f0 := hr.frozen 0
    have a1 := hr.cell 1
    have f1 := hr.frozen 1
    have a2 := hr.cell 2
    have f2 := hr.frozen 2
    have a3 := hr.cell 3
    have f3 := hr.frozen 3
    have a4 := hr.cell 4
    have f4 := hr.frozen 4
    have a5 := hr.cell 5
    have f5 := hr.frozen 5
    have a6 := hr.cell 6
    have f6 := hr.frozen 6
    have hrl := hr.lt
    simp only [pZ, List.getElem?_toArray, List.getElem?_cons_zero, List.getElem?_cons_succ] at a0 a1 a2 a3 a4 a5 a6
    clear hr
    go_wp2_with fail
    show bodyPost _ _ _ _ _ (setPa W2 gR (0, 0) (0, 0) 0 0 nlS)
    rw [HD4.out]
    exact pa_none (b := gR) Tryd.results21 _ rfl (by simp) (by simp) (by rw [pZ_is]; exact setPa_blk (by rw [← pZ_is]; exact HRX.out)) (setPa_below HBX.out HGE.out)
  | some m =>
    rw [hop] at ho HDI
    dsimp only at ho HDI
    subst ho
    have hml := HOL.out m hop
    clear hop HOL
    have cb := (Below.refl W2.heap.size W2).alloc (Nat.le_refl _) (.cells #[.string (str m), .bool false] 85)
    have kb := Blk.new W2 85 #[.string (str m), .bool false]
    obtain ⟨W3, hW3⟩ : ∃ z, W2.alloc (.cells #[.string (str m), .bool false] 85) = z := ⟨_, rfl⟩
    rw [hW3] at cb kb
    obtain ⟨c, hcc⟩ : ∃ z, W2.heap.size = z := ⟨_, rfl⟩
    rw [hcc] at kb
    have HW3 := Lib.hid hW3
    have HCC := Lib.hid hcc
    have HCG : Hid (w.heap.size ≤ c) := by unfold Hid; rw [← hcc]; exact HBX.out.size
    have hq3 : QS W3 c (some m) := ⟨str m, bl_str m, kb, by rw [str_size]; omega⟩
    have ca := (Below.refl W3.heap.size W3).alloc (Nat.le_refl _) (.cells (arrF (some m) 0) 86)
    have ka := Blk.new W3 86 (arrF (some m) 0)
    obtain ⟨W4, hW4⟩ : ∃ z, W3.alloc (.cells (arrF (some m) 0) 86) = z := ⟨_, rfl⟩
    rw [hW4] at ca ka
    obtain ⟨gA, hgA⟩ : ∃ z, W3.heap.size = z := ⟨_, rfl⟩
    rw [hgA] at ka
    have HW4 := Lib.hid hW4
    have HGA := Lib.hid hgA
    have H7 : Hid (R7S w c gR gA (some m) 0 W4) := ⟨(HRX.out.below cb).below ca, ka, hq3.block (ca.block _ hq3.lt), below_step (below_step HBX.out cb) ca, by rw [← hgA]; exact Nat.le_trans HBX.out.size cb.size⟩
    unfold arrF at HW4
    simp only [Nat.lt_irrefl, Nat.not_lt_zero, if_false] at HW4
    clear cb kb hW3 hcc hq3 ca ka hW4 hgA HBX HRX hml
    obtain ⟨M, hM⟩ : ∃ z, str m = z := ⟨_, rfl⟩
    rw [hM] at HW3 ⊢
    clear hM
    go_upto_region 5 with fail
    try rw [HW3.out]
    try rw [HCC.out]
    clear HW3 HCC
    go_upto_region 6 with fail
    try rw [HW4.out]
    try rw [HGA.out]
    clear HW4 HGA
    obtain ⟨S0, hS0⟩ : ∃ z, (some m : St) = z := ⟨_, rfl⟩
    rw [hS0] at H7 HDI
    clear hS0
    go_wp2_with fail
    go_loopw [8] (fun i wr => R7 w c gR gA S0 i wr) (fun i _ => 7 - (intOf i).toNat)
    case atStart => exact ⟨0, by omega, rfl, H7.out⟩
    case round =>
      obtain ⟨k, hk, rfl, hst⟩ := hrel
      have HST := Lib.hid hst
      clear hst
      by_cases hlt : k < 7
      · have hki : (k : Int) < 7 := by omega
        go_wp2_with fail
        refine (num_any HST.out.q).mono ?_
        rintro e W5 ⟨rfl, hb5, hq5⟩
        have hk5 := q_kp HST.out.q hb5
        have ha5 := hk5 _ _ _ (by decide) HST.out.arr
        have hr5 := hk5 _ _ _ (by decide) HST.out.res
        have hbb : Below w.heap.size w W5 := HST.out.below.trans (hb5.below (fun j hj => by unfold Tc at hj; rw [hj]; exact HCG.out) HST.out.below.size)
        obtain ⟨x, hx⟩ : ∃ z, (numS (stS k S0)).1 = z := ⟨_, rfl⟩
        have hx2 : xS k S0 = x := hx
        rw [hx]
        have e0 : W5.cell? ⟨gA, k, none⟩ = some (.int .u64 0) := by rw [ha5.cell k]; exact arrF_old S0 k hlt
        have e1 : W5.frozen? ⟨gA, k, none⟩ = false := ha5.frozen k
        have el := ha5.lt
        have hset := ha5.set_ k (.int .u64 (x : Int))
        rw [← hx2, arrF_set S0 k hlt, hx2] at hset
        obtain ⟨cs, hcb⟩ := qs_blk hq5
        have H8 : Hid (R7S w c gR gA S0 (k + 1) (W5.setCell ⟨gA, k, none⟩ (.int .u64 (x : Int)))) :=
          ⟨hr5.of_block (set_oth _ _ _ _ _ (blk_type hr5 ha5 (by decide))), hset, hq5.block (set_oth _ _ _ _ _ (blk_type hcb ha5 (by decide))), hbb.setCell (show w.heap.size ≤ gA from HST.out.lo) _, HST.out.lo⟩
        clear hb5 hq5 hk5 ha5 hr5 hbb hset hcb hx hx2 HST
        go_wp2_with fail
        go_roundw
        case rel => exact ⟨k + 1, by omega, by go_num, H8.out⟩
        case measure => simp [intOf]; omega
      · have hki : ¬ (k : Int) < 7 := by omega
        obtain rfl : k = 7 := by omega
        have HPI := Lib.hid (rP_is S0)
        have HGB : Hid (gdB (xS 0 S0, xS 1 S0) ∧ gdB (xS 2 S0, xS 3 S0)) := ⟨⟨numS_lt _, numS_lt _⟩, numS_lt _, numS_lt _⟩
        have hx4 := numS_lt (stS 4 S0)
        have hx5 := numS_lt (stS 5 S0)
        have hx6 := numS_lt (stS 6 S0)
        have ha := HST.out.arr
        have HAF : Hid (arrF S0 7 = #[.int .u64 (xS 0 S0 : Int), .int .u64 (xS 1 S0 : Int), .int .u64 (xS 2 S0 : Int), .int .u64 (xS 3 S0 : Int), .int .u64 (xS 4 S0 : Int), .int .u64 (xS 5 S0 : Int), .int .u64 (xS 6 S0 : Int)]) := rfl
        have HRX := Lib.hid HST.out.res
        have HQX := Lib.hid HST.out.q
        have HBX := Lib.hid HST.out.below
        rw [HAF.out] at ha
        change xS 4 S0 < _ at hx4
        change xS 5 S0 < _ at hx5
        change xS 6 S0 < _ at hx6
        obtain ⟨x0, h0⟩ : ∃ z, xS 0 S0 = z := ⟨_, rfl⟩
        obtain ⟨x1, h1⟩ : ∃ z, xS 1 S0 = z := ⟨_, rfl⟩
        obtain ⟨x2, h2⟩ : ∃ z, xS 2 S0 = z := ⟨_, rfl⟩
        obtain ⟨x3, h3⟩ : ∃ z, xS 3 S0 = z := ⟨_, rfl⟩
        obtain ⟨x4, h4⟩ : ∃ z, xS 4 S0 = z := ⟨_, rfl⟩
        obtain ⟨x5, h5⟩ : ∃ z, xS 5 S0 = z := ⟨_, rfl⟩
        obtain ⟨x6, h6⟩ : ∃ z, xS 6 S0 = z := ⟨_, rfl⟩
        obtain ⟨s7, h7⟩ : ∃ z, stS 7 S0 = z := ⟨_, rfl⟩
        rw [h0, h1, h2, h3, h4, h5, h6] at HPI ha
        rw [h7] at HPI HQX
        rw [h0, h1, h2, h3] at HGB
        rw [h4] at hx4
        rw [h5] at hx5
        rw [h6] at hx6
        clear h0 h1 h2 h3 h4 h5 h6 h7 HAF HST
        have hm4 : min (x4 : Int) 99 = ((min x4 99 : Nat) : Int) := by omega
        have hm5 : (if (99 : Int) < (x4 : Int) then (99 : Int) else (x4 : Int)) = ((min x4 99 : Nat) : Int) := by split <;> omega
        have hm6 : min (x5 : Int) 99 = ((min x5 99 : Nat) : Int) := by omega
        have hm7 : (if (99 : Int) < (x5 : Int) then (99 : Int) else (x5 : Int)) = ((min x5 99 : Nat) : Int) := by split <;> omega
        have hf99 : min x4 99 ≤ 99 := by omega
        have ha99 : min x5 99 ≤ 99 := by omega
        have hN6 : min x6 9 ≤ 9 ∧ min x6 9 ≤ x6 ∧ (min x6 9 = 9 ∨ min x6 9 = x6) := by omega
        obtain ⟨fn, hfn⟩ : ∃ z, min x4 99 = z := ⟨_, rfl⟩
        obtain ⟨an, han⟩ : ∃ z, min x5 99 = z := ⟨_, rfl⟩
        obtain ⟨NN, hNN⟩ : ∃ z, min x6 9 = z := ⟨_, rfl⟩
        rw [hfn] at hm4 hm5 hf99 HPI
        rw [han] at hm6 hm7 ha99 HPI
        rw [hNN] at hN6 HPI
        clear hfn han hNN
        have q0 := ha.cell 0
        have q1 := ha.cell 1
        have q2 := ha.cell 2
        have q3 := ha.cell 3
        have q4 := ha.cell 4
        have q5 := ha.cell 5
        have q6 := ha.cell 6
        have ql := ha.lt
        simp only [List.getElem?_toArray, List.getElem?_cons_zero, List.getElem?_cons_succ] at q0 q1 q2 q3 q4 q5 q6
        have cb := (Below.refl wr.heap.size wr).alloc (Nat.le_refl _) (.cells #[.int .u64 (x0 : Int), .int .u64 (x1 : Int), .int .u64 (x2 : Int), .int .u64 (x3 : Int), .int .i64 (fn : Int), .int .i64 (an : Int), .slice none 0 0] 30)
        have kb := Blk.new wr 30 #[.int .u64 (x0 : Int), .int .u64 (x1 : Int), .int .u64 (x2 : Int), .int .u64 (x3 : Int), .int .i64 (fn : Int), .int .i64 (an : Int), .slice none 0 0]
        obtain ⟨W5, hW5⟩ : ∃ z, wr.alloc (.cells #[.int .u64 (x0 : Int), .int .u64 (x1 : Int), .int .u64 (x2 : Int), .int .u64 (x3 : Int), .int .i64 (fn : Int), .int .i64 (an : Int), .slice none 0 0] 30) = z := ⟨_, rfl⟩
        rw [hW5] at cb kb
        obtain ⟨gm, hgm⟩ : ∃ z, wr.heap.size = z := ⟨_, rfl⟩
        rw [hgm] at kb
        have HW5 := Lib.hid hW5
        have HGM := Lib.hid hgm
        obtain ⟨ar, har⟩ : ∃ z : Array Value, #[.int .u64 (x0 : Int), .int .u64 (x1 : Int), .int .u64 (x2 : Int), .int .u64 (x3 : Int), .int .u64 (x4 : Int), .int .u64 (x5 : Int), .int .u64 (x6 : Int)] = z := ⟨_, rfl⟩
        have HA6 : Hid (ar[6]? = some (.int .u64 (x6 : Int))) := by unfold Hid; rw [← har]; rfl
        rw [har] at ha
        have hGm : gm ≠ gR := by have := HRX.out.lt; omega
        have H8 : Hid (RkS w c gm gR gA ar s7 (x0, x1) (x2, x3) (fn : Int) (an : Int) nlS [] W5) :=
          ⟨kb, HRX.out.below cb, ha.below cb, World.ownsRow_nil _ _ _ _, HQX.out.block (cb.block _ HQX.out.lt), below_step HBX.out cb, ⟨by rw [← hgm]; exact HBX.out.size, HCG.out⟩, hGm⟩
        have HFB : Hid (b64 (fn : Int) ∧ b64 (an : Int)) := ⟨⟨by omega, by omega⟩, by omega, by omega⟩
        clear cb kb hW5 hgm har ha HRX HQX HBX hGm
        go_upto_region 11 with fail
        try rw [HW5.out]
        try rw [HGM.out]
        clear HW5 HGM q0 q1 q2 q3 q4 q5 q6 ql hm4 hm5 hm6 hm7 hf99 ha99
        have HPV : Hid ((rP S0).1 = ⟨(x0, x1), (x2, x3), (fn : Int), (an : Int), (rChs NN s7).1⟩) := by unfold Hid; rw [HPI.out]
        obtain ⟨g, hg⟩ : ∃ q, (x0, x1) = q := ⟨_, rfl⟩
        obtain ⟨t, ht⟩ : ∃ q, (x2, x3) = q := ⟨_, rfl⟩
        obtain ⟨fr, hfr⟩ : ∃ q : Int, (fn : Int) = q := ⟨_, rfl⟩
        obtain ⟨all, hall⟩ : ∃ q : Int, (an : Int) = q := ⟨_, rfl⟩
        rw [hg, ht, hfr, hall] at H8 HPV
        rw [hg, ht] at HGB
        rw [hfr, hall] at HFB
        clear hg ht hfr hall HPI
        obtain ⟨wo, rfl⟩ : ∃ wo : World, wo = wr := ⟨_, rfl⟩
        go_wp2_with fail
        go_loopw [10] (fun i wr => RkRel w c gm gR gA ar s7 g t fr all NN i wr) (fun i _ => NN - (intOf i).toNat)
        case atStart => exact ⟨0, nlS, Nat.zero_le _, rfl, H8.out⟩
        case round =>
          obtain ⟨k, v1, hk, rfl, hst⟩ := hrel
          have HST := Lib.hid hst
          have HLN := Lib.hid (rChs_len k s7)
          have HLK := Lib.hid (rChs_len k s7)
          obtain ⟨A5, c5, hv⟩ := own_form hst.row
          rw [HLN.out] at hv
          have q6 := hst.arr.cell 6
          rw [HA6.out] at q6
          have ql := hst.arr.lt
          clear hst
          by_cases hlt : k < NN
          · have hk1 : (k : Int) < (x6 : Int) := by omega
            have hk2 : (k : Int) < 9 := by omega
            clear HLK
            have HSN := Lib.hid (rChs_snoc k s7)
            obtain ⟨lk, hlk⟩ : ∃ q, (rChs k s7).1 = q := ⟨_, rfl⟩
            obtain ⟨sk, hsk⟩ : ∃ q, (rChs k s7).2 = q := ⟨_, rfl⟩
            rw [hlk] at HST HLN HSN
            rw [hsk] at HST HSN
            clear hlk hsk
            have hkb : k ≤ 9 := by omega
            have hb1 : min ((numS sk).1 : Int) 99 = ((min (numS sk).1 99 : Nat) : Int) := by omega
            have hb2 : (if (99 : Int) < ((numS sk).1 : Int) then (99 : Int) else ((numS sk).1 : Int)) = ((min (numS sk).1 99 : Nat) : Int) := by split <;> omega
            have hb3 : min (numS sk).1 99 ≤ 99 := by omega
            have hb4 := numS_lt sk
            have HNU := Lib.hid (num_any HST.out.q)
            obtain ⟨bb, hbb⟩ : ∃ z, min (numS sk).1 99 = z := ⟨_, rfl⟩
            obtain ⟨xx, hxx⟩ : ∃ z, (numS sk).1 = z := ⟨_, rfl⟩
            have HXX0 := Lib.hid hxx
            have HBB := Lib.hid hbb
            rw [hbb] at hb1 hb2 hb3
            rw [hxx] at hb1 hb2 hb4
            clear hbb hxx
            go_wp2_with fail
            refine HNU.out.mono ?_
            rintro e WC ⟨rfl, hbu, hq⟩
            rw [HXX0.out]
            have HTQ := Lib.hid (HST.out.turn hbu hq)
            obtain ⟨sk1, hs1⟩ : ∃ z, (numS sk).2 = z := ⟨_, rfl⟩
            rw [hs1] at HTQ
            go_upto_region 15 with fail
            obtain ⟨z1, hz1'⟩ : ∃ z : Int, (bb : Int) = z := ⟨_, rfl⟩
            rw [hz1']
            obtain ⟨T, hT⟩ : ∃ z, str (textS sk1).1 = z := ⟨_, rfl⟩
            obtain ⟨sk2, hs2⟩ : ∃ z, (textS sk1).2 = z := ⟨_, rfl⟩
            obtain ⟨X, hX⟩ : ∃ z : Ch, ((z1, (textS sk1).1) : Ch) = z := ⟨_, rfl⟩
            have HXX : Hid (([.int .i64 X.1, .string (str X.2)] : List Value) = [.int .i64 z1, .string T]) := by unfold Hid; rw [← hX, ← hT]
            have HCX : Hid (rCh sk = (X, sk2)) := by
              unfold Hid rCh
              rw [hs1, HBB.out, hz1', hX, hs2]
            have HTX : Hid (∀ W, RkQ w c gm gR gA ar sk1 sk2 g t fr all v1 lk false W → Calls Tryd.prog 57 #[.pointer (some ⟨c, 0, none⟩)] W fun x W' => x = .returned (.string T) ∧ Kp 85 W W' ∧ RkQ w c gm gR gA ar sk1 sk2 g t fr all v1 lk true W') := fun W hW => by
              have hps : QS W c sk1 := hW.q
              refine (qtext_any hps).mono ?_
              rintro e W' ⟨rfl, hbw, hq⟩
              rw [hs2] at hq
              exact ⟨by rw [hT], q_kp hps hbw, RkS.turn hW hbw hq⟩
            have HSC : Hid (RkQ w c gm gR gA ar sk1 sk2 g t fr all v1 lk false WC) := HTQ.out
            clear hq hbu hs1 hz1' hT hs2 hX HST HTQ HNU HXX0 HBB hb1 hb2 hb3 hb4 q6 ql hk1 hk2
            subst hv
            refine wp_region_pre (by kernel_rfl) 7 [66, 67, 68, 69, 70, 71, 72] (by kernel_rfl) (fun L vs W => RkQ w c gm gR gA ar sk1 sk2 g t fr all (.slice A5 k c5) lk (L 4) W ∧ ∀ i, L i = true → i < 7 → RtG gm c (.slice A5 k c5) z1 T i (vs i) W) ⟨HSC.out.grow ((Below.refl _ _).drew), fun i hi => by cases hi⟩ ?_ ?_
            · intro i o L vs ρ W hi51 ho hli haft hρ hI
              obtain ⟨hS, hG'⟩ := hI
              have hG : ∀ j, L j = true → RtG gm c (.slice A5 k c5) z1 T j (vs j) W := fun j hj => by
                by_cases h51 : j < 7
                · exact hG' j hj h51
                · match j, h51 with
                  | j + 7, _ => exact trivial
              have hc := hρ.const
              have hfn := hρ.fn
              have next : ∀ v W', Kp 85 W W' → RkQ w c gm gR gA ar sk1 sk2 g t fr all (.slice A5 k c5) lk (updB L i 4) W' → RtG gm c (.slice A5 k c5) z1 T i v W' → RkQ w c gm gR gA ar sk1 sk2 g t fr all (.slice A5 k c5) lk (updB L i 4) W' ∧ ∀ j, updB L i j = true → j < 7 → RtG gm c (.slice A5 k c5) z1 T j (updV vs i v j) W' := fun v W' h1 h0 h2 => by
                refine ⟨h0, fun j hj h51 => ?_⟩
                by_cases hji : j = i
                · subst hji
                  simpa [updV] using h2
                · simp only [updB, if_neg hji] at hj
                  simpa [updV, hji] using RtG_mono gm c (.slice A5 k c5) z1 T j _ W W' h51 (hG' j hj h51) h1
              have hm := hS.m
              have m6 := hm.cell 6
              have hltm := hm.lt
              simp only [pC, List.getElem?_toArray, List.getElem?_cons_zero, List.getElem?_cons_succ] at m6
              rcases i with _ | _ | _ | _ | _ | _ | _ | i
              all_goals (first | omega | skip)
              all_goals simp only [List.getElem?_toArray, List.getElem?_cons_zero, List.getElem?_cons_succ, Option.some.injEq] at ho
              all_goals subst ho
              · have o0 : ρ (.tmp 9) = .pointer (some ⟨gm, 0, none⟩) := hρ.out 9 rfl
                exact stepTo_value (w' := W) (by unfold execOp; simp only [o0, hc]; go_simp) (next _ _ (Kp.refl _ _) (by simpa only [updB, Nat.reduceEqDiff, if_false, if_true, reduceIte] using hS) rfl)
              · have g0 : RtG gm c (.slice A5 k c5) z1 T 0 (vs 0) W := hG 0 (haft 0 (by kernel_rfl))
                have s0 : ρ (.tmp 66) = .pointer (some ⟨gm, 6, none⟩) := (hρ.at_ 66 0 rfl).trans g0
                exact stepTo_value (w' := W) (by unfold execOp; simp only [s0, hc]; go_simp) (next _ _ (Kp.refl _ _) (by simpa only [updB, Nat.reduceEqDiff, if_false, if_true, reduceIte] using hS) rfl)
              · have o1 : ρ (.tmp 11) = .int .i64 z1 := hρ.out 11 rfl
                exact stepTo_value (w' := W) (by unfold execOp; simp only [o1, hc]; go_simp) (next _ _ (Kp.refl _ _) (by simpa only [updB, Nat.reduceEqDiff, if_false, if_true, reduceIte] using hS) rfl)
              · have o2 : ρ (.tmp 6) = .pointer (some ⟨c, 0, none⟩) := hρ.out 6 rfl
                exact stepTo_value (w' := W) (by unfold execOp; simp only [o2, hc]; go_simp) (next _ _ (Kp.refl _ _) (by simpa only [updB, Nat.reduceEqDiff, if_false, if_true, reduceIte] using hS) rfl)
              · have g3 : RtG gm c (.slice A5 k c5) z1 T 3 (vs 3) W := hG 3 (haft 3 (by kernel_rfl))
                have s3 : ρ (.tmp 69) = .pointer (some ⟨c, 0, none⟩) := (hρ.at_ 69 3 rfl).trans g3
                rw [hli] at hS
                refine stepTo_enter (f := 57) (args := #[.pointer (some ⟨c, 0, none⟩)]) (w' := W) (by unfold execOp; simp only [hfn, s3]; go_simp) ((HTX.out W hS).mono ?_)
                rintro x W' ⟨rfl, hk, h1⟩
                exact ⟨_, rfl, next _ _ hk (by simpa only [updB, if_true, reduceIte] using h1) rfl⟩
              · have g2 : RtG gm c (.slice A5 k c5) z1 T 2 (vs 2) W := hG 2 (haft 2 (by kernel_rfl))
                have s2 : ρ (.tmp 68) = .int .i64 z1 := (hρ.at_ 68 2 rfl).trans g2
                have g4 : RtG gm c (.slice A5 k c5) z1 T 4 (vs 4) W := hG 4 (haft 4 (by kernel_rfl))
                have s4 : ρ (.tmp 70) = .string T := (hρ.at_ 70 4 rfl).trans g4
                exact stepTo_value (w' := W) (by unfold execOp; simp only [s2, s4, hc]; go_simp) (next _ _ (Kp.refl _ _) (by simpa only [updB, Nat.reduceEqDiff, if_false, if_true, reduceIte] using hS) rfl)
              · have g5 : RtG gm c (.slice A5 k c5) z1 T 5 (vs 5) W := hG 5 (haft 5 (by kernel_rfl))
                have s5 : ρ (.tmp 71) = .agg #[.int .i64 z1, .string T] := (hρ.at_ 71 5 rfl).trans g5
                exact stepTo_value (v := .slice (some ⟨W.heap.size, 0, none⟩) 1 1) (w' := W.alloc (.cells #[.int .i64 z1, .string T] 36)) (by unfold execOp; simp only [s5, hc]; go_simp) (next _ _ (Kp.of_below ((Below.refl _ W).alloc (Nat.le_refl _) _)) (by have h0 := hS.grow ((Below.refl _ W).alloc (Nat.le_refl _) (.cells #[.int .i64 z1, .string T] 36)); simpa only [updB, Nat.reduceEqDiff, if_false, if_true, reduceIte] using h0) ⟨W.heap.size, rfl, Blk.new _ _ _⟩)
            · intro L vs WC hL hI
              obtain ⟨hS, hG⟩ := hI
              have g1 : vs 1 = .slice A5 k c5 := hG 1 (hL 1 (by decide)) (by decide)
              have g6' : ∃ g, vs 6 = .slice (some ⟨g, 0, none⟩) 1 1 ∧ Blk WC g 36 #[.int .i64 z1, .string T] := hG 6 (hL 6 (by decide)) (by decide)
              obtain ⟨gn, g6, hbk⟩ := g6'
              have h4 : L 4 = true := hL 4 (by decide)
              rw [h4] at hS
              have HSD := Lib.hid hS
              have HNW := Lib.hid (news_blk hbk)
              clear hL hS hG hbk h4
              simp only [putList, putSel, if_true]
              rw [g1, g6]
              generalize vs 0 = z0
              generalize vs 2 = z2
              generalize vs 3 = z3
              generalize vs 4 = z4
              generalize vs 5 = z5
              clear g1 g6
              simp only [Act.put, List.setIfInBounds_toArray, List.set_cons_succ, List.set_cons_zero]
              refine wpAny_one (i := 7) (by kernel_rfl) rfl rfl ?_
              refine wp_append_any (.tmp 67) (.tmp 72) 27 rfl w.heap.size 36 i0 (.agg #[.int .i64 0, .string ByteArray.empty]) 2 24 Tryd.underlying27 hi hz0 hz1 hz2 rfl (by decide) _ k _ rfl (HSD.out.own HLN.out) ⟨gn, 0, none⟩ 1 1 [.int .i64 z1, .string T] rfl rfl HNW.out (one2 _ _) (by unfold maxLen; omega) (by omega) HSD.out.lowb ?_
              intro v' w1 hown hgrow hv
              obtain ⟨A', c', rfl⟩ := own_form hown
              obtain ⟨hds, k1, f1⟩ := HSD.out.push HLN.out (x := X) (by rw [HXX.out]; exact hown) hgrow
              have HDS := Lib.hid hds
              have hltm : gm < w1.heap.size := World.block_lt_of_cell? w1 _ k1
              clear hown hgrow hv hds
              go_simp
              refine wpAny_one (i := 8) (by kernel_rfl) rfl rfl ?_
              go_simp
              refine wpAny_one (i := 9) (by kernel_rfl) rfl rfl ?_
              go_simp
              refine ⟨by kernel_rfl, ?_⟩
              go_wp2_with fail
              go_roundw
              case rel =>
                refine ⟨k + 1, .slice A' (k + 1) c', by omega, by go_num, ?_⟩
                rw [HSN.out, HCX.out]
                exact HDS.out
              case measure => simp [intOf]; omega
          · by_cases hx : k < x6
            · have hk1 : (k : Int) < (x6 : Int) := by omega
              have hk2 : ¬ (k : Int) < 9 := by omega
              have hkk : k = NN := by omega
              subst hkk
              obtain ⟨lk, hlk⟩ : ∃ q, (rChs k s7).1 = q := ⟨_, rfl⟩
              have HBK := Lib.hid (rChs_b64 k s7)
              rw [hlk] at HST HLN HBK HPV HLK
              clear hlk
              obtain ⟨A', d', hv', hc', hn'⟩ := ochs_chl HST.out.row HBK.out
              rw [HLN.out, hv] at hv'
              simp only [Value.slice.injEq, true_and] at hv'
              obtain ⟨rfl, rfl⟩ := hv'
              have HPA : Hid (PaL wr A5 c5 ⟨g, t, fr, all, lk⟩) := ⟨hc', HGB.out.1, HGB.out.2, HFB.out.1, HFB.out.2⟩
              have HNA : Hid (NewA w wr A5) := hn'
              have HRE := Lib.hid (renc_any A5 c5 ⟨g, t, fr, all, lk⟩ wr HPA.out (by show lk.length ≤ 1000; rw [HLN.out]; omega))
              have HMX := Lib.hid HST.out.m
              have hRX := HST.out.res
              have hBX := HST.out.below
              have hNE : ∀ b o, A5 = some ⟨b, o, none⟩ → b ≠ gR := fun b o e => by
                have hrow := HST.out.row
                rw [hv, e] at hrow
                exact own_type hrow hRX (by decide) b rfl
              have HNE := Lib.hid hNE
              have HRV := Lib.hid hRX
              have HBV := Lib.hid hBX
              rw [hv] at HMX
              unfold paC at HRE
              dsimp only at HRE
              rw [HLN.out] at HRE
              have hm6 := HMX.out
              have m0 := hm6.cell 0
              have m1 := hm6.cell 1
              have m2 := hm6.cell 2
              have m3 := hm6.cell 3
              have m4 := hm6.cell 4
              have m5 := hm6.cell 5
              have m6 := hm6.cell 6
              have hml := hm6.lt
              simp only [pC, List.getElem?_toArray, List.getElem?_cons_zero, List.getElem?_cons_succ] at m0 m1 m2 m3 m4 m5 m6
              clear hm6
              clear hv hc' hn' hNE hRX hBX HST HBK HGB HFB
              go_wp2_with fail
              refine HRE.out.mono ?_
              rintro e W6 ⟨rfl, c6⟩
              have HBX := Lib.hid (below_step HBV.out c6)
              have HRX := Lib.hid (HRV.out.below c6)
              have HPX := Lib.hid (HPA.out.below c6)
              have HNX : Hid (NewA w W6 A5) := fun b o e => by have := HNA.out b o e; have := c6.size; omega
              have HMY := Lib.hid (HMX.out.below c6)
              clear c6 HRE HRV HBV HPA HNA HMX m0 m1 m2 m3 m4 m5 m6 hml
              have HMX := Lib.hid HMY.out
              clear HMY
              have HSB := Lib.hid (beq_bl s (pEnc ⟨g, t, fr, all, lk⟩).1)
              have HSC : Hid (((str (pEnc ⟨g, t, fr, all, lk⟩).1).toList == s.toList) = decide (bl s = (pEnc ⟨g, t, fr, all, lk⟩).1)) := by
                have h := HSB.out
                unfold Hid
                rw [← h, Bool.eq_iff_iff, beq_iff_eq, beq_iff_eq]
                exact ⟨Eq.symm, Eq.symm⟩
              have HCY : Hid (D = if pEnc ⟨g, t, fr, all, lk⟩ = (bl s, 0) then (⟨g, t, fr, all, lk⟩, 0) else (pa0, 4)) := by
                have h := HDI.out
                rw [HPV.out] at h
                exact h
              obtain ⟨X, hX⟩ : ∃ z, pEnc ⟨g, t, fr, all, lk⟩ = z := ⟨_, rfl⟩
              rw [hX] at HSC HCY ⊢
              obtain ⟨xs, xe⟩ := X
              dsimp only at HSC ⊢
              have hxe : xe = 0 ∨ xe = 2 := by
                have : (pEnc ⟨g, t, fr, all, lk⟩).2 = xe := by rw [hX]
                unfold pEnc at this
                split at this <;> simp at this <;> omega
              obtain ⟨Z, hZ⟩ : ∃ z, str xs = z := ⟨_, rfl⟩
              rw [hZ] at HSC ⊢
              obtain ⟨bq, hbq⟩ : ∃ z, decide (bl s = xs) = z := ⟨_, rfl⟩
              rw [hbq] at HSC
              have hZq := HSC.out
              clear hX hZ HSB HSC HPV HDI HLN
              rcases hxe with rfl | rfl
              · cases bq with
                | true =>
                  have HD0 : Hid (D = (⟨g, t, fr, all, lk⟩, 0)) := by
                    have h1 : bl s = xs := by simpa using hbq
                    have h := HCY.out
                    rw [if_pos (by rw [h1])] at h
                    exact h
                  clear HCY hbq
                  have hm6 := HMX.out
                  have m0 := hm6.cell 0
                  have m1 := hm6.cell 1
                  have m2 := hm6.cell 2
                  have m3 := hm6.cell 3
                  have m4 := hm6.cell 4
                  have m5 := hm6.cell 5
                  have m6 := hm6.cell 6
                  have hml := hm6.lt
                  simp only [pC, List.getElem?_toArray, List.getElem?_cons_zero, List.getElem?_cons_succ] at m0 m1 m2 m3 m4 m5 m6
                  clear hm6
                  have hr := HRX.out
                  have a0 := hr.cell 0
                  have f0 := hr.frozen 0
                  have a1 := hr.cell 1
                  have f1 := hr.frozen 1
                  have a2 := hr.cell 2
                  have f2 := hr.frozen 2
                  have a3 := hr.cell 3
                  have f3 := hr.frozen 3
                  have a4 := hr.cell 4
                  have f4 := hr.frozen 4
                  have a5 := hr.cell 5
                  have f5 := hr.frozen 5
                  have a6 := hr.cell 6
                  have f6 := hr.frozen 6
                  have hrl := hr.lt
                  simp only [pZ, List.getElem?_toArray, List.getElem?_cons_zero, List.getElem?_cons_succ] at a0 a1 a2 a3 a4 a5 a6
                  clear hr
                  go_wp2_with fail
                  show bodyPost _ _ _ _ _ (setPa W6 gR g t fr all (.slice A5 k c5))
                  have hres : Blk W6 gR 30 (pC (0, 0) (0, 0) 0 0 nlS) := by rw [← pZ_is]; exact HRX.out
                  have HF : PaL (setPa W6 gR g t fr all (.slice A5 k c5)) A5 c5 ⟨g, t, fr, all, lk⟩ := pal_set HPX.out HNE.out
                  rw [HD0.out]
                  exact pa_end (r := (⟨g, t, fr, all, lk⟩, 0)) (b := gR) Tryd.results21 _ rfl (by simp) (by simp) (by dsimp only; rw [HLK.out]; exact setPa_blk hres) HF (fun b o e => by have := HNX.out b o e; rw [setPa_size]; exact this) (setPa_below HBX.out HGE.out)
                | false =>
                  have HD4 : Hid (D = (pa0, 4)) := by
                    have h1 : bl s ≠ xs := by simpa using hbq
                    have h := HCY.out
                    rw [if_neg (fun e => h1 (by simp only [Prod.mk.injEq] at e; exact e.1.symm))] at h
                    exact h
                  clear HCY hbq HMX
                  have hr := HRX.out
                  have a0 := hr.cell 0
                  have f0 := hr.frozen 0
                  have a1 := hr.cell 1
                  have f1 := hr.frozen 1
                  have a2 := hr.cell 2
                  have f2 := hr.frozen 2
                  have a3 := hr.cell 3
                  have f3 := hr.frozen 3
                  have a4 := hr.cell 4
                  have f4 := hr.frozen 4
                  have a5 := hr.cell 5
                  have f5 := hr.frozen 5
                  have a6 := hr.cell 6
                  have f6 := hr.frozen 6
                  have hrl := hr.lt
                  simp only [pZ, List.getElem?_toArray, List.getElem?_cons_zero, List.getElem?_cons_succ] at a0 a1 a2 a3 a4 a5 a6
                  clear hr
                  go_wp2_with fail
                  show bodyPost _ _ _ _ _ (setPa W6 gR (0, 0) (0, 0) 0 0 nlS)
                  rw [HD4.out]
                  exact pa_none (b := gR) Tryd.results21 _ rfl (by simp) (by simp) (by rw [pZ_is]; exact setPa_blk (by rw [← pZ_is]; exact HRX.out)) (setPa_below HBX.out HGE.out)
              · have HD4 : Hid (D = (pa0, 4)) := by
                  have h := HCY.out
                  rw [if_neg (fun e => by simp only [Prod.mk.injEq] at e; exact absurd e.2 (by decide))] at h
                  exact h
                clear HCY hbq HMX hZq
                have hr := HRX.out
                have a0 := hr.cell 0
                have f0 := hr.frozen 0
                have a1 := hr.cell 1
                have f1 := hr.frozen 1
                have a2 := hr.cell 2
                have f2 := hr.frozen 2
                have a3 := hr.cell 3
                have f3 := hr.frozen 3
                have a4 := hr.cell 4
                have f4 := hr.frozen 4
                have a5 := hr.cell 5
                have f5 := hr.frozen 5
                have a6 := hr.cell 6
                have f6 := hr.frozen 6
                have hrl := hr.lt
                simp only [pZ, List.getElem?_toArray, List.getElem?_cons_zero, List.getElem?_cons_succ] at a0 a1 a2 a3 a4 a5 a6
                clear hr
                go_wp2_with fail
                show bodyPost _ _ _ _ _ (setPa W6 gR (0, 0) (0, 0) 0 0 nlS)
                rw [HD4.out]
                exact pa_none (b := gR) Tryd.results21 _ rfl (by simp) (by simp) (by rw [pZ_is]; exact setPa_blk (by rw [← pZ_is]; exact HRX.out)) (setPa_below HBX.out HGE.out)
            · have hk1 : ¬ (k : Int) < (x6 : Int) := by omega
              have hkk : k = NN := by omega
              subst hkk
              obtain ⟨lk, hlk⟩ : ∃ q, (rChs k s7).1 = q := ⟨_, rfl⟩
              have HBK := Lib.hid (rChs_b64 k s7)
              rw [hlk] at HST HLN HBK HPV HLK
              clear hlk
              obtain ⟨A', d', hv', hc', hn'⟩ := ochs_chl HST.out.row HBK.out
              rw [HLN.out, hv] at hv'
              simp only [Value.slice.injEq, true_and] at hv'
              obtain ⟨rfl, rfl⟩ := hv'
              have HPA : Hid (PaL wr A5 c5 ⟨g, t, fr, all, lk⟩) := ⟨hc', HGB.out.1, HGB.out.2, HFB.out.1, HFB.out.2⟩
              have HNA : Hid (NewA w wr A5) := hn'
              have HRE := Lib.hid (renc_any A5 c5 ⟨g, t, fr, all, lk⟩ wr HPA.out (by show lk.length ≤ 1000; rw [HLN.out]; omega))
              have HMX := Lib.hid HST.out.m
              have hRX := HST.out.res
              have hBX := HST.out.below
              have hNE : ∀ b o, A5 = some ⟨b, o, none⟩ → b ≠ gR := fun b o e => by
                have hrow := HST.out.row
                rw [hv, e] at hrow
                exact own_type hrow hRX (by decide) b rfl
              have HNE := Lib.hid hNE
              have HRV := Lib.hid hRX
              have HBV := Lib.hid hBX
              rw [hv] at HMX
              unfold paC at HRE
              dsimp only at HRE
              rw [HLN.out] at HRE
              have hm6 := HMX.out
              have m0 := hm6.cell 0
              have m1 := hm6.cell 1
              have m2 := hm6.cell 2
              have m3 := hm6.cell 3
              have m4 := hm6.cell 4
              have m5 := hm6.cell 5
              have m6 := hm6.cell 6
              have hml := hm6.lt
              simp only [pC, List.getElem?_toArray, List.getElem?_cons_zero, List.getElem?_cons_succ] at m0 m1 m2 m3 m4 m5 m6
              clear hm6
              clear hv hc' hn' hNE hRX hBX HST HBK HGB HFB
              go_wp2_with fail
              refine HRE.out.mono ?_
              rintro e W6 ⟨rfl, c6⟩
              have HBX := Lib.hid (below_step HBV.out c6)
              have HRX := Lib.hid (HRV.out.below c6)
              have HPX := Lib.hid (HPA.out.below c6)
              have HNX : Hid (NewA w W6 A5) := fun b o e => by have := HNA.out b o e; have := c6.size; omega
              have HMY := Lib.hid (HMX.out.below c6)
              clear c6 HRE HRV HBV HPA HNA HMX m0 m1 m2 m3 m4 m5 m6 hml
              have HMX := Lib.hid HMY.out
              clear HMY
              have HSB := Lib.hid (beq_bl s (pEnc ⟨g, t, fr, all, lk⟩).1)
              have HSC : Hid (((str (pEnc ⟨g, t, fr, all, lk⟩).1).toList == s.toList) = decide (bl s = (pEnc ⟨g, t, fr, all, lk⟩).1)) := by
                have h := HSB.out
                unfold Hid
                rw [← h, Bool.eq_iff_iff, beq_iff_eq, beq_iff_eq]
                exact ⟨Eq.symm, Eq.symm⟩
              have HCY : Hid (D = if pEnc ⟨g, t, fr, all, lk⟩ = (bl s, 0) then (⟨g, t, fr, all, lk⟩, 0) else (pa0, 4)) := by
                have h := HDI.out
                rw [HPV.out] at h
                exact h
              obtain ⟨X, hX⟩ : ∃ z, pEnc ⟨g, t, fr, all, lk⟩ = z := ⟨_, rfl⟩
              rw [hX] at HSC HCY ⊢
              obtain ⟨xs, xe⟩ := X
              dsimp only at HSC ⊢
              have hxe : xe = 0 ∨ xe = 2 := by
                have : (pEnc ⟨g, t, fr, all, lk⟩).2 = xe := by rw [hX]
                unfold pEnc at this
                split at this <;> simp at this <;> omega
              obtain ⟨Z, hZ⟩ : ∃ z, str xs = z := ⟨_, rfl⟩
              rw [hZ] at HSC ⊢
              obtain ⟨bq, hbq⟩ : ∃ z, decide (bl s = xs) = z := ⟨_, rfl⟩
              rw [hbq] at HSC
              have hZq := HSC.out
              clear hX hZ HSB HSC HPV HDI HLN
              rcases hxe with rfl | rfl
              · cases bq with
                | true =>
                  have HD0 : Hid (D = (⟨g, t, fr, all, lk⟩, 0)) := by
                    have h1 : bl s = xs := by simpa using hbq
                    have h := HCY.out
                    rw [if_pos (by rw [h1])] at h
                    exact h
                  clear HCY hbq
                  have hm6 := HMX.out
                  have m0 := hm6.cell 0
                  have m1 := hm6.cell 1
                  have m2 := hm6.cell 2
                  have m3 := hm6.cell 3
                  have m4 := hm6.cell 4
                  have m5 := hm6.cell 5
                  have m6 := hm6.cell 6
                  have hml := hm6.lt
                  simp only [pC, List.getElem?_toArray, List.getElem?_cons_zero, List.getElem?_cons_succ] at m0 m1 m2 m3 m4 m5 m6
                  clear hm6
                  have hr := HRX.out
                  have a0 := hr.cell 0
                  have f0 := hr.frozen 0
                  have a1 := hr.cell 1
                  have f1 := hr.frozen 1
                  have a2 := hr.cell 2
                  have f2 := hr.frozen 2
                  have a3 := hr.cell 3
                  have f3 := hr.frozen 3
                  have a4 := hr.cell 4
                  have f4 := hr.frozen 4
                  have a5 := hr.cell 5
                  have f5 := hr.frozen 5
                  have a6 := hr.cell 6
                  have f6 := hr.frozen 6
                  have hrl := hr.lt
                  simp only [pZ, List.getElem?_toArray, List.getElem?_cons_zero, List.getElem?_cons_succ] at a0 a1 a2 a3 a4 a5 a6
                  clear hr
                  go_wp2_with fail
                  show bodyPost _ _ _ _ _ (setPa W6 gR g t fr all (.slice A5 k c5))
                  have hres : Blk W6 gR 30 (pC (0, 0) (0, 0) 0 0 nlS) := by rw [← pZ_is]; exact HRX.out
                  have HF : PaL (setPa W6 gR g t fr all (.slice A5 k c5)) A5 c5 ⟨g, t, fr, all, lk⟩ := pal_set HPX.out HNE.out
                  rw [HD0.out]
                  exact pa_end (r := (⟨g, t, fr, all, lk⟩, 0)) (b := gR) Tryd.results21 _ rfl (by simp) (by simp) (by dsimp only; rw [HLK.out]; exact setPa_blk hres) HF (fun b o e => by have := HNX.out b o e; rw [setPa_size]; exact this) (setPa_below HBX.out HGE.out)
                | false =>
                  have HD4 : Hid (D = (pa0, 4)) := by
                    have h1 : bl s ≠ xs := by simpa using hbq
                    have h := HCY.out
                    rw [if_neg (fun e => h1 (by simp only [Prod.mk.injEq] at e; exact e.1.symm))] at h
                    exact h
                  clear HCY hbq HMX
                  have hr := HRX.out
                  have a0 := hr.cell 0
                  have f0 := hr.frozen 0
                  have a1 := hr.cell 1
                  have f1 := hr.frozen 1
                  have a2 := hr.cell 2
                  have f2 := hr.frozen 2
                  have a3 := hr.cell 3
                  have f3 := hr.frozen 3
                  have a4 := hr.cell 4
                  have f4 := hr.frozen 4
                  have a5 := hr.cell 5
                  have f5 := hr.frozen 5
                  have a6 := hr.cell 6
                  have f6 := hr.frozen 6
                  have hrl := hr.lt
                  simp only [pZ, List.getElem?_toArray, List.getElem?_cons_zero, List.getElem?_cons_succ] at a0 a1 a2 a3 a4 a5 a6
                  clear hr
                  go_wp2_with fail
                  show bodyPost _ _ _ _ _ (setPa W6 gR (0, 0) (0, 0) 0 0 nlS)
                  rw [HD4.out]
                  exact pa_none (b := gR) Tryd.results21 _ rfl (by simp) (by simp) (by rw [pZ_is]; exact setPa_blk (by rw [← pZ_is]; exact HRX.out)) (setPa_below HBX.out HGE.out)
              · have HD4 : Hid (D = (pa0, 4)) := by
                  have h := HCY.out
                  rw [if_neg (fun e => by simp only [Prod.mk.injEq] at e; exact absurd e.2 (by decide))] at h
                  exact h
                clear HCY hbq HMX hZq
                have hr := HRX.out
                have a0 := hr.cell 0
                have f0 := hr.frozen 0
                have a1 := hr.cell 1
                have f1 := hr.frozen 1
                have a2 := hr.cell 2
                have f2 := hr.frozen 2
                have a3 := hr.cell 3
                have f3 := hr.frozen 3
                have a4 := hr.cell 4
                have f4 := hr.frozen 4
                have a5 := hr.cell 5
                have f5 := hr.frozen 5
                have a6 := hr.cell 6
                have f6 := hr.frozen 6
                have hrl := hr.lt
                simp only [pZ, List.getElem?_toArray, List.getElem?_cons_zero, List.getElem?_cons_succ] at a0 a1 a2 a3 a4 a5 a6
                clear hr
                go_wp2_with fail
                show bodyPost _ _ _ _ _ (setPa W6 gR (0, 0) (0, 0) 0 0 nlS)
                rw [HD4.out]
                exact pa_none (b := gR) Tryd.results21 _ rfl (by simp) (by simp) (by rw [pZ_is]; exact setPa_blk (by rw [← pZ_is]; exact HRX.out)) (setPa_below HBX.out HGE.out)
end Go.Proofs.YtchdamlnbmngbaaDoor.st

/- The statements' sealed: bytes without their last four, sealed anew. -/
namespace Go.Proofs.YtchdamlnbmngbaaDoor.st
open Go Go.RowKit Go.Sort Go.Proofs.YtchdamlnbmngbaaDoor.ib Go.Proofs.YtchdamlnbmngbaaDoor.wi Go.Proofs.YtchdamlnbmngbaaDoor.mt
set_option maxRecDepth 100000

theorem ex_upto (s : ByteArray) (n : Nat) : s.extract 0 n = str ((bl s).take n) := by rw [← bl_upto, str_bl]
/-- Sealed anew. -/
def sldB (l : List UInt8) : List UInt8 := sealB (l.take (l.length - 4))
theorem sldB_len (l : List UInt8) : (sldB l).length ≤ l.length + 4 := by
  unfold sldB
  rw [sealB_length, List.length_take]
  omega
theorem sealed_any (s : ByteArray) (w : World) (hs : s.size ≤ 1000000) (ht : CTab w) : Calls Tryd.prog 22 #[.string s] w (okStr (str (sldB (bl s))) w) := by
  have HT := Lib.hid ht
  have hk : s.size - 4 ≤ s.size := Nat.sub_le _ _
  have HK : Hid (str (sldB (bl s)) = str (sealB (bl (s.extract 0 (s.size - 4))))) := by unfold Hid sldB; rw [bl_upto, bl_len]
  have HSE : Hid (∀ W, CTab W → Calls Tryd.prog 38 #[.string (s.extract 0 (s.size - 4))] W (okStr (str (sealB (bl (s.extract 0 (s.size - 4))))) W)) := fun W h => seal_any _ W (by rw [ex_upto, str_size, List.length_take, bl_len]; omega) h
  have hm : max (0 : Int) ((s.size : Int) - 4) = ((s.size - 4 : Nat) : Int) := by omega
  have hm2 : (if (0 : Int) < (s.size : Int) - 4 then (s.size : Int) - 4 else 0) = ((s.size - 4 : Nat) : Int) := by split <;> omega
  have hm3 : (if (s.size : Int) - 4 < 0 then (0 : Int) else (s.size : Int) - 4) = ((s.size - 4 : Nat) : Int) := by split <;> omega
  obtain ⟨k, hkk⟩ : ∃ z, s.size - 4 = z := ⟨_, rfl⟩
  obtain ⟨n, hn⟩ : ∃ z, s.size = z := ⟨_, rfl⟩
  rw [hkk] at HK HSE hm hm2 hm3 hk
  rw [hn] at hm hm2 hm3 hs hk
  have hki : (k : Int) ≤ (n : Int) := by omega
  have HKK := Lib.hid hkk
  clear hkk ht
  obtain ⟨R, hR⟩ : ∃ z, str (sldB (bl s)) = z := ⟨_, rfl⟩
  rw [hR] at HK ⊢
  clear hR
  go_enter Tryd.func22, Tryd.ntmps22
  go_wp2_with fail
  refine (HSE.out w HT.out).mono ?_
  rintro e W1 ⟨rfl, b1⟩
  rw [← HK.out]
  have HB := Lib.hid b1
  clear HK HSE b1
  go_wp2_with fail
  go_ret
  exact ⟨rfl, HB.out⟩
end Go.Proofs.YtchdamlnbmngbaaDoor.st

/- Parts that are cut one behind the other, as plain data. -/
namespace Go.Proofs.YtchdamlnbmngbaaDoor.st
open Go Go.RowKit Go.Proofs.YtchdamlnbmngbaaDoor.wi Go.Proofs.YtchdamlnbmngbaaDoor.mt
set_option maxRecDepth 100000

theorem mayF_len : ∀ {l : List Ch} {k : Int}, mayF k l = true → k ≤ 8 → (l.length : Int) ≤ 8 - k
  | [], k, _, hk => by simp; omega
  | x :: r, k, h, hk => by
    unfold mayF at h
    simp only [Bool.and_eq_true, decide_eq_true_eq] at h
    obtain ⟨⟨⟨h1, h2⟩, _⟩, h4⟩ := h
    have := mayF_len h4 (by omega)
    rw [List.length_cons]
    omega
theorem mayF_mono {l : List Ch} {j k : Int} (hj : j ≤ k) (h : mayF k l = true) : mayF j l = true := by
  cases l with
  | nil => rfl
  | cons x r =>
    unfold mayF at h ⊢
    simp only [Bool.and_eq_true, decide_eq_true_eq] at h ⊢
    exact ⟨⟨⟨by omega, h.1.1.2⟩, h.1.2⟩, h.2⟩
theorem mayF_drop : ∀ (n : Nat) {l : List Ch} {k : Int}, mayF k l = true → mayF k (l.drop n) = true
  | 0, _, _, h => h
  | _ + 1, [], _, _ => rfl
  | n + 1, x :: r, k, h => by
    have h2 := h
    unfold mayF at h2
    simp only [Bool.and_eq_true, decide_eq_true_eq] at h2
    exact mayF_drop n (mayF_mono (by omega) h2.2)
theorem mayF_take : ∀ (n : Nat) {l : List Ch} {k : Int}, mayF k l = true → mayF k (l.take n) = true
  | 0, _, _, _ => rfl
  | _ + 1, [], _, _ => rfl
  | n + 1, x :: r, k, h => by
    have h2 := h
    unfold mayF at h2
    simp only [Bool.and_eq_true, decide_eq_true_eq] at h2
    rw [List.take_succ_cons]
    unfold mayF
    simp only [Bool.and_eq_true, decide_eq_true_eq]
    exact ⟨h2.1, mayF_take n h2.2⟩
structure CutOk (b t : Gd) (l : List Ch) (fr : Int) : Prop where
  up : above t b = true
  may : may l = true
  lo : 0 ≤ fr
  hi : fr < max (l.length : Int) 1
theorem cut_is {b t : Gd} {l : List Ch} {fr : Int} : cutBad b t l fr = false ↔ CutOk b t l fr := by
  unfold cutBad
  constructor
  · intro h
    simp only [Bool.or_eq_false_iff, Bool.not_eq_false', decide_eq_false_iff_not] at h
    exact ⟨h.1.1.1, h.1.1.2, by omega, by omega⟩
  · intro h
    have h1 := h.lo
    have h2 := h.hi
    simp only [h.up, h.may, Bool.not_true, Bool.or_eq_false_iff, decide_eq_false_iff_not]
    exact ⟨⟨⟨trivial, trivial⟩, by omega⟩, by omega⟩
def ptAt (b t : Gd) (l : List Ch) (k : Nat) : Pa := ⟨b, t, k, l.length, (l.drop k).take 2⟩
theorem cut_at {b t : Gd} {l : List Ch} {k : Nat} (h : CutOk b t l k) : pCut b t l k = (ptAt b t l k, 0) := by
  unfold pCut
  rw [cut_is.2 h]
  rfl
theorem cut_no {b t : Gd} {l : List Ch} {k : Int} (h : cutBad b t l k = true) : pCut b t l k = (pa0, 2) := by
  unfold pCut
  rw [if_pos h]
theorem ptAt_len (b t : Gd) (l : List Ch) (k : Nat) : (ptAt b t l k).chs.length = min 2 (l.length - k) := by
  show ((l.drop k).take 2).length = _
  rw [List.length_take, List.length_drop]
theorem ptAt_check {b t : Gd} {l : List Ch} {k : Nat} (h : CutOk b t l k) : pCheck (ptAt b t l k) = 0 := by
  have hl := ptAt_len b t l k
  have h8 := mayF_len (k := 0) h.may (by omega)
  have h2 := h.hi
  have hm : may (ptAt b t l k).chs = true := mayF_take 2 (mayF_drop k h.may)
  have e1 : (ptAt b t l k).all = (l.length : Int) := rfl
  have e2 : (ptAt b t l k).fr = (k : Int) := rfl
  unfold pCheck pBad
  rw [show above (ptAt b t l k).target (ptAt b t l k).base = true from h.up, hm, e1, e2, hl]
  rw [if_neg]
  simp only [Bool.not_true, Bool.false_or, Bool.or_false, Bool.or_eq_true, Bool.and_eq_true, decide_eq_true_eq, not_or]
  omega
theorem cut_next {b t : Gd} {l : List Ch} {k n : Nat} (h : CutOk b t l k) (hn : k + n < l.length) : CutOk b t l ((k + n : Nat) : Int) :=
  ⟨h.up, h.may, by omega, by omega⟩
theorem take_next (l : List Ch) (k n : Nat) (hn : n = min 2 (l.length - k)) : l.take k ++ (l.drop k).take 2 = l.take (k + n) := by
  rw [List.take_add]
  congr 1
  by_cases h : 2 ≤ l.length - k
  · rw [show n = 2 by omega]
  · rw [List.take_of_length_le (by rw [List.length_drop]; omega), List.take_of_length_le (by rw [List.length_drop]; omega)]
end Go.Proofs.YtchdamlnbmngbaaDoor.st


/- StTake, WiEnd, COpen, StDec. -/
import Derived.Test.YtdpbdkacngaemaaDoorQ4
import Derived.Test.YtdpbdkacngaemaaDoorQ7
import Derived.Test.YtdpbdkacngaemaaDoorQ8
import Derived.Lib.QuietBelow
import Derived.BigQuiet
set_option linter.unusedVariables false
set_option linter.unusedSimpArgs false
/- The program's reading of a part. -/
namespace Go.Proofs.YtdpbdkacngaemaaDoor.st
open Go Go.RowKit Go.Sort Go.Proofs.YtdpbdkacngaemaaDoor.ib Go.Proofs.YtdpbdkacngaemaaDoor.wi Go.Proofs.YtdpbdkacngaemaaDoor.mt
open Go.Proofs.YtdpbdkacngaemaaDoor.mt.pg (PS Rd)
open Go.Proofs.YtdpbdkacngaemaaDoor.ch (ChL OChs chVals infoCh)
set_option maxRecDepth 100000

def endTx (c : Nat) (s : St) (w : World) (e : Ending) (w' : World) : Prop := e = .returned (.string (str (textS s).1)) ∧ Rd w c (textS s).2 w'
theorem ptext_any {w : World} {c : Nat} {s : St} (h : PS w c s) : Calls Tryd.prog 53 #[pt c] w (endTx c s w) := by
  unfold PS at h
  split at h
  · obtain ⟨l, h1⟩ := h
    refine (text_bad1 c l w h1).mono ?_
    rintro e w' ⟨rfl, rfl⟩
    exact ⟨rfl, But.refl _ _, l, h1⟩
  · rename_i l
    refine (text_good1 c l w h).mono ?_
    rintro e w' ⟨hg, ⟨t, r, hn, rfl, hr⟩ | ⟨hn, rfl, m, hm⟩⟩
    · have hq : textS (some l) = (t, some r) := by unfold textS; simp only [hn]
      unfold endTx
      rw [hq]
      exact ⟨rfl, but_grown hg, hr⟩
    · have hq : textS (some l) = ([], none) := by unfold textS; simp only [hn]
      unfold endTx
      rw [hq]
      exact ⟨rfl, but_grown hg, m, hm⟩
def endU (k c : Nat) (s : St) (w : World) (e : Ending) (w' : World) : Prop := e = .returned (.int .i64 ((uS k s).1 : Int)) ∧ Rd w c (uS k s).2 w'
theorem uS_le (k : Nat) (s : St) : (uS k s).1 ≤ k + 1 := by unfold uS; dsimp only; omega
set_option maxHeartbeats 1600000 in
theorem upTo_any {w : World} {c : Nat} {s : St} (h : PS w c s) (k : Nat) (K : Int) (hK : K = (k : Int)) (hk : k ≤ 2000) : Calls Tryd.prog 52 #[pt c, .int .i64 K] w (endU k c s w) := by
  subst hK
  have HN := Lib.hid (Go.Proofs.YtdpbdkacngaemaaDoor.mt.pg.pnum_any h)
  have hm : min ((numS s).1 : Int) ((k : Int) + 1) = ((uS k s).1 : Int) := by
    unfold uS
    dsimp only
    omega
  have hm2 : (if ((k : Int) + 1 : Int) < ((numS s).1 : Int) then ((k : Int) + 1 : Int) else ((numS s).1 : Int)) = ((uS k s).1 : Int) := by
    unfold uS
    dsimp only
    split <;> omega
  have hsm := uS_le k s
  obtain ⟨n, hn⟩ : ∃ n, (numS s).1 = n := ⟨_, rfl⟩
  have hl := numS_lt s
  rw [hn] at hm hm2 hl
  have HNN := Lib.hid hn
  obtain ⟨r, hr⟩ : ∃ r, (uS k s).1 = r := ⟨_, rfl⟩
  rw [hr] at hm hm2 hsm
  have HRR := Lib.hid hr
  clear hn hr h
  go_enter Tryd.func52, Tryd.ntmps52
  go_wp2_with fail
  refine HN.out.mono ?_
  rintro e W ⟨rfl, hq⟩
  rw [HNN.out]
  have HQ := Lib.hid hq
  clear hq
  go_wp2_with fail
  go_ret
  exact ⟨by rw [HRR.out]; rfl, HQ.out⟩

def endG (c : Nat) (s : St) (w : World) (e : Ending) (w' : World) : Prop := e = .returned (gv (gdS s).1) ∧ Rd w c (gdS s).2 w'
set_option maxHeartbeats 3200000 in
theorem takeGuid_any {w : World} {c : Nat} {s : St} (h : PS w c s) : Calls Tryd.prog 51 #[pt c] w (endG c s w) := by
  have hb0 := (Below.refl w.heap.size w).alloc (Nat.le_refl _) (.cells #[.int .u64 0, .int .u64 0] 24)
  have HR0 : Hid (Rd w c s (w.alloc (.cells #[.int .u64 0, .int .u64 0] 24))) := ⟨But.of_below hb0, h.below hb0⟩
  have HA0 := Lib.hid (Blk.new w 24 #[.int .u64 0, .int .u64 0])
  obtain ⟨w0, hw0⟩ : ∃ x, w.alloc (.cells #[.int .u64 0, .int .u64 0] 24) = x := ⟨_, rfl⟩
  rw [hw0] at HR0 HA0
  clear h hb0
  go_enter Tryd.func51, Tryd.ntmps51
  go_wp2_with fail
  try rw [hw0]
  clear hw0
  refine (Go.Proofs.YtdpbdkacngaemaaDoor.mt.pg.pnum_any HR0.out.ps).mono ?_
  rintro e W1 ⟨rfl, hq1⟩
  have HA1 := Lib.hid (hq1.blk HA0.out HR0.out.ps.blk (by decide))
  have HR1 := Lib.hid (HR0.out.trans hq1)
  clear hq1 HA0 HR0
  obtain ⟨x, hx⟩ : ∃ x : Nat, (numS s).1 = x := ⟨_, rfl⟩
  rw [hx]
  have HX := Lib.hid hx
  clear hx
  go_wp2_with fail
  refine (Go.Proofs.YtdpbdkacngaemaaDoor.mt.pg.pnum_any HR1.out.ps).mono ?_
  rintro e W2 ⟨rfl, hq2⟩
  have HA2 := Lib.hid (hq2.blk HA1.out HR1.out.ps.blk (by decide))
  have HR2 := Lib.hid (HR1.out.trans hq2)
  obtain ⟨y, hy⟩ : ∃ y : Nat, (numS (numS s).2).1 = y := ⟨_, rfl⟩
  rw [hy]
  have HY := Lib.hid hy
  have q0 := HA2.out.cell 0
  have q1 := HA2.out.cell 1
  simp only [List.getElem?_toArray, List.getElem?_cons_zero, List.getElem?_cons_succ] at q0 q1
  have f0 := HA2.out.frozen 0
  have f1 := HA2.out.frozen 1
  have hlA := HA2.out.lt
  clear hy hq2 HA1 HR1
  go_wp2_with fail
  have hA3 := HA2.out.set_ 0 (.int .u64 (x : Int))
  have HA3 := Lib.hid (hA3.set_ 1 (.int .u64 (y : Int)))
  have q0 := HA3.out.cell 0
  have q1 := HA3.out.cell 1
  simp at q0 q1
  have HG : Hid (gv (gdS s).1 = .agg #[.int .u64 (x : Int), .int .u64 (y : Int)]) := by unfold Hid gv gdS; dsimp only; rw [HX.out, HY.out]
  have HRR := Lib.hid ((HR2.out.set HA2.out (Nat.le_refl _) (by decide) (by decide) 0 (.int .u64 (x : Int))).set hA3 (Nat.le_refl _) (by decide) (by decide) 1 (.int .u64 (y : Int)))
  refine bodyPost_ret (v := .agg #[.int .u64 (x : Int), .int .u64 (y : Int)]) (by simp [results, Tryd.results51, go_sem, q0, q1]) rfl ?_
  exact ⟨by rw [HG.out], HRR.out⟩

theorem ps_grown {w w' : World} {B c : Nat} {s : St} {v : Value} {l : List Ch} (h : PS w c s) (ho : OChs w B v l) (hg : w.grownBy w' v.ownBlock) : PS w' c s := by
  have key : ∀ l' bad, RdAt c l' bad w → RdAt c l' bad w' := fun l' bad h => by
    obtain ⟨g, o, cap, hb, hr, h3, h4⟩ := h
    have hblk : Blk w c 91 _ := hb
    have hc : v.ownBlock ≠ some c := fun e => own_type ho hblk (by decide) c e rfl
    have hgn : v.ownBlock ≠ some g := fun e => by
      obtain ⟨cs', fr, hgr, _⟩ := hr
      rcases ho.2 with ⟨rfl, _⟩ | ⟨g', cap', cur, rfl, _, hg', _⟩
      · cases e
      · simp only [Value.ownBlock, Option.some.injEq] at e
        subst e
        rw [hg'] at hgr
        simp only [Option.some.injEq, Obj.cells.injEq] at hgr
        exact absurd hgr.2.1 (by decide)
    have hgl : g < w.heap.size := by
      obtain ⟨cs', fr, hgr, _⟩ := hr
      exact (Array.getElem?_eq_some_iff.1 hgr).1
    exact ⟨g, o, cap, (hg.block c hblk.lt (fun e => hc e.symm)).trans hb, hr.keep (hg.block g hgl (fun e => hgn e.symm)), h3, h4⟩
  unfold PS at h ⊢
  split at h
  · obtain ⟨l', h⟩ := h
    exact ⟨l', key _ _ h⟩
  · exact key _ _ h
/-- A part that is being read: its block, the result's, its changes so far, what the reader has left. -/
structure TkS (w : World) (c gm gR : Nat) (s : St) (g t : Gd) (fr all : Int) (v : Value) (l : List Ch) (W : World) : Prop where
  m : Blk W gm 27 (pC g t fr all v)
  res : Blk W gR 27 pZ
  row : OChs W w.heap.size v l
  rd : Rd w c s W
  ne : gm ≠ gR
  lo : w.heap.size ≤ gm ∧ w.heap.size ≤ gR
section
variable {w W W' : World} {c gm gR : Nat} {s s' : St} {g t g' t' : Gd} {fr all fr' all' : Int} {v : Value} {l : List Ch}
theorem TkS.grow (h : TkS w c gm gR s g t fr all v l W) (hb : Below W.heap.size W W') : TkS w c gm gR s g t fr all v l W' :=
  ⟨h.m.below hb, h.res.below hb, row_of_block h.row (fun j hj => hb.block j (h.row.lt j hj).2), h.rd.new hb, h.ne, h.lo⟩
theorem TkS.turn (h : TkS w c gm gR s g t fr all v l W) (hq : Rd W c s' W') : TkS w c gm gR s' g t fr all v l W' :=
  ⟨hq.blk h.m h.rd.ps.blk (by decide), hq.blk h.res h.rd.ps.blk (by decide), (Rd.kp h.rd.ps hq).row (by decide) h.row, h.rd.trans hq, h.ne, h.lo⟩
theorem TkS.own {j : Nat} (h : TkS w c gm gR s g t fr all v l W) (hl : l.length = j) : W.ownsRow w.heap.size 46 2 v j (chVals l) := by
  have := h.row
  unfold OChs at this
  rwa [hl] at this
theorem TkS.lowb (h : TkS w c gm gR s g t fr all v l W) : w.heap.size ≤ W.heap.size := h.rd.but.size
theorem TkS.put (h : TkS w c gm gR s g t fr all v l W) (k : Nat) (u : Value) (he : (pC g t fr all v).setIfInBounds k u = pC g' t' fr' all' v) : TkS w c gm gR s g' t' fr' all' v l (W.setCell ⟨gm, k, none⟩ u) := by
  refine ⟨?_, h.res.of_block (set_oth _ _ _ _ _ h.ne.symm), row_of_block h.row (fun j hj => set_oth _ _ _ _ _ (own_type h.row h.m (by decide) j hj)), h.rd.set h.m h.lo.1 (by decide) (by decide) k u, h.ne, h.lo⟩
  rw [← he]
  exact h.m.set_ k u
theorem TkS.push {x : Ch} {v' : Value} {j : Nat} (h : TkS w c gm gR s g t fr all v l W) (hl : l.length = j) (ho : W'.ownsRow w.heap.size 46 2 v' (j + 1) (chVals l ++ [.int .i64 x.1, .string (str x.2)])) (hg : W.grownBy W' v.ownBlock) :
    TkS w c gm gR s g t fr all v' (l ++ [x]) (W'.setCell ⟨gm, 6, none⟩ v') ∧ W'.cell? ⟨gm, 6, none⟩ = some v ∧ W'.frozen? ⟨gm, 6, none⟩ = false := by
  have hk := Kp.of_grown hg h.row
  have hm := hk _ _ _ (by decide) h.m
  have hr := hk _ _ _ (by decide) h.res
  have ho' : OChs W' w.heap.size v' (l ++ [x]) := ochs_snoc (by rw [hl]; exact ho)
  have hbu : But (Tc c) w W' := h.rd.but.trans (S' := fun k => v.ownBlock = some k) ⟨hg.os, hg.tape, hg.output, hg.size, fun k hk hn => hg.block k hk (fun e => hn e.symm)⟩ (fun i hi => .inr (h.row.lt i hi).1)
  have hps : PS W' c s := ps_grown h.rd.ps h.row hg
  have hrd : Rd w c s W' := ⟨hbu, hps⟩
  refine ⟨⟨?_, hr.of_block (set_oth _ _ _ _ _ h.ne.symm), row_of_block ho' (fun j hj => set_oth _ _ _ _ _ (own_type ho' hm (by decide) j hj)), hrd.set hm h.lo.1 (by decide) (by decide) 6 v', h.ne, h.lo⟩, ?_, hm.frozen 6⟩
  · have := hm.set_ 6 v'
    simp only [pC, List.setIfInBounds_toArray, List.set_cons_succ, List.set_cons_zero] at this
    exact this
  · rw [hm.cell 6]
    simp [pC]
end
/-- .. while the text is read (q: it has been). -/
def TkQ (w : World) (c gm gR : Nat) (s s' : St) (g t : Gd) (fr all : Int) (v : Value) (l : List Ch) (q : Bool) (W : World) : Prop := TkS w c gm gR (cond q s' s) g t fr all v l W
theorem TkQ.m {w W : World} {c gm gR : Nat} {s s' : St} {g t : Gd} {fr all : Int} {v : Value} {l : List Ch} {q : Bool} (h : TkQ w c gm gR s s' g t fr all v l q W) : Blk W gm 27 (pC g t fr all v) := TkS.m h
theorem TkQ.grow {w W W' : World} {c gm gR : Nat} {s s' : St} {g t : Gd} {fr all : Int} {v : Value} {l : List Ch} {q : Bool} (h : TkQ w c gm gR s s' g t fr all v l q W) (hb : Below W.heap.size W W') : TkQ w c gm gR s s' g t fr all v l q W' := TkS.grow h hb
theorem TkQ.own {w W : World} {c gm gR : Nat} {s s' : St} {g t : Gd} {fr all : Int} {v : Value} {l : List Ch} {q : Bool} {j : Nat} (h : TkQ w c gm gR s s' g t fr all v l q W) (hl : l.length = j) : W.ownsRow w.heap.size 46 2 v j (chVals l) := TkS.own h hl
theorem TkQ.lowb {w W : World} {c gm gR : Nat} {s s' : St} {g t : Gd} {fr all : Int} {v : Value} {l : List Ch} {q : Bool} (h : TkQ w c gm gR s s' g t fr all v l q W) : w.heap.size ≤ W.heap.size := TkS.lowb h
theorem TkQ.push {w W W' : World} {c gm gR : Nat} {s s' : St} {g t : Gd} {fr all : Int} {v : Value} {l : List Ch} {x : Ch} {v' : Value} {j : Nat} (h : TkQ w c gm gR s s' g t fr all v l true W) (hl : l.length = j) (ho : W'.ownsRow w.heap.size 46 2 v' (j + 1) (chVals l ++ [.int .i64 x.1, .string (str x.2)])) (hg : W.grownBy W' v.ownBlock) :
    TkS w c gm gR s' g t fr all v' (l ++ [x]) (W'.setCell ⟨gm, 6, none⟩ v') ∧ W'.cell? ⟨gm, 6, none⟩ = some v ∧ W'.frozen? ⟨gm, 6, none⟩ = false := TkS.push h hl ho hg

def TtG (gm c : Nat) (v1 : Value) (x1 : Int) (T : ByteArray) : Nat → Value → World → Prop
  | 0, v, _ => v = .pointer (some ⟨gm, 6, none⟩)
  | 1, v, _ => v = v1
  | 2, v, _ => v = .int .i64 x1
  | 3, v, _ => v = .pointer (some ⟨c, 0, none⟩)
  | 4, v, _ => v = .string T
  | 5, v, _ => v = .agg #[.int .i64 x1, .string T]
  | 6, v, W => ∃ g, v = .slice (some ⟨g, 0, none⟩) 1 1 ∧ Blk W g 46 #[.int .i64 x1, .string T]
  | _, _, _ => True
theorem TtG_mono (gm c : Nat) (v1 : Value) (x1 : Int) (T : ByteArray) (i : Nat) (v : Value) (w w' : World) (hi : i < 7) (h : TtG gm c v1 x1 T i v w) (hb : Kp 91 w w') : TtG gm c v1 x1 T i v w' := by
  match i, hi, h with
  | 0, _, h | 1, _, h | 2, _, h | 3, _, h | 4, _, h | 5, _, h => exact h
  | 6, _, ⟨g, h1, h2⟩ => exact ⟨g, h1, hb _ _ _ (by decide) h2⟩
  | j + 7, hi, _ => exact absurd hi (by omega)

theorem gChs_snoc : ∀ (n : Nat) (s : St), gChs (n + 1) s = ((gChs n s).1 ++ [(gCh (gChs n s).2).1], (gCh (gChs n s).2).2)
  | 0, s => rfl
  | n + 1, s => by
    have ih := gChs_snoc n (gCh s).2
    show ((((gCh s).1 :: (gChs (n + 1) (gCh s).2).1), (gChs (n + 1) (gCh s).2).2) : List Ch × St) = _
    rw [ih]
    rfl
def TkRel (w : World) (c gm gR : Nat) (s : St) (g t : Gd) (fr all : Int) (N : Nat) (i : Value) (wr : World) : Prop :=
  ∃ (k : Nat) (v : Value), k ≤ N ∧ i = .int .i64 (k : Int) ∧ TkS w c gm gR (gChs k s).2 g t fr all v (gChs k s).1 wr
/-- What is answered: a part, and what the reader has left. -/
def endTk (c : Nat) (s : St) (w : World) (e : Ending) (w' : World) : Prop := ∃ A d, e = .returned (.agg (paC (gP s).1 A d)) ∧ OChs w' w.heap.size (.slice A (gP s).1.chs.length d) (gP s).1.chs ∧ Rd w c (gP s).2 w'

theorem load_res {W : World} {b : Nat} {g t : Gd} {fr all : Int} {v : Value} {fn : Func} (hf : fn.results = #[.cell 2 27]) (h : Blk W b 27 (pC g t fr all v)) (tm : Array Value) (hp : tm.getD 2 undef = .pointer (some ⟨b, 0, none⟩)) :
    (results fn tm).run Tryd.prog W = .ok (.agg (pC g t fr all v)) W := by
  have hl := load_pa h
  generalize pC g t fr all v = X at *
  exact results_cell1 hf tm _ _ ⟨b, 0, none⟩ _ hp hl

set_option maxHeartbeats 12800000 in
theorem take_any {w : World} {c : Nat} {s : St} (h : PS w c s) : Calls Tryd.prog 40 #[pt c] w (endTk c s w) := by
  obtain ⟨i0, hi, hz0, hz1, hz2⟩ := info_parts infoCh
  have c1 := (Below.refl w.heap.size w).alloc (Nat.le_refl _) (.cells pZ 27)
  have k1 := Blk.new w 27 pZ
  obtain ⟨W1, hW1⟩ : ∃ z, w.alloc (.cells pZ 27) = z := ⟨_, rfl⟩
  rw [hW1] at c1 k1
  have c2 := (Below.refl W1.heap.size W1).alloc (Nat.le_refl _) (.cells pZ 27)
  have k2 := Blk.new W1 27 pZ
  obtain ⟨W2, hW2⟩ : ∃ z, W1.alloc (.cells pZ 27) = z := ⟨_, rfl⟩
  rw [hW2] at c2 k2
  obtain ⟨gR, hgR⟩ : ∃ q, w.heap.size = q := ⟨_, rfl⟩
  obtain ⟨gm, hgm⟩ : ∃ q, W1.heap.size = q := ⟨_, rfl⟩
  have H1 : Hid (TkS w c gm gR s (0, 0) (0, 0) 0 0 nlS [] W2) := by
    have r1 : Rd w c s W1 := ⟨But.of_below c1, h.below c1⟩
    have e2 := k1.below c2
    rw [hgR] at e2
    rw [hgm] at k2
    refine ⟨k2, e2, World.ownsRow_nil _ _ _ _, r1.new c2, ?_, ?_⟩
    · have := k1.lt; omega
    · have := c1.size; omega
  unfold pZ at hW1 hW2
  clear h c1 c2 k1 k2
  go_enter Tryd.func40, Tryd.ntmps40
  go_upto_region 2 with fail
  try rw [hW2]
  try rw [hgR]
  try rw [hgm]
  clear hW1 hW2 hgR hgm
  go_wp2_with fail
  refine (takeGuid_any H1.out.rd.ps).mono ?_
  rintro e W3 ⟨rfl, hq⟩
  have HT1 := Lib.hid (H1.out.turn hq)
  obtain ⟨⟨x1, y1⟩, hx1⟩ : ∃ z, (gdS s).1 = z := ⟨_, rfl⟩
  obtain ⟨s1, hs1⟩ : ∃ z, (gdS s).2 = z := ⟨_, rfl⟩
  rw [hx1]
  rw [hs1] at HT1
  have HX1 := Lib.hid hx1
  have HS1 := Lib.hid hs1
  clear hq hx1 hs1 H1
  unfold gv
  dsimp only
  have hm := HT1.out.m
  have m0 := hm.cell 0
  have f0 := hm.frozen 0
  have m1 := hm.cell 1
  have f1 := hm.frozen 1
  have hml := hm.lt
  simp only [pC, List.getElem?_toArray, List.getElem?_cons_zero, List.getElem?_cons_succ] at m0 m1
  have H2 : Hid (TkS w c gm gR s1 (x1, y1) (0, 0) 0 0 nlS [] ((W3.setCell ⟨gm, 0, none⟩ (.int .u64 (x1 : Int))).setCell ⟨gm, 1, none⟩ (.int .u64 (y1 : Int)))) :=
    (HT1.out.put 0 (.int .u64 (x1 : Int)) (g' := (x1, 0)) (t' := (0, 0)) (fr' := 0) (all' := 0) (by simp [pC])).put 1 (.int .u64 (y1 : Int)) (by simp [pC])
  obtain ⟨W4, hWn⟩ : ∃ q, (W3.setCell ⟨gm, 0, none⟩ (.int .u64 (x1 : Int))).setCell ⟨gm, 1, none⟩ (.int .u64 (y1 : Int)) = q := ⟨_, rfl⟩
  rw [hWn] at H2
  have HWn := Lib.hid hWn
  clear hm hWn HT1
  go_upto_region 3 with fail
  try rw [HWn.out]
  clear HWn m0 m1 f0 f1 hml
  go_wp2_with fail
  refine (takeGuid_any H2.out.rd.ps).mono ?_
  rintro e W5 ⟨rfl, hq⟩
  have HT2 := Lib.hid (H2.out.turn hq)
  obtain ⟨⟨x2, y2⟩, hx2⟩ : ∃ z, (gdS s1).1 = z := ⟨_, rfl⟩
  obtain ⟨s2, hs2⟩ : ∃ z, (gdS s1).2 = z := ⟨_, rfl⟩
  rw [hx2]
  rw [hs2] at HT2
  have HX2 := Lib.hid hx2
  have HS2 := Lib.hid hs2
  clear hq hx2 hs2 H2
  unfold gv
  dsimp only
  have hm := HT2.out.m
  have m2 := hm.cell 2
  have f2 := hm.frozen 2
  have m3 := hm.cell 3
  have f3 := hm.frozen 3
  have hml := hm.lt
  simp only [pC, List.getElem?_toArray, List.getElem?_cons_zero, List.getElem?_cons_succ] at m2 m3
  have H3 : Hid (TkS w c gm gR s2 (x1, y1) (x2, y2) 0 0 nlS [] ((W5.setCell ⟨gm, 2, none⟩ (.int .u64 (x2 : Int))).setCell ⟨gm, 3, none⟩ (.int .u64 (y2 : Int)))) :=
    (HT2.out.put 2 (.int .u64 (x2 : Int)) (g' := (x1, y1)) (t' := (x2, 0)) (fr' := 0) (all' := 0) (by simp [pC])).put 3 (.int .u64 (y2 : Int)) (by simp [pC])
  obtain ⟨W6, hWn⟩ : ∃ q, (W5.setCell ⟨gm, 2, none⟩ (.int .u64 (x2 : Int))).setCell ⟨gm, 3, none⟩ (.int .u64 (y2 : Int)) = q := ⟨_, rfl⟩
  rw [hWn] at H3
  have HWn := Lib.hid hWn
  clear hm hWn HT2
  go_upto_region 4 with fail
  try rw [HWn.out]
  clear HWn m2 m3 f2 f3 hml
  go_wp2_with fail
  refine (upTo_any H3.out.rd.ps 8 8 rfl (by omega)).mono ?_
  rintro e W7 ⟨rfl, hq⟩
  have HT3 := Lib.hid (H3.out.turn hq)
  obtain ⟨x3, hx3⟩ : ∃ z, (uS 8 s2).1 = z := ⟨_, rfl⟩
  obtain ⟨s3, hs3⟩ : ∃ z, (uS 8 s2).2 = z := ⟨_, rfl⟩
  rw [hx3]
  rw [hs3] at HT3
  have HX3 := Lib.hid hx3
  have HS3 := Lib.hid hs3
  clear hq hx3 hs3 H3
  dsimp only
  have hm := HT3.out.m
  have m4 := hm.cell 4
  have f4 := hm.frozen 4
  have hml := hm.lt
  simp only [pC, List.getElem?_toArray, List.getElem?_cons_zero, List.getElem?_cons_succ] at m4
  have H4 : Hid (TkS w c gm gR s3 (x1, y1) (x2, y2) (x3 : Int) 0 nlS [] (W7.setCell ⟨gm, 4, none⟩ (.int .i64 (x3 : Int)))) :=
    HT3.out.put 4 (.int .i64 (x3 : Int)) (by simp [pC])
  obtain ⟨W8, hWn⟩ : ∃ q, W7.setCell ⟨gm, 4, none⟩ (.int .i64 (x3 : Int)) = q := ⟨_, rfl⟩
  rw [hWn] at H4
  have HWn := Lib.hid hWn
  clear hm hWn HT3
  go_upto_region 5 with fail
  try rw [HWn.out]
  clear HWn m4 f4 hml
  go_wp2_with fail
  refine (upTo_any H4.out.rd.ps 8 8 rfl (by omega)).mono ?_
  rintro e W9 ⟨rfl, hq⟩
  have HT4 := Lib.hid (H4.out.turn hq)
  obtain ⟨x4, hx4⟩ : ∃ z, (uS 8 s3).1 = z := ⟨_, rfl⟩
  obtain ⟨s4, hs4⟩ : ∃ z, (uS 8 s3).2 = z := ⟨_, rfl⟩
  rw [hx4]
  rw [hs4] at HT4
  have HX4 := Lib.hid hx4
  have HS4 := Lib.hid hs4
  clear hq hx4 hs4 H4
  dsimp only
  have hm := HT4.out.m
  have m5 := hm.cell 5
  have f5 := hm.frozen 5
  have hml := hm.lt
  simp only [pC, List.getElem?_toArray, List.getElem?_cons_zero, List.getElem?_cons_succ] at m5
  have H5 : Hid (TkS w c gm gR s4 (x1, y1) (x2, y2) (x3 : Int) (x4 : Int) nlS [] (W9.setCell ⟨gm, 5, none⟩ (.int .i64 (x4 : Int)))) :=
    HT4.out.put 5 (.int .i64 (x4 : Int)) (by simp [pC])
  obtain ⟨WA, hWn⟩ : ∃ q, W9.setCell ⟨gm, 5, none⟩ (.int .i64 (x4 : Int)) = q := ⟨_, rfl⟩
  rw [hWn] at H5
  have HWn := Lib.hid hWn
  clear hm hWn HT4
  go_upto_region 6 with fail
  try rw [HWn.out]
  clear HWn m5 f5 hml
  go_wp2_with fail
  refine (upTo_any H5.out.rd.ps 2 2 rfl (by omega)).mono ?_
  rintro e WB ⟨rfl, hq⟩
  have H6 := Lib.hid (H5.out.turn hq)
  have hN := uS_le 2 s4
  obtain ⟨N, hx5⟩ : ∃ z, (uS 2 s4).1 = z := ⟨_, rfl⟩
  obtain ⟨s5, hs5⟩ : ∃ z, (uS 2 s4).2 = z := ⟨_, rfl⟩
  rw [hx5] at hN ⊢
  rw [hs5] at H6
  have HX5 := Lib.hid hx5
  have HS5 := Lib.hid hs5
  clear hq hx5 hs5 H5
  dsimp only
  obtain ⟨g, hg⟩ : ∃ q, (x1, y1) = q := ⟨_, rfl⟩
  obtain ⟨t, ht⟩ : ∃ q, (x2, y2) = q := ⟨_, rfl⟩
  obtain ⟨fr, hfr⟩ : ∃ q : Int, (x3 : Int) = q := ⟨_, rfl⟩
  obtain ⟨all, hall⟩ : ∃ q : Int, (x4 : Int) = q := ⟨_, rfl⟩
  rw [hg, ht, hfr, hall] at H6
  have HP : Hid (gP s = (⟨g, t, fr, all, (gChs N s5).1⟩, (gChs N s5).2)) := by
    unfold Hid gP
    dsimp only
    rw [HS1.out, HX1.out, HS2.out, HX2.out, HS3.out, HX3.out, HS4.out, HX4.out, HS5.out, HX5.out, hg, ht, hfr, hall]
  clear hg ht hfr hall HS1 HX1 HS2 HX2 HS3 HX3 HS4 HX4 HS5 HX5
  go_wp2_with fail
  go_loopw [4, 19] (fun _ i wr => TkRel w c gm gR s5 g t fr all N i wr) (fun _ i _ => N - (intOf i).toNat)
  case atStart => exact ⟨0, nlS, Nat.zero_le _, rfl, H6.out⟩
  case round =>
    obtain ⟨k, v1, hk, rfl, hst⟩ := hrel
    have HST := Lib.hid hst
    have HLN := Lib.hid (gChs_len k s5)
    obtain ⟨A5, c5, hv⟩ := own_form hst.row
    rw [HLN.out] at hv
    clear hst
    by_cases hlt : k < N
    · have hki : (k : Int) < (N : Int) := by omega
      have HSN := Lib.hid (gChs_snoc k s5)
      obtain ⟨lk, hlk⟩ : ∃ q, (gChs k s5).1 = q := ⟨_, rfl⟩
      obtain ⟨sk, hsk⟩ : ∃ q, (gChs k s5).2 = q := ⟨_, rfl⟩
      rw [hlk] at HST HLN HSN
      rw [hsk] at HST HSN
      clear hlk hsk
      have hkb : k ≤ 3 := by omega
      go_wp2_with fail
      refine (upTo_any HST.out.rd.ps 8 8 rfl (by omega)).mono ?_
      rintro e WC ⟨rfl, hq⟩
      have HTQ := Lib.hid (HST.out.turn hq)
      obtain ⟨bk, hbk⟩ : ∃ z, (uS 8 sk).1 = z := ⟨_, rfl⟩
      obtain ⟨sk1, hs1⟩ : ∃ z, (uS 8 sk).2 = z := ⟨_, rfl⟩
      rw [hs1] at HTQ
      rw [hbk]
      obtain ⟨z1, hz1⟩ : ∃ z : Int, ((bk : Nat) : Int) = z := ⟨_, rfl⟩
      rw [hz1]
      obtain ⟨T, hT⟩ : ∃ z, str (textS sk1).1 = z := ⟨_, rfl⟩
      obtain ⟨sk2, hs2⟩ : ∃ z, (textS sk1).2 = z := ⟨_, rfl⟩
      obtain ⟨X, hX⟩ : ∃ z : Ch, ((z1, (textS sk1).1) : Ch) = z := ⟨_, rfl⟩
      have HXX : Hid (([.int .i64 X.1, .string (str X.2)] : List Value) = [.int .i64 z1, .string T]) := by unfold Hid; rw [← hX, ← hT]
      have HCX : Hid (gCh sk = (X, sk2)) := by
        unfold Hid gCh
        rw [hs1, hbk, hz1, hX, hs2]
      have HTX : Hid (∀ W, TkQ w c gm gR sk1 sk2 g t fr all v1 lk false W → Calls Tryd.prog 53 #[.pointer (some ⟨c, 0, none⟩)] W fun x W' => x = .returned (.string T) ∧ Kp 91 W W' ∧ TkQ w c gm gR sk1 sk2 g t fr all v1 lk true W') := fun W hW => by
        have hps : PS W c sk1 := hW.rd.ps
        refine (ptext_any hps).mono ?_
        rintro e W' ⟨rfl, hq⟩
        rw [hs2] at hq
        exact ⟨by rw [hT], Rd.kp hps hq, TkS.turn hW hq⟩
      have HSC : Hid (TkQ w c gm gR sk1 sk2 g t fr all v1 lk false WC) := HTQ.out
      clear hq hbk hs1 hz1 hT hs2 hX HST HTQ
      subst hv
      go_wp2_with fail
      refine wp_region_pre (by kernel_rfl) 7 [23, 24, 25, 26, 27, 28, 29] (by kernel_rfl) (fun L vs W => TkQ w c gm gR sk1 sk2 g t fr all (.slice A5 k c5) lk (L 4) W ∧ ∀ i, L i = true → i < 7 → TtG gm c (.slice A5 k c5) z1 T i (vs i) W) ⟨HSC.out.grow ((Below.refl _ _).drew), fun i hi => by cases hi⟩ ?_ ?_
      · intro i o L vs ρ W hi51 ho hli haft hρ hI
        obtain ⟨hS, hG'⟩ := hI
        have hG : ∀ j, L j = true → TtG gm c (.slice A5 k c5) z1 T j (vs j) W := fun j hj => by
          by_cases h51 : j < 7
          · exact hG' j hj h51
          · match j, h51 with
            | j + 7, _ => exact trivial
        have hc := hρ.const
        have hfn := hρ.fn
        have next : ∀ v W', Kp 91 W W' → TkQ w c gm gR sk1 sk2 g t fr all (.slice A5 k c5) lk (updB L i 4) W' → TtG gm c (.slice A5 k c5) z1 T i v W' → TkQ w c gm gR sk1 sk2 g t fr all (.slice A5 k c5) lk (updB L i 4) W' ∧ ∀ j, updB L i j = true → j < 7 → TtG gm c (.slice A5 k c5) z1 T j (updV vs i v j) W' := fun v W' h1 h0 h2 => by
          refine ⟨h0, fun j hj h51 => ?_⟩
          by_cases hji : j = i
          · subst hji
            simpa [updV] using h2
          · simp only [updB, if_neg hji] at hj
            simpa [updV, hji] using TtG_mono gm c (.slice A5 k c5) z1 T j _ W W' h51 (hG' j hj h51) h1
        have hm := hS.m
        have m6 := hm.cell 6
        have hltm := hm.lt
        simp only [pC, List.getElem?_toArray, List.getElem?_cons_zero, List.getElem?_cons_succ] at m6
        rcases i with _ | _ | _ | _ | _ | _ | _ | i
        all_goals (first | omega | skip)
        all_goals simp only [List.getElem?_toArray, List.getElem?_cons_zero, List.getElem?_cons_succ, Option.some.injEq] at ho
        all_goals subst ho
        · have o0 : ρ (.tmp 3) = .pointer (some ⟨gm, 0, none⟩) := hρ.out 3 rfl
          exact stepTo_value (w' := W) (by unfold execOp; simp only [o0, hc]; go_simp) (next _ _ (Kp.refl _ _) (by simpa only [updB, Nat.reduceEqDiff, if_false, if_true, reduceIte] using hS) rfl)
        · have g0 : TtG gm c (.slice A5 k c5) z1 T 0 (vs 0) W := hG 0 (haft 0 (by kernel_rfl))
          have s0 : ρ (.tmp 23) = .pointer (some ⟨gm, 6, none⟩) := (hρ.at_ 23 0 rfl).trans g0
          exact stepTo_value (w' := W) (by unfold execOp; simp only [s0, hc]; go_simp) (next _ _ (Kp.refl _ _) (by simpa only [updB, Nat.reduceEqDiff, if_false, if_true, reduceIte] using hS) rfl)
        · have o1 : ρ (.tmp 4) = .int .i64 z1 := hρ.out 4 rfl
          exact stepTo_value (w' := W) (by unfold execOp; simp only [o1, hc]; go_simp) (next _ _ (Kp.refl _ _) (by simpa only [updB, Nat.reduceEqDiff, if_false, if_true, reduceIte] using hS) rfl)
        · have o2 : ρ (.tmp 0) = .pointer (some ⟨c, 0, none⟩) := hρ.out 0 rfl
          exact stepTo_value (w' := W) (by unfold execOp; simp only [o2, hc]; go_simp) (next _ _ (Kp.refl _ _) (by simpa only [updB, Nat.reduceEqDiff, if_false, if_true, reduceIte] using hS) rfl)
        · have g3 : TtG gm c (.slice A5 k c5) z1 T 3 (vs 3) W := hG 3 (haft 3 (by kernel_rfl))
          have s3 : ρ (.tmp 26) = .pointer (some ⟨c, 0, none⟩) := (hρ.at_ 26 3 rfl).trans g3
          rw [hli] at hS
          refine stepTo_enter (f := 53) (args := #[.pointer (some ⟨c, 0, none⟩)]) (w' := W) (by unfold execOp; simp only [hfn, s3]; go_simp) ((HTX.out W hS).mono ?_)
          rintro x W' ⟨rfl, hk, h1⟩
          exact ⟨_, rfl, next _ _ hk (by simpa only [updB, if_true, reduceIte] using h1) rfl⟩
        · have g2 : TtG gm c (.slice A5 k c5) z1 T 2 (vs 2) W := hG 2 (haft 2 (by kernel_rfl))
          have s2 : ρ (.tmp 25) = .int .i64 z1 := (hρ.at_ 25 2 rfl).trans g2
          have g4 : TtG gm c (.slice A5 k c5) z1 T 4 (vs 4) W := hG 4 (haft 4 (by kernel_rfl))
          have s4 : ρ (.tmp 27) = .string T := (hρ.at_ 27 4 rfl).trans g4
          exact stepTo_value (w' := W) (by unfold execOp; simp only [s2, s4, hc]; go_simp) (next _ _ (Kp.refl _ _) (by simpa only [updB, Nat.reduceEqDiff, if_false, if_true, reduceIte] using hS) rfl)
        · have g5 : TtG gm c (.slice A5 k c5) z1 T 5 (vs 5) W := hG 5 (haft 5 (by kernel_rfl))
          have s5 : ρ (.tmp 28) = .agg #[.int .i64 z1, .string T] := (hρ.at_ 28 5 rfl).trans g5
          exact stepTo_value (v := .slice (some ⟨W.heap.size, 0, none⟩) 1 1) (w' := W.alloc (.cells #[.int .i64 z1, .string T] 46)) (by unfold execOp; simp only [s5, hc]; go_simp) (next _ _ (Kp.of_below ((Below.refl _ W).alloc (Nat.le_refl _) _)) (by have h0 := hS.grow ((Below.refl _ W).alloc (Nat.le_refl _) (.cells #[.int .i64 z1, .string T] 46)); simpa only [updB, Nat.reduceEqDiff, if_false, if_true, reduceIte] using h0) ⟨W.heap.size, rfl, Blk.new _ _ _⟩)
      · intro L vs WC hL hI
        obtain ⟨hS, hG⟩ := hI
        have g1 : vs 1 = .slice A5 k c5 := hG 1 (hL 1 (by decide)) (by decide)
        have g6' : ∃ g, vs 6 = .slice (some ⟨g, 0, none⟩) 1 1 ∧ Blk WC g 46 #[.int .i64 z1, .string T] := hG 6 (hL 6 (by decide)) (by decide)
        obtain ⟨gn, g6, hbk⟩ := g6'
        have h4 : L 4 = true := hL 4 (by decide)
        rw [h4] at hS
        have HSD := Lib.hid hS
        have HNW := Lib.hid (news_blk hbk)
        clear hL hS hG hbk h4
        simp only [putList, putSel, if_true]
        rw [g1, g6]
        generalize vs 0 = z0
        generalize vs 2 = z2
        generalize vs 3 = z3
        generalize vs 4 = z4
        generalize vs 5 = z5
        clear g1 g6
        simp only [Act.put, List.setIfInBounds_toArray, List.set_cons_succ, List.set_cons_zero]
        refine wpAny_one (i := 7) (by kernel_rfl) rfl rfl ?_
        refine wp_append_any (.tmp 24) (.tmp 29) 25 rfl w.heap.size 46 i0 (.agg #[.int .i64 0, .string ByteArray.empty]) 2 24 Tryd.underlying25 hi hz0 hz1 hz2 rfl (by decide) _ k _ rfl (HSD.out.own HLN.out) ⟨gn, 0, none⟩ 1 1 [.int .i64 z1, .string T] rfl rfl HNW.out (one2 _ _) (by unfold maxLen; omega) (by omega) HSD.out.lowb ?_
        intro v' w1 hown hgrow hv
        obtain ⟨A', c', rfl⟩ := own_form hown
        obtain ⟨hds, k1, f1⟩ := HSD.out.push HLN.out (x := X) (by rw [HXX.out]; exact hown) hgrow
        have HDS := Lib.hid hds
        have hltm : gm < w1.heap.size := World.block_lt_of_cell? w1 _ k1
        clear hown hgrow hv hds
        go_simp
        refine wpAny_one (i := 8) (by kernel_rfl) rfl rfl ?_
        go_simp
        refine wpAny_one (i := 9) (by kernel_rfl) rfl rfl ?_
        go_simp
        refine ⟨by kernel_rfl, ?_⟩
        go_wp2_with fail
        go_roundw
        case rel =>
          refine ⟨k + 1, .slice A' (k + 1) c', by omega, by go_num, ?_⟩
          rw [HSN.out, HCX.out]
          exact HDS.out
        case measure => simp [intOf]; omega
    · have hkk : k = N := by omega
      subst hkk
      have hm := HST.out.m
      have hr := HST.out.res
      obtain ⟨lk, hlk⟩ : ∃ q, (gChs k s5).1 = q := ⟨_, rfl⟩
      obtain ⟨sk, hsk⟩ : ∃ q, (gChs k s5).2 = q := ⟨_, rfl⟩
      rw [hlk, hsk] at HST HP
      rw [hlk] at HLN
      clear hlk hsk
      subst hv
      have m0 := hm.cell 0
      have m1 := hm.cell 1
      have m2 := hm.cell 2
      have m3 := hm.cell 3
      have m4 := hm.cell 4
      have m5 := hm.cell 5
      have m6 := hm.cell 6
      have a0 := hr.cell 0
      have e0 := hr.frozen 0
      have a1 := hr.cell 1
      have e1 := hr.frozen 1
      have a2 := hr.cell 2
      have e2 := hr.frozen 2
      have a3 := hr.cell 3
      have e3 := hr.frozen 3
      have a4 := hr.cell 4
      have e4 := hr.frozen 4
      have a5 := hr.cell 5
      have e5 := hr.frozen 5
      have a6 := hr.cell 6
      have e6 := hr.frozen 6
      have hml := hm.lt
      have hrl := hr.lt
      simp only [pC, pZ, List.getElem?_toArray, List.getElem?_cons_zero, List.getElem?_cons_succ] at m0 m1 m2 m3 m4 m5 m6 a0 a1 a2 a3 a4 a5 a6
      clear hm hr hlt
      go_wp2_with fail
      show bodyPost _ _ _ _ _ (setPa wr gR g t fr all (.slice A5 k c5))
      have hres : Blk wr gR 27 (pC (0, 0) (0, 0) 0 0 nlS) := by rw [← pZ_is]; exact HST.out.res
      have hF := setPa_blk (g := g) (t := t) (fr := fr) (all := all) (v := .slice A5 k c5) hres
      have hRD : Rd w c sk (setPa wr gR g t fr all (.slice A5 k c5)) := by
        have h0 := HST.out.rd.set hres HST.out.lo.2 (by decide) (by decide) 0 (.int .u64 (g.1 : Int))
        have q0 := hres.set_ 0 (.int .u64 (g.1 : Int))
        have h1 := h0.set q0 HST.out.lo.2 (by decide) (by decide) 1 (.int .u64 (g.2 : Int))
        have q1 := q0.set_ 1 (.int .u64 (g.2 : Int))
        have h2 := h1.set q1 HST.out.lo.2 (by decide) (by decide) 2 (.int .u64 (t.1 : Int))
        have q2 := q1.set_ 2 (.int .u64 (t.1 : Int))
        have h3 := h2.set q2 HST.out.lo.2 (by decide) (by decide) 3 (.int .u64 (t.2 : Int))
        have q3 := q2.set_ 3 (.int .u64 (t.2 : Int))
        have h4 := h3.set q3 HST.out.lo.2 (by decide) (by decide) 4 (.int .i64 fr)
        have q4 := q3.set_ 4 (.int .i64 fr)
        have h5 := h4.set q4 HST.out.lo.2 (by decide) (by decide) 5 (.int .i64 all)
        have q5 := q4.set_ 5 (.int .i64 all)
        exact h5.set q5 HST.out.lo.2 (by decide) (by decide) 6 _
      have hOW : OChs (setPa wr gR g t fr all (.slice A5 k c5)) w.heap.size (.slice A5 k c5) lk := (setPa_kp hres).row (by decide) HST.out.row
      have hHP := HP.out
      refine bodyPost_ret (v := .agg (pC g t fr all (.slice A5 k c5))) (load_res Tryd.results40 hF _ (by simp)) rfl ?_
      have hE : (.agg (pC g t fr all (.slice A5 k c5)) : Value) = .agg (paC (⟨g, t, fr, all, lk⟩ : Pa) A5 c5) := by unfold paC pC; dsimp only; rw [HLN.out]
      refine ⟨A5, c5, ?_, ?_, ?_⟩
      · rw [hHP, hE]
      · rw [hHP]; dsimp only; rw [HLN.out]; exact hOW
      · rw [hHP]; exact hRD
end Go.Proofs.YtdpbdkacngaemaaDoor.st

/- What End of a reader of package wire answers. -/
namespace Go.Proofs.YtdpbdkacngaemaaDoor.wi
open Go.RowKit
set_option maxRecDepth 100000

theorem end_nil (w : World) :
    Calls Tryd.prog 41 #[.pointer none] w fun e w' => e = .returned (.bool false) ∧ w = w' := by
  go_enter Tryd.func41, Tryd.ntmps41
  go_wp2_with (go_at_call 54; refine (ok_nil _).mono ?_; rintro e w' ⟨rfl, rfl⟩)
  go_ret
  exact ⟨rfl, rfl⟩

theorem end_bad (b : Nat) (l : List UInt8) (w : World) (h : RdAt b l true w) :
    Calls Tryd.prog 41 #[.pointer (some ⟨b, 0, none⟩)] w fun e w' => e = .returned (.bool false) ∧ w = w' := by
  go_enter Tryd.func41, Tryd.ntmps41
  go_wp2_with (go_at_call 54; refine (ok_no b l _ h).mono ?_; rintro e w' ⟨rfl, rfl⟩)
  go_ret
  exact ⟨rfl, rfl⟩

theorem end_good (b : Nat) (l : List UInt8) (w : World) (h : RdAt b l false w) :
    Calls Tryd.prog 41 #[.pointer (some ⟨b, 0, none⟩)] w fun e w' => e = .returned (.bool l.isEmpty) ∧ w = w' := by
  obtain ⟨g, o, cap, hb, hr⟩ := h
  have h1 : w.cell? ⟨b, 0, none⟩ = some (.slice (some ⟨g, o, none⟩) l.length cap) := by simp [World.cell?, hb]
  have he : ((l.length : Int) == 0) = l.isEmpty := by cases l <;> simp; omega
  have hR : RdAt b l false w := ⟨g, o, cap, hb, hr⟩
  have hlen : l.length ≤ 140737488355328 := hr.2.2
  clear hb hr
  go_enter Tryd.func41, Tryd.ntmps41
  go_wp2_with (go_at_call 54; refine (ok_yes b l _ hR).mono ?_; rintro e w' ⟨rfl, rfl⟩)
  go_ret
  exact ⟨rfl, rfl⟩

end Go.Proofs.YtdpbdkacngaemaaDoor.wi

/- What Open of package crc does. -/
namespace Go.Proofs.YtdpbdkacngaemaaDoor
open Go.RowKit Go.Sort
set_option maxRecDepth 100000

theorem cmixed : Tryd.prog.follows .mixedOrders = true := by kernel_rfl

theorem clone_any (s : ByteArray) (w : World) (hs : s.size ≤ 281474976710656) : Calls Tryd.prog 44 #[.string s] w (okStr s w) := by
  go_enter Tryd.func44, Tryd.ntmps44
  go_wp2_with (go_at_call 55; refine (Tryd.stringslite_Clone s _ hs).mono ?_)
  rintro e W1 ⟨rfl, b1⟩
  go_wp2
  go_ret
  exact ⟨rfl, b1⟩

/-- What Open answers. -/
def OpenIs (l : List UInt8) (w : World) (e : Ending) (w' : World) : Prop :=
  (match openB l with
    | some m => e = .returned (.tuple #[.string (str m), .bool true])
    | none => e = .returned (.tuple #[.string ⟨#[]⟩, .bool false])) ∧ Below w.heap.size w w'

set_option maxHeartbeats 400000 in
theorem open_short (s : ByteArray) (w : World) (hs : s.size < 4) : Calls Tryd.prog 38 #[.string s] w (OpenIs (bl s) w) := by
  have ho : openB (bl s) = none := by unfold openB; rw [if_pos (by rw [bl_len]; exact hs)]
  have Ho := Lib.hid ho
  clear ho
  have hd : decide ((s.size : Int) - 4 < 0) = true := by simp; omega
  go_enter Tryd.func38, Tryd.ntmps38
  go_wp2
  refine wp_region_quiet_below cmixed (by kernel_rfl) ?_
  repeat (any_goals (first | go_big_quiet_step (fail) | quiet_step (fail)))
  refine wpQuiet_nil ?_
  intro _ hw'
  obtain ⟨⟨dq, osq⟩, hw''⟩ := hw'
  subst hw''
  go_wp2
  go_ret2
  refine ⟨?_, below_regrown w dq osq⟩
  rw [Ho.out]
  rfl

set_option maxHeartbeats 400000 in
theorem open_4 (s : ByteArray) (w : World) (hs : 4 ≤ s.size) (hr : s.size ≤ 140737488355328) (ht : CTab w) : Calls Tryd.prog 38 #[.string s] w (OpenIs (bl s) w) := by
  have hd : decide ((s.size : Int) - 4 < 0) = false := by simp; omega
  have HT := Lib.hid ht
  have hz : (s.extract 0 (s.size - 4)).size ≤ s.size := by simp
  have cT : ∀ d os, Calls Tryd.prog 37 #[.string (s.extract 0 (s.size - 4))] (grow (redrawn w d) os) fun e w'' => e = .returned (.string (str (tailB (bl (s.extract 0 (s.size - 4)))))) ∧ ∃ p : Regrown, w'' = grow (redrawn w p.d) p.os :=
    fun d os => Calls.regrown_of (ctail_any _ _ (by omega) (HT.out.below (below_regrown w d os) HT.out.1))
  clear ht hz
  go_enter Tryd.func38, Tryd.ntmps38
  go_wp2
  refine wp_region_quiet_below cmixed (by kernel_rfl) ?_
  repeat (any_goals (first | go_big_quiet_step (exact cT _ _) | quiet_step (exact cT _ _)))
  refine wpQuiet_nil ?_
  intro _ hw'
  obtain ⟨⟨dq, osq⟩, hw''⟩ := hw'
  subst hw''
  cases hx : openB (bl s) with
  | none =>
    have hq : ((s.extract (s.size - 4) s.size).toList == (str (tailB (bl (s.extract 0 (s.size - 4))))).toList) = false := by
      rw [beq_bl, bl_from, bl_upto]
      simp only [openB, bl_len] at hx
      rw [if_neg (by omega)] at hx
      split at hx
      · cases hx
      · rename_i h; simpa using h
    have Hx := Lib.hid hx
    clear hx
    generalize ((s.extract (s.size - 4) s.size).toList == (str (tailB (bl (s.extract 0 (s.size - 4))))).toList) = q at *
    subst hq
    go_wp2
    go_ret2
    refine ⟨?_, below_regrown w dq osq⟩
    rw [Hx.out]
    rfl
  | some m =>
    have hq : ((s.extract (s.size - 4) s.size).toList == (str (tailB (bl (s.extract 0 (s.size - 4))))).toList) = true ∧ s.extract 0 (s.size - 4) = str m := by
      rw [beq_bl, bl_from, bl_upto]
      simp only [openB, bl_len] at hx
      rw [if_neg (by omega)] at hx
      split at hx
      · rename_i h
        refine ⟨by simpa using h, ?_⟩
        simp only [Option.some.injEq] at hx
        rw [← hx, ← bl_upto, str_bl]
      · cases hx
    obtain ⟨hq, hm⟩ := hq
    have Hx := Lib.hid hx
    have Hm := Lib.hid hm
    have hz : (s.extract 0 (s.size - 4)).size ≤ s.size := by simp
    clear hx hm
    generalize ((s.extract (s.size - 4) s.size).toList == (str (tailB (bl (s.extract 0 (s.size - 4))))).toList) = q at *
    subst hq
    go_wp2_with (go_at_call 44; refine (clone_any _ _ (by omega)).mono ?_)
    rintro e W2 ⟨rfl, b2⟩
    have b' := below_step (below_regrown w dq osq) b2
    clear b2
    go_wp2
    go_ret2
    refine ⟨?_, b'⟩
    rw [Hx.out]
    simp [Hm.out]

theorem copen_any (s : ByteArray) (w : World) (hr : s.size ≤ 140737488355328) (ht : CTab w) : Calls Tryd.prog 38 #[.string s] w (OpenIs (bl s) w) := by
  by_cases h : s.size < 4
  · exact open_short s w h
  · exact open_4 s w (by omega) hr ht

theorem copen_some (s : ByteArray) (m : List UInt8) (w : World) (hr : s.size ≤ 140737488355328) (ht : CTab w) (h : openB (bl s) = some m) :
    Calls Tryd.prog 38 #[.string s] w fun e w' => e = .returned (.tuple #[.string (str m), .bool true]) ∧ Below w.heap.size w w' :=
  (copen_any s w hr ht).mono fun e w' hh => by unfold OpenIs at hh; rw [h] at hh; exact hh

theorem copen_none (s : ByteArray) (w : World) (hr : s.size ≤ 140737488355328) (ht : CTab w) (h : openB (bl s) = none) :
    Calls Tryd.prog 38 #[.string s] w fun e w' => e = .returned (.tuple #[.string ⟨#[]⟩, .bool false]) ∧ Below w.heap.size w w' :=
  (copen_any s w hr ht).mono fun e w' hh => by unfold OpenIs at hh; rw [h] at hh; exact hh

end Go.Proofs.YtdpbdkacngaemaaDoor

/- What the program reads of bytes as a part. -/
namespace Go.Proofs.YtdpbdkacngaemaaDoor.st
open Go Go.RowKit Go.Sort Go.Proofs.YtdpbdkacngaemaaDoor.ib Go.Proofs.YtdpbdkacngaemaaDoor.wi Go.Proofs.YtdpbdkacngaemaaDoor.mt
open Go.Proofs.YtdpbdkacngaemaaDoor.mt.pg (PS Rd)
open Go.Proofs.YtdpbdkacngaemaaDoor.ch (ChL OChs chVals infoCh)
set_option maxRecDepth 100000

theorem pend_any {w : World} {c : Nat} {s : St} (h : PS w c s) : Calls Tryd.prog 41 #[pt c] w fun e w' => e = .returned (.bool (decide (s = some []))) ∧ w = w' := by
  unfold PS at h
  split at h
  · obtain ⟨l, h1⟩ := h
    exact (end_bad c l w h1).mono fun e w' hh => hh
  · rename_i l
    refine (end_good c l w h).mono ?_
    rintro e w' ⟨rfl, rfl⟩
    refine ⟨?_, rfl⟩
    cases l <;> rfl
theorem gCh_le (s : St) : 0 ≤ (gCh s).1.1 ∧ (gCh s).1.1 ≤ 9 := by
  have := uS_le 8 s
  unfold gCh
  dsimp only
  omega
theorem gChs_b64 : ∀ (n : Nat) (s : St), ∀ x ∈ (gChs n s).1, b64 x.1
  | 0, _, x, hx => absurd hx (by simp [gChs])
  | n + 1, s, x, hx => by
    unfold gChs at hx
    rcases List.mem_cons.1 hx with rfl | hx
    · have := gCh_le s
      unfold b64
      omega
    · exact gChs_b64 n _ x hx
theorem gP_ok (s : St) : b64 (gP s).1.fr ∧ b64 (gP s).1.all ∧ (gP s).1.chs.length ≤ 3 ∧ ∀ x ∈ (gP s).1.chs, b64 x.1 := by
  unfold gP
  dsimp only
  have h1 := uS_le 8 (gdS (gdS s).2).2
  have h2 := uS_le 8 (uS 8 (gdS (gdS s).2).2).2
  refine ⟨by unfold b64; omega, by unfold b64; omega, ?_, gChs_b64 _ _⟩
  rw [gChs_len]
  exact uS_le 2 _

set_option maxHeartbeats 6400000 in
theorem dec_any (s : ByteArray) (w : World) (hs : s.size ≤ 100000) (ht : CTab w) : Calls Tryd.prog 25 #[.string s] w (endP (pDec (bl s)) w) := by
  have HDI : Hid (pDec (bl s) = match openB (bl s) with
    | none => (pa0, 4)
    | some l => if (gP (some l)).2 = some [] ∧ pCheck (gP (some l)).1 = 0 then ((gP (some l)).1, 0) else (pa0, 4)) := (dec_is (bl s)).symm
  have c1 := (Below.refl w.heap.size w).alloc (Nat.le_refl _) (.cells pZ 27)
  have k1 := Blk.new w 27 pZ
  obtain ⟨W1, hW1⟩ : ∃ z, w.alloc (.cells pZ 27) = z := ⟨_, rfl⟩
  rw [hW1] at c1 k1
  have HB1 := Lib.hid c1
  have HT1 := Lib.hid (ht.below c1 ht.1)
  have HGE : Hid (w.heap.size ≤ w.heap.size) := Nat.le_refl _
  obtain ⟨gR, hgR⟩ : ∃ q, w.heap.size = q := ⟨_, rfl⟩
  have HGR := Lib.hid hgR
  rw [hgR] at k1
  have HR1 := Lib.hid k1
  have HGE : Hid (w.heap.size ≤ gR) := Nat.le_of_eq hgR
  obtain ⟨D, hD⟩ : ∃ z, pDec (bl s) = z := ⟨_, rfl⟩
  rw [hD] at HDI ⊢
  have HOP := Lib.hid (copen_any s W1 (by omega) HT1.out)
  have HOL : Hid (∀ m, openB (bl s) = some m → m.length ≤ 100000) := fun m h => by
    have := openB_is _ m h
    have h2 := congrArg List.length this
    rw [sealB_length, bl_len] at h2
    omega
  unfold pZ at hW1
  clear c1 k1 ht hD
  go_enter Tryd.func25, Tryd.ntmps25
  go_upto_region 1 with fail
  try rw [hW1]
  try rw [hgR]
  clear hW1 hgR
  go_wp2_with fail
  refine HOP.out.mono ?_
  rintro e W2 ⟨ho, c2⟩
  have HB2 := Lib.hid (below_step HB1.out c2)
  have HR2 := Lib.hid (HR1.out.below c2)
  clear c2 HOP HB1 HR1
  cases hop : openB (bl s) with
  | none =>
    rw [hop] at ho HDI
    dsimp only at ho HDI
    subst ho
    have HD4 : Hid (D = (pa0, 4)) := HDI.out
    clear hop HDI HOL
    have hr := HR2.out
    have a0 := hr.cell 0
    have a1 := hr.cell 1
    have a2 := hr.cell 2
    have a3 := hr.cell 3
    have a4 := hr.cell 4
    have a5 := hr.cell 5
    have a6 := hr.cell 6
    have f0 := hr.frozen 0
    have f1 := hr.frozen 1
    have f2 := hr.frozen 2
    have f3 := hr.frozen 3
    have f4 := hr.frozen 4
    have f5 := hr.frozen 5
    have f6 := hr.frozen 6
    have hrl := hr.lt
    simp only [pZ, List.getElem?_toArray, List.getElem?_cons_zero, List.getElem?_cons_succ] at a0 a1 a2 a3 a4 a5 a6
    clear hr
    go_wp2_with fail
    show bodyPost _ _ _ _ _ (setPa W2 gR (0, 0) (0, 0) 0 0 nlS)
    rw [HD4.out]
    exact pa_none (b := gR) Tryd.results25 _ rfl (by simp) (by simp) (by rw [pZ_is]; exact setPa_blk (by rw [← pZ_is]; exact HR2.out)) (setPa_below HB2.out HGE.out)
  | some m =>
    rw [hop] at ho HDI
    dsimp only at ho HDI
    subst ho
    have hml := HOL.out m hop
    have HND : Hid (¬ ((gP (some m)).2 = some [] ∧ pCheck (gP (some m)).1 = 0) → D = (pa0, 4)) := fun h => by rw [HDI.out, if_neg h]
    have HYD : Hid ((gP (some m)).2 = some [] ∧ pCheck (gP (some m)).1 = 0 → D = ((gP (some m)).1, 0)) := fun h => by rw [HDI.out, if_pos h]
    clear hop HDI HOL
    have HN := Lib.hid (new_any (str m) W2 (by rw [str_size]; omega))
    go_wp2_with fail
    refine HN.out.mono ?_
    rintro e W3 ⟨c, rfl, hc, hrd, c3⟩
    have hps : PS W3 c (some m) := by rw [bl_str] at hrd; exact hrd
    have HPS := Lib.hid hps
    have HB3 := Lib.hid (below_step HB2.out c3)
    have HR3 := Lib.hid (HR2.out.below c3)
    have HC : Hid (w.heap.size ≤ c) := Nat.le_trans HB2.out.size hc
    clear hc hrd c3 hps HB2 HR2 HN
    go_wp2_with fail
    refine (take_any HPS.out).mono ?_
    rintro e W4 ⟨A, d, rfl, ho, hq⟩
    have HB4 : Hid (Below w.heap.size w W4) := HB3.out.trans (hq.but.below (fun j hj => by unfold Tc at hj; rw [hj]; exact HC.out) HB3.out.size)
    have HR4 := Lib.hid (hq.blk HR3.out HPS.out.blk (by decide))
    have HP4 := Lib.hid hq.ps
    have HOK := Lib.hid (gP_ok (some m))
    have HGB := Lib.hid (gP_B (some m))
    obtain ⟨p, hp⟩ : ∃ z, (gP (some m)).1 = z := ⟨_, rfl⟩
    obtain ⟨sr, hsr⟩ : ∃ z, (gP (some m)).2 = z := ⟨_, rfl⟩
    rw [hp] at ho HOK HGB HND HYD ⊢
    rw [hsr] at HP4 HND HYD
    obtain ⟨A', d', hv', hc', hn'⟩ := ochs_chl ho HOK.out.2.2.2
    simp only [Value.slice.injEq, true_and] at hv'
    obtain ⟨rfl, rfl⟩ := hv'
    have HPA : Hid (PaL W4 A d p) := ⟨hc', HGB.out.1, HGB.out.2, HOK.out.1, HOK.out.2.1⟩
    have HNA : Hid (NewA w W4 A) := fun b o e => by have := hn' b o e; have := HB3.out.size; omega
    have HNE : Hid (∀ b o, A = some ⟨b, o, none⟩ → b ≠ gR) := fun b o e => by have := hn' b o e; have := HR3.out.lt; omega
    have HL3 : Hid (p.chs.length ≤ 3) := HOK.out.2.2.1
    clear ho hq hc' hn' hp hsr HOK HGB HB3 HR3 HPS HC
    unfold paC
    obtain ⟨W5, hW5⟩ : ∃ z, W4.alloc (.cells (pC p.base p.target p.fr p.all (.slice A p.chs.length d)) 27) = z := ⟨_, rfl⟩
    have c5 : Below W4.heap.size W4 W5 := by rw [← hW5]; exact (Below.refl _ _).alloc (Nat.le_refl _) _
    have hM : Blk W5 W4.heap.size 27 (pC p.base p.target p.fr p.all (.slice A p.chs.length d)) := by rw [← hW5]; exact Blk.new _ _ _
    have HB5 := Lib.hid (below_step HB4.out c5)
    have HR5 := Lib.hid (HR4.out.below c5)
    have HP5 := Lib.hid (HP4.out.below c5)
    have HPA5 := Lib.hid (HPA.out.below c5)
    have HNA5 : Hid (NewA w W5 A) := fun b o e => by have := HNA.out b o e; have := c5.size; omega
    have HM5 := Lib.hid hM
    unfold pC at hW5
    have HW5 := Lib.hid hW5
    clear c5 hM hW5 HB4 HR4 HP4 HPA HNA
    go_upto_region 6 with fail
    try rw [HW5.out]
    obtain ⟨gm, hgm⟩ : ∃ q, W4.heap.size = q := ⟨_, rfl⟩
    rw [hgm] at HM5
    try rw [hgm]
    clear HW5 hgm
    have HCK := Lib.hid (check_any A d p W5 HPA5.out (by have := HL3.out; omega))
    unfold paC at HCK
    have hm := HM5.out
    have m0 := hm.cell 0
    have m1 := hm.cell 1
    have m2 := hm.cell 2
    have m3 := hm.cell 3
    have m4 := hm.cell 4
    have m5 := hm.cell 5
    have m6 := hm.cell 6
    have hml := hm.lt
    simp only [pC, List.getElem?_toArray, List.getElem?_cons_zero, List.getElem?_cons_succ] at m0 m1 m2 m3 m4 m5 m6
    clear hm
    have HPE := Lib.hid (pend_any HP5.out)
    by_cases he : sr = some []
    · rw [decide_eq_true he] at HPE
      obtain ⟨K, hK⟩ : ∃ z, pCheck p = z := ⟨_, rfl⟩
      have h2 := check_two p
      rw [hK] at HCK HND HYD h2
      clear hK
      go_wp2_with fail
      refine HPE.out.mono ?_
      rintro e W6 ⟨rfl, rfl⟩
      go_wp2_with fail
      refine HCK.out.mono ?_
      rintro e W6 ⟨rfl, c6⟩
      have HB6 := Lib.hid (below_step HB5.out c6)
      have HR6 := Lib.hid (HR5.out.below c6)
      have HPA6 := Lib.hid (HPA5.out.below c6)
      have HNA6 : Hid (NewA w W6 A) := fun b o e => by have := HNA5.out b o e; have := c6.size; omega
      have hm6 := HM5.out.below c6
      clear c6 m0 m1 m2 m3 m4 m5 m6 hml HCK HPE
      rcases h2 with rfl | rfl
      · have HD0 : Hid (D = (p, 0)) := HYD.out ⟨he, rfl⟩
        clear HYD HND he
        have m0 := hm6.cell 0
        have m1 := hm6.cell 1
        have m2 := hm6.cell 2
        have m3 := hm6.cell 3
        have m4 := hm6.cell 4
        have m5 := hm6.cell 5
        have m6 := hm6.cell 6
        have hml := hm6.lt
        have hr := HR6.out
        have a0 := hr.cell 0
        have f0 := hr.frozen 0
        have a1 := hr.cell 1
        have f1 := hr.frozen 1
        have a2 := hr.cell 2
        have f2 := hr.frozen 2
        have a3 := hr.cell 3
        have f3 := hr.frozen 3
        have a4 := hr.cell 4
        have f4 := hr.frozen 4
        have a5 := hr.cell 5
        have f5 := hr.frozen 5
        have a6 := hr.cell 6
        have f6 := hr.frozen 6
        have hrl := hr.lt
        simp only [pC, pZ, List.getElem?_toArray, List.getElem?_cons_zero, List.getElem?_cons_succ] at m0 m1 m2 m3 m4 m5 m6 a0 a1 a2 a3 a4 a5 a6
        clear hr hm6
        go_wp2_with fail
        show bodyPost _ _ _ _ _ (setPa W6 gR p.base p.target p.fr p.all (.slice A p.chs.length d))
        have hres : Blk W6 gR 27 (pC (0, 0) (0, 0) 0 0 nlS) := by rw [← pZ_is]; exact HR6.out
        have HF : PaL (setPa W6 gR p.base p.target p.fr p.all (.slice A p.chs.length d)) A d p := pal_set HPA6.out HNE.out
        rw [HD0.out]
        exact pa_end (r := (p, 0)) (b := gR) Tryd.results25 _ rfl (by simp) (by simp) (setPa_blk hres) HF (fun b o e => by have := HNA6.out b o e; rw [setPa_size]; exact this) (setPa_below HB6.out HGE.out)
      · have HD4 : Hid (D = (pa0, 4)) := HND.out (fun h => by cases h.2)
        clear HYD HND he hm6
        have hr := HR6.out
        have a0 := hr.cell 0
        have a1 := hr.cell 1
        have a2 := hr.cell 2
        have a3 := hr.cell 3
        have a4 := hr.cell 4
        have a5 := hr.cell 5
        have a6 := hr.cell 6
        have f0 := hr.frozen 0
        have f1 := hr.frozen 1
        have f2 := hr.frozen 2
        have f3 := hr.frozen 3
        have f4 := hr.frozen 4
        have f5 := hr.frozen 5
        have f6 := hr.frozen 6
        have hrl := hr.lt
        simp only [pZ, List.getElem?_toArray, List.getElem?_cons_zero, List.getElem?_cons_succ] at a0 a1 a2 a3 a4 a5 a6
        clear hr
        go_wp2_with fail
        show bodyPost _ _ _ _ _ (setPa W6 gR (0, 0) (0, 0) 0 0 nlS)
        rw [HD4.out]
        exact pa_none (b := gR) Tryd.results25 _ rfl (by simp) (by simp) (by rw [pZ_is]; exact setPa_blk (by rw [← pZ_is]; exact HR6.out)) (setPa_below HB6.out HGE.out)
    · rw [decide_eq_false he] at HPE
      have HD4 : Hid (D = (pa0, 4)) := HND.out (fun h => he h.1)
      clear HYD HND he
      go_wp2_with fail
      refine HPE.out.mono ?_
      rintro e W6 ⟨rfl, rfl⟩
      clear m0 m1 m2 m3 m4 m5 m6 hml
      have hr := HR5.out
      have a0 := hr.cell 0
      have a1 := hr.cell 1
      have a2 := hr.cell 2
      have a3 := hr.cell 3
      have a4 := hr.cell 4
      have a5 := hr.cell 5
      have a6 := hr.cell 6
      have f0 := hr.frozen 0
      have f1 := hr.frozen 1
      have f2 := hr.frozen 2
      have f3 := hr.frozen 3
      have f4 := hr.frozen 4
      have f5 := hr.frozen 5
      have f6 := hr.frozen 6
      have hrl := hr.lt
      simp only [pZ, List.getElem?_toArray, List.getElem?_cons_zero, List.getElem?_cons_succ] at a0 a1 a2 a3 a4 a5 a6
      clear hr
      go_wp2_with fail
      show bodyPost _ _ _ _ _ (setPa W5 gR (0, 0) (0, 0) 0 0 nlS)
      rw [HD4.out]
      exact pa_none (b := gR) Tryd.results25 _ rfl (by simp) (by simp) (by rw [pZ_is]; exact setPa_blk (by rw [← pZ_is]; exact HR5.out)) (setPa_below HB5.out HGE.out)
end Go.Proofs.YtdpbdkacngaemaaDoor.st


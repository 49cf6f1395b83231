/- StKnB, StKnW, SlotsN. -/
import Derived.Test.YtdpbdkacngaemaaDoorQ10
import Derived.Test.YtdpbdkacngaemaaDoorQ8
set_option linter.unusedVariables false
set_option linter.unusedSimpArgs false
/- StreamKnown's example part, in a box of its own; what is written into it. -/
namespace Go.Proofs.YtdpbdkacngaemaaDoor.st
open Go Go.RowKit Go.Sort Go.Proofs.YtdpbdkacngaemaaDoor.ib Go.Proofs.YtdpbdkacngaemaaDoor.wi Go.Proofs.YtdpbdkacngaemaaDoor.mt
open Go.Proofs.YtdpbdkacngaemaaDoor.ch (ChL OChs chVals infoCh)
set_option maxRecDepth 100000

section
variable {W : World} {B : Nat} {v : Value} {l : List Ch}
theorem och_open (h : OChs W B v l) (h0 : 0 < l.length) : ∃ j c, v = .slice (some ⟨j, 0, none⟩) l.length c ∧ B ≤ j ∧ (∃ cs, Blk W j 46 cs) ∧ ∀ (k : Nat) (u : Value), (chVals l)[k]? = some u → W.cell? ⟨j, k, none⟩ = some u ∧ W.frozen? ⟨j, k, none⟩ = false := by
  rcases h.2 with ⟨_, e⟩ | ⟨g, cap, cur, rfl, hg, hh, hcc, hm, hcs, hcur⟩
  · omega
  · refine ⟨g, cap, rfl, hg, ⟨_, hh⟩, fun k u hu => ⟨?_, by simp [World.frozen?, hh]⟩⟩
    rw [cell_of_row W g k cur 46 (0, 0) hh]
    rw [← hcur, List.getElem?_take] at hu
    split at hu
    · simpa using hu
    · cases hu
theorem och_set {j c n k : Nat} {u : Value} {l' : List Ch} (h : OChs W B (.slice (some ⟨j, 0, none⟩) n c) l) (hl : l'.length = l.length) (he : (chVals l).set k u = chVals l') : OChs (W.setCell ⟨j, k, none⟩ u) B (.slice (some ⟨j, 0, none⟩) n c) l' := by
  unfold OChs at h ⊢
  rw [hl]
  rcases h.2 with ⟨e, _⟩ | ⟨g, cap, cur, hv, hg, hh, hcc, hm, hcs, hcur⟩
  · cases e
  · simp only [Value.slice.injEq, Option.some.injEq, Addr.mk.injEq, and_true] at hv
    obtain ⟨rfl, hn, rfl⟩ := hv
    refine ⟨by rw [← he, List.length_set]; exact h.1, .inr ⟨j, c, cur.setIfInBounds k u, by rw [hn], hg, heap_setCell_same W j k cur 46 u hh, hcc, hm, by simpa using hcs, ?_⟩⟩
    rw [Array.toList_setIfInBounds, List.take_set, hcur, he]
theorem och_oth (h : OChs W B v l) {g k : Nat} {u : Value} {cs : Array Value} (hb : Blk W g 27 cs) : OChs (W.setCell ⟨g, k, none⟩ u) B v l :=
  row_of_block h (fun i hi => set_oth _ _ _ _ _ (own_type h hb (by decide) i hi))
end
def bbQ (p : Pa) : Bool := p.chs.all (fun x => decide (-9223372036854775808 ≤ x.1) && decide (x.1 ≤ 9223372036854775807)) && decide (p.base.1 < 18446744073709551616) && decide (p.base.2 < 18446744073709551616) && decide (p.target.1 < 18446744073709551616) && decide (p.target.2 < 18446744073709551616) && decide (-9223372036854775808 ≤ p.fr) && decide (p.fr ≤ 9223372036854775807) && decide (-9223372036854775808 ≤ p.all) && decide (p.all ≤ 9223372036854775807)
/-- A row that a call owns makes a part. -/
theorem pal_of {W : World} {B : Nat} {A : Option Addr} {n c : Nat} {p : Pa} (h : OChs W B (.slice A n c) p.chs) (hq : bbQ p = true) : n = p.chs.length ∧ PaL W A c p ∧ ∀ b o, A = some ⟨b, o, none⟩ → B ≤ b := by
  unfold bbQ at hq
  simp only [Bool.and_eq_true, List.all_eq_true, decide_eq_true_eq] at hq
  obtain ⟨⟨⟨⟨⟨⟨⟨⟨h1, h2⟩, h3⟩, h4⟩, h5⟩, h6⟩, h7⟩, h8⟩, h9⟩ := hq
  obtain ⟨a, c', e, hc, hb⟩ := ochs_chl h (fun x hx => h1 x hx)
  simp only [Value.slice.injEq] at e
  obtain ⟨rfl, rfl, rfl⟩ := e
  exact ⟨rfl, ⟨hc, ⟨h2, h3⟩, ⟨h4, h5⟩, ⟨h6, h7⟩, h8, h9⟩, fun b o e => (hb b o e).1⟩
/-- The example's part in the box g. -/
def OB (W : World) (B g : Nat) : Prop := ∃ A c, Blk W g 27 (paC gdP A c) ∧ OChs W B (.slice A 2 c) (c3.drop 1) ∧ B ≤ g ∧ B ≤ W.heap.size
def endDo (B g : Nat) (p : Pa) (W : World) (e : Ending) (W' : World) : Prop := e = .returned (.tuple #[]) ∧ (∃ A c, Blk W' g 27 (paC p A c) ∧ PaL W' A c p ∧ ∀ b o, A = some ⟨b, o, none⟩ → B ≤ b) ∧ But (fun j => B ≤ j) W W'
def Do (f : FuncId) (p : Pa) : Prop := ∀ W B g, OB W B g → Calls Tryd.prog f #[.pointer (some ⟨g, 0, none⟩)] W (endDo B g p W)
theorem but_set {W : World} {B g k : Nat} {u : Value} (h : B ≤ g) : But (fun j => B ≤ j) W (W.setCell ⟨g, k, none⟩ u) := (But.refl _ W).setCell ⟨g, k, none⟩ u (.inl h)
theorem but_below {W W' : World} {B : Nat} (h : Below W.heap.size W W') : But (fun j => B ≤ j) W W' := ⟨h.os, h.tape, h.output, h.size, fun k hk _ => h.block k hk⟩
theorem but_then {a w w' : World} {B : Nat} (h : But (fun j => B ≤ j) a w) (h2 : But (fun j => B ≤ j) w w') : But (fun j => B ≤ j) a w' := h.trans h2 (fun i hi => .inl hi)
theorem blk_is {W : World} {g : Nat} {cs cs' : Array Value} {t : TypeId} (h : Blk W g t cs) (e : cs = cs') : Blk W g t cs' := by rw [← e]; exact h
set_option maxHeartbeats 1600000 in
theorem do1 : Do 11 p1 := by
  rintro W B g ⟨A, c, hbox, ho, hg, hBW⟩
  have b0 := hbox.cell 0
  have f0 := hbox.frozen 0
  have b1 := hbox.cell 1
  have f1 := hbox.frozen 1
  have b2 := hbox.cell 2
  have f2 := hbox.frozen 2
  have b3 := hbox.cell 3
  have f3 := hbox.frozen 3
  have b4 := hbox.cell 4
  have f4 := hbox.frozen 4
  have b5 := hbox.cell 5
  have f5 := hbox.frozen 5
  have b6 := hbox.cell 6
  have f6 := hbox.frozen 6
  simp only [paC, gdP, List.getElem?_toArray, List.getElem?_cons_zero, List.getElem?_cons_succ] at b0 b1 b2 b3 b4 b5 b6
  rw [show (List.drop 1 c3).length = 2 from rfl] at b6
  have hlb := hbox.lt
  go_enter Tryd.func11, Tryd.ntmps11
  go_wp2_with fail
  go_end0
  have hb0 := hbox
  have hb0 := hb0.set_ 6 (.slice none 0 0)
  have hb' : Blk (W.setCell ⟨g, 6, none⟩ (.slice none 0 0)) g 27 (paC p1 none 0) := blk_is hb0 (by simp [paC, gdP, p1])
  have ho' : OChs (W.setCell ⟨g, 6, none⟩ (.slice none 0 0)) B (.slice none 0 0) [] := World.ownsRow_nil _ _ _ _
  obtain ⟨_, hp, hn⟩ := pal_of (p := p1) (n := 0) ho' (by decide)
  exact ⟨rfl, ⟨_, _, hb', hp, hn⟩, but_set hg⟩
set_option maxHeartbeats 1600000 in
theorem do2 : Do 12 p2 := by
  rintro W B g ⟨A, c, hbox, ho, hg, hBW⟩
  have b0 := hbox.cell 0
  have f0 := hbox.frozen 0
  have b1 := hbox.cell 1
  have f1 := hbox.frozen 1
  have b2 := hbox.cell 2
  have f2 := hbox.frozen 2
  have b3 := hbox.cell 3
  have f3 := hbox.frozen 3
  have b4 := hbox.cell 4
  have f4 := hbox.frozen 4
  have b5 := hbox.cell 5
  have f5 := hbox.frozen 5
  have b6 := hbox.cell 6
  have f6 := hbox.frozen 6
  simp only [paC, gdP, List.getElem?_toArray, List.getElem?_cons_zero, List.getElem?_cons_succ] at b0 b1 b2 b3 b4 b5 b6
  rw [show (List.drop 1 c3).length = 2 from rfl] at b6
  have hlb := hbox.lt
  go_enter Tryd.func12, Tryd.ntmps12
  go_wp2_with fail
  go_end0
  have hb0 := hbox
  have hb0 := hb0.set_ 4 (.int .i64 2)
  have hb' : Blk (W.setCell ⟨g, 4, none⟩ (.int .i64 2)) g 27 (paC p2 A c) := blk_is hb0 (by simp [paC, gdP, p2])
  have ho' := ho
  have hk0 := hbox
  have ho' := och_oth (k := 4) (u := .int .i64 2) ho' hk0
  have hk0 := hk0.set_ 4 (.int .i64 2)
  obtain ⟨_, hp, hn⟩ := pal_of (p := p2) (n := 2) ho' (by decide)
  exact ⟨rfl, ⟨_, _, hb', hp, hn⟩, but_set hg⟩
set_option maxHeartbeats 1600000 in
theorem do3 : Do 13 p3 := by
  rintro W B g ⟨A, c, hbox, ho, hg, hBW⟩
  have b0 := hbox.cell 0
  have f0 := hbox.frozen 0
  have b1 := hbox.cell 1
  have f1 := hbox.frozen 1
  have b2 := hbox.cell 2
  have f2 := hbox.frozen 2
  have b3 := hbox.cell 3
  have f3 := hbox.frozen 3
  have b4 := hbox.cell 4
  have f4 := hbox.frozen 4
  have b5 := hbox.cell 5
  have f5 := hbox.frozen 5
  have b6 := hbox.cell 6
  have f6 := hbox.frozen 6
  simp only [paC, gdP, List.getElem?_toArray, List.getElem?_cons_zero, List.getElem?_cons_succ] at b0 b1 b2 b3 b4 b5 b6
  rw [show (List.drop 1 c3).length = 2 from rfl] at b6
  have hlb := hbox.lt
  go_enter Tryd.func13, Tryd.ntmps13
  go_wp2_with fail
  go_end0
  have hb0 := hbox
  have hb0 := hb0.set_ 5 (.int .i64 9)
  have hb' : Blk (W.setCell ⟨g, 5, none⟩ (.int .i64 9)) g 27 (paC p3 A c) := blk_is hb0 (by simp [paC, gdP, p3])
  have ho' := ho
  have hk0 := hbox
  have ho' := och_oth (k := 5) (u := .int .i64 9) ho' hk0
  have hk0 := hk0.set_ 5 (.int .i64 9)
  obtain ⟨_, hp, hn⟩ := pal_of (p := p3) (n := 2) ho' (by decide)
  exact ⟨rfl, ⟨_, _, hb', hp, hn⟩, but_set hg⟩
set_option maxHeartbeats 1600000 in
theorem do4 : Do 14 p4 := by
  rintro W B g ⟨A, c, hbox, ho, hg, hBW⟩
  have b0 := hbox.cell 0
  have f0 := hbox.frozen 0
  have b1 := hbox.cell 1
  have f1 := hbox.frozen 1
  have b2 := hbox.cell 2
  have f2 := hbox.frozen 2
  have b3 := hbox.cell 3
  have f3 := hbox.frozen 3
  have b4 := hbox.cell 4
  have f4 := hbox.frozen 4
  have b5 := hbox.cell 5
  have f5 := hbox.frozen 5
  have b6 := hbox.cell 6
  have f6 := hbox.frozen 6
  simp only [paC, gdP, List.getElem?_toArray, List.getElem?_cons_zero, List.getElem?_cons_succ] at b0 b1 b2 b3 b4 b5 b6
  rw [show (List.drop 1 c3).length = 2 from rfl] at b6
  have hlb := hbox.lt
  go_enter Tryd.func14, Tryd.ntmps14
  go_wp2_with fail
  go_end0
  have hb0 := hbox
  have hb0 := hb0.set_ 5 (.int .i64 2)
  have hb' : Blk (W.setCell ⟨g, 5, none⟩ (.int .i64 2)) g 27 (paC p4 A c) := blk_is hb0 (by simp [paC, gdP, p4])
  have ho' := ho
  have hk0 := hbox
  have ho' := och_oth (k := 5) (u := .int .i64 2) ho' hk0
  have hk0 := hk0.set_ 5 (.int .i64 2)
  obtain ⟨_, hp, hn⟩ := pal_of (p := p4) (n := 2) ho' (by decide)
  exact ⟨rfl, ⟨_, _, hb', hp, hn⟩, but_set hg⟩
set_option maxHeartbeats 1600000 in
theorem do5 : Do 15 p5 := by
  rintro W B g ⟨A, c, hbox, ho, hg, hBW⟩
  have b0 := hbox.cell 0
  have f0 := hbox.frozen 0
  have b1 := hbox.cell 1
  have f1 := hbox.frozen 1
  have b2 := hbox.cell 2
  have f2 := hbox.frozen 2
  have b3 := hbox.cell 3
  have f3 := hbox.frozen 3
  have b4 := hbox.cell 4
  have f4 := hbox.frozen 4
  have b5 := hbox.cell 5
  have f5 := hbox.frozen 5
  have b6 := hbox.cell 6
  have f6 := hbox.frozen 6
  simp only [paC, gdP, List.getElem?_toArray, List.getElem?_cons_zero, List.getElem?_cons_succ] at b0 b1 b2 b3 b4 b5 b6
  rw [show (List.drop 1 c3).length = 2 from rfl] at b6
  have hlb := hbox.lt
  go_enter Tryd.func15, Tryd.ntmps15
  go_wp2_with fail
  go_end0
  have hb0 := hbox
  have hb0 := hb0.set_ 4 (.int .i64 (-1))
  have hb' : Blk (W.setCell ⟨g, 4, none⟩ (.int .i64 (-1))) g 27 (paC p5 A c) := blk_is hb0 (by simp [paC, gdP, p5])
  have ho' := ho
  have hk0 := hbox
  have ho' := och_oth (k := 4) (u := .int .i64 (-1)) ho' hk0
  have hk0 := hk0.set_ 4 (.int .i64 (-1))
  obtain ⟨_, hp, hn⟩ := pal_of (p := p5) (n := 2) ho' (by decide)
  exact ⟨rfl, ⟨_, _, hb', hp, hn⟩, but_set hg⟩
set_option maxHeartbeats 1600000 in
theorem do11 : Do 21 p11 := by
  rintro W B g ⟨A, c, hbox, ho, hg, hBW⟩
  have b0 := hbox.cell 0
  have f0 := hbox.frozen 0
  have b1 := hbox.cell 1
  have f1 := hbox.frozen 1
  have b2 := hbox.cell 2
  have f2 := hbox.frozen 2
  have b3 := hbox.cell 3
  have f3 := hbox.frozen 3
  have b4 := hbox.cell 4
  have f4 := hbox.frozen 4
  have b5 := hbox.cell 5
  have f5 := hbox.frozen 5
  have b6 := hbox.cell 6
  have f6 := hbox.frozen 6
  simp only [paC, gdP, List.getElem?_toArray, List.getElem?_cons_zero, List.getElem?_cons_succ] at b0 b1 b2 b3 b4 b5 b6
  rw [show (List.drop 1 c3).length = 2 from rfl] at b6
  have hlb := hbox.lt
  go_enter Tryd.func21, Tryd.ntmps21
  go_wp2_with fail
  go_end0
  have hb0 := hbox
  have hb0 := hb0.set_ 6 (.slice none 0 0)
  have hb0 := hb0.set_ 4 (.int .i64 3)
  have hb' : Blk ((W.setCell ⟨g, 6, none⟩ (.slice none 0 0)).setCell ⟨g, 4, none⟩ (.int .i64 3)) g 27 (paC p11 none 0) := blk_is hb0 (by simp [paC, gdP, p11])
  have ho' : OChs ((W.setCell ⟨g, 6, none⟩ (.slice none 0 0)).setCell ⟨g, 4, none⟩ (.int .i64 3)) B (.slice none 0 0) [] := World.ownsRow_nil _ _ _ _
  obtain ⟨_, hp, hn⟩ := pal_of (p := p11) (n := 0) ho' (by decide)
  exact ⟨rfl, ⟨_, _, hb', hp, hn⟩, but_then (but_set hg) (but_set hg)⟩
set_option maxHeartbeats 1600000 in
theorem do7 : Do 17 p7 := by
  rintro W B g ⟨A, c, hbox, ho, hg, hBW⟩
  have b0 := hbox.cell 0
  have f0 := hbox.frozen 0
  have b1 := hbox.cell 1
  have f1 := hbox.frozen 1
  have b2 := hbox.cell 2
  have f2 := hbox.frozen 2
  have b3 := hbox.cell 3
  have f3 := hbox.frozen 3
  have b4 := hbox.cell 4
  have f4 := hbox.frozen 4
  have b5 := hbox.cell 5
  have f5 := hbox.frozen 5
  have b6 := hbox.cell 6
  have f6 := hbox.frozen 6
  simp only [paC, gdP, List.getElem?_toArray, List.getElem?_cons_zero, List.getElem?_cons_succ] at b0 b1 b2 b3 b4 b5 b6
  rw [show (List.drop 1 c3).length = 2 from rfl] at b6
  have hlb := hbox.lt
  have HX := Lib.hid hbox
  have HO := Lib.hid ho
  have HG := Lib.hid hg
  clear hbox ho b0 b1 b2 b3 b4 b5 b6 f0 f1 f2 f3 f4 f5 f6 hlb
  go_enter Tryd.func17, Tryd.ntmps17
  go_wp2_with fail
  refine (sguid_any 1 1 W).mono ?_
  rintro e W1 ⟨rfl, c1⟩
  unfold gv
  dsimp only
  have hbox := HX.out.below c1
  have ho1 : OChs W1 B (.slice A 2 c) (c3.drop 1) := row_of_block HO.out (fun j hj => c1.block j (HO.out.lt j hj).2)
  have HC1 := Lib.hid c1
  have b0 := hbox.cell 0
  have f0 := hbox.frozen 0
  have b1 := hbox.cell 1
  have f1 := hbox.frozen 1
  have b2 := hbox.cell 2
  have f2 := hbox.frozen 2
  have b3 := hbox.cell 3
  have f3 := hbox.frozen 3
  have b4 := hbox.cell 4
  have f4 := hbox.frozen 4
  have b5 := hbox.cell 5
  have f5 := hbox.frozen 5
  have b6 := hbox.cell 6
  have f6 := hbox.frozen 6
  simp only [paC, gdP, List.getElem?_toArray, List.getElem?_cons_zero, List.getElem?_cons_succ] at b0 b1 b2 b3 b4 b5 b6
  rw [show (List.drop 1 c3).length = 2 from rfl] at b6
  have hlb := hbox.lt
  clear c1
  go_wp2_with fail
  go_end0
  have hb' : Blk ((W1.setCell ⟨g, 2, none⟩ (.int .u64 1)).setCell ⟨g, 3, none⟩ (.int .u64 1)) g 27 (paC p7 A c) := blk_is ((hbox.set_ 2 (.int .u64 1)).set_ 3 (.int .u64 1)) (by simp [paC, gdP, p7])
  have ho' := och_oth (k := 3) (u := .int .u64 1) (och_oth (k := 2) (u := .int .u64 1) ho1 hbox) (hbox.set_ 2 (.int .u64 1))
  obtain ⟨_, hp, hn⟩ := pal_of (p := p7) (n := 2) ho' (by decide)
  exact ⟨rfl, ⟨_, _, hb', hp, hn⟩, but_then (but_then (but_below HC1.out) (but_set HG.out)) (but_set HG.out)⟩
set_option maxHeartbeats 1600000 in
theorem do6 : Do 16 p6 := by
  rintro W B g ⟨A, c, hbox, ho, hg, hBW⟩
  have HX := Lib.hid hbox
  have HG := Lib.hid hg
  clear hbox ho
  go_enter Tryd.func16, Tryd.ntmps16
  go_wp2_with fail
  refine (three_any W).mono ?_
  rintro e W1 ⟨v, rfl, ho1, c1⟩
  obtain ⟨A', c', hv⟩ := own_form ho1
  rw [show c3.length = 3 from rfl] at hv
  subst hv
  have hbox := HX.out.below c1
  have HC1 := Lib.hid c1
  have HO1 := Lib.hid ho1
  have b0 := hbox.cell 0
  have f0 := hbox.frozen 0
  have b1 := hbox.cell 1
  have f1 := hbox.frozen 1
  have b2 := hbox.cell 2
  have f2 := hbox.frozen 2
  have b3 := hbox.cell 3
  have f3 := hbox.frozen 3
  have b4 := hbox.cell 4
  have f4 := hbox.frozen 4
  have b5 := hbox.cell 5
  have f5 := hbox.frozen 5
  have b6 := hbox.cell 6
  have f6 := hbox.frozen 6
  simp only [paC, gdP, List.getElem?_toArray, List.getElem?_cons_zero, List.getElem?_cons_succ] at b0 b1 b2 b3 b4 b5 b6
  rw [show (List.drop 1 c3).length = 2 from rfl] at b6
  have hlb := hbox.lt
  clear c1 ho1
  go_wp2_with fail
  go_end0
  have hb' : Blk (W1.setCell ⟨g, 6, none⟩ (.slice A' 3 c')) g 27 (paC p6 A' c') := blk_is (hbox.set_ 6 (.slice A' 3 c')) (by simp [paC, gdP, p6]; rfl)
  have ho' : OChs (W1.setCell ⟨g, 6, none⟩ (.slice A' 3 c')) B (.slice A' 3 c') p6.chs := och_oth (row_base HO1.out hBW) hbox
  obtain ⟨_, hp, hn⟩ := pal_of (p := p6) (n := 3) ho' (by decide)
  exact ⟨rfl, ⟨_, _, hb', hp, hn⟩, but_then (but_below HC1.out) (but_set HG.out)⟩
set_option maxHeartbeats 1600000 in
theorem do8 : Do 18 p8 := by
  rintro W B g ⟨A, c, hbox, ho, hg, hBW⟩
  have b0 := hbox.cell 0
  have f0 := hbox.frozen 0
  have b1 := hbox.cell 1
  have f1 := hbox.frozen 1
  have b2 := hbox.cell 2
  have f2 := hbox.frozen 2
  have b3 := hbox.cell 3
  have f3 := hbox.frozen 3
  have b4 := hbox.cell 4
  have f4 := hbox.frozen 4
  have b5 := hbox.cell 5
  have f5 := hbox.frozen 5
  have b6 := hbox.cell 6
  have f6 := hbox.frozen 6
  simp only [paC, gdP, List.getElem?_toArray, List.getElem?_cons_zero, List.getElem?_cons_succ] at b0 b1 b2 b3 b4 b5 b6
  rw [show (List.drop 1 c3).length = 2 from rfl] at b6
  have hlb := hbox.lt
  obtain ⟨j, c', hv, hj, ⟨cs, hcs⟩, hcell⟩ := och_open ho (by decide)
  rw [show (List.drop 1 c3).length = 2 from rfl] at hv
  simp only [Value.slice.injEq, true_and] at hv
  obtain ⟨rfl, rfl⟩ := hv
  have r0 := (hcell 0 _ rfl).1
  have q0 := (hcell 0 _ rfl).2
  have hlj := hcs.lt
  go_enter Tryd.func18, Tryd.ntmps18
  go_wp2_with fail
  go_end0
  have hb' : Blk (W.setCell ⟨j, 0, none⟩ (.int .i64 7)) g 27 (paC p8 (some ⟨j, 0, none⟩) c) := hbox.of_block (set_oth _ _ _ _ _ (blk_type hbox hcs (by decide)))
  have ho' : OChs (W.setCell ⟨j, 0, none⟩ (.int .i64 7)) B (.slice (some ⟨j, 0, none⟩) 2 c) p8.chs := och_set ho rfl rfl
  obtain ⟨_, hp, hn⟩ := pal_of (p := p8) (n := 2) ho' (by decide)
  exact ⟨rfl, ⟨_, _, hb', hp, hn⟩, but_set hj⟩
set_option maxHeartbeats 1600000 in
theorem do9 : Do 19 p9 := by
  rintro W B g ⟨A, c, hbox, ho, hg, hBW⟩
  have b0 := hbox.cell 0
  have f0 := hbox.frozen 0
  have b1 := hbox.cell 1
  have f1 := hbox.frozen 1
  have b2 := hbox.cell 2
  have f2 := hbox.frozen 2
  have b3 := hbox.cell 3
  have f3 := hbox.frozen 3
  have b4 := hbox.cell 4
  have f4 := hbox.frozen 4
  have b5 := hbox.cell 5
  have f5 := hbox.frozen 5
  have b6 := hbox.cell 6
  have f6 := hbox.frozen 6
  simp only [paC, gdP, List.getElem?_toArray, List.getElem?_cons_zero, List.getElem?_cons_succ] at b0 b1 b2 b3 b4 b5 b6
  rw [show (List.drop 1 c3).length = 2 from rfl] at b6
  have hlb := hbox.lt
  obtain ⟨j, c', hv, hj, ⟨cs, hcs⟩, hcell⟩ := och_open ho (by decide)
  rw [show (List.drop 1 c3).length = 2 from rfl] at hv
  simp only [Value.slice.injEq, true_and] at hv
  obtain ⟨rfl, rfl⟩ := hv
  have r0 := (hcell 3 _ rfl).1
  have q0 := (hcell 3 _ rfl).2
  have hlj := hcs.lt
  go_enter Tryd.func19, Tryd.ntmps19
  go_wp2_with fail
  go_end0
  have hb' : Blk (W.setCell ⟨j, 3, none⟩ (.string ⟨#[120]⟩)) g 27 (paC p9 (some ⟨j, 0, none⟩) c) := hbox.of_block (set_oth _ _ _ _ _ (blk_type hbox hcs (by decide)))
  have ho' : OChs (W.setCell ⟨j, 3, none⟩ (.string ⟨#[120]⟩)) B (.slice (some ⟨j, 0, none⟩) 2 c) p9.chs := och_set ho rfl rfl
  obtain ⟨_, hp, hn⟩ := pal_of (p := p9) (n := 2) ho' (by decide)
  exact ⟨rfl, ⟨_, _, hb', hp, hn⟩, but_set hj⟩
set_option maxHeartbeats 1600000 in
theorem do10 : Do 20 p10 := by
  rintro W B g ⟨A, c, hbox, ho, hg, hBW⟩
  have b0 := hbox.cell 0
  have f0 := hbox.frozen 0
  have b1 := hbox.cell 1
  have f1 := hbox.frozen 1
  have b2 := hbox.cell 2
  have f2 := hbox.frozen 2
  have b3 := hbox.cell 3
  have f3 := hbox.frozen 3
  have b4 := hbox.cell 4
  have f4 := hbox.frozen 4
  have b5 := hbox.cell 5
  have f5 := hbox.frozen 5
  have b6 := hbox.cell 6
  have f6 := hbox.frozen 6
  simp only [paC, gdP, List.getElem?_toArray, List.getElem?_cons_zero, List.getElem?_cons_succ] at b0 b1 b2 b3 b4 b5 b6
  rw [show (List.drop 1 c3).length = 2 from rfl] at b6
  have hlb := hbox.lt
  have HX := Lib.hid hbox
  have HG := Lib.hid hg
  have hb1 := hbox.set_ 5 (.int .i64 0)
  have g4 := hb1.cell 4
  have e4 := hb1.frozen 4
  simp [paC, gdP] at g4
  have HB2 := Lib.hid (hb1.set_ 4 (.int .i64 0))
  clear hbox ho hb1
  go_enter Tryd.func20, Tryd.ntmps20
  go_wp2_with fail
  refine (three_any _).mono ?_
  rintro e W1 ⟨v, rfl, ho1, c1⟩
  obtain ⟨A', c', hv, hcl, hc3, hsh, hnw⟩ := ochs_cut ho1 c3_b
  rw [show c3.length = 3 from rfl] at hv hc3
  subst hv
  obtain ⟨b, off, rfl⟩ : ∃ b o, A' = some ⟨b, o, none⟩ := by
    rcases hsh with ⟨_, e⟩ | h
    · omega
    · exact h
  have hbox := HB2.out.below c1
  have HC1 := Lib.hid c1
  have HCL := Lib.hid hcl
  have HNW := Lib.hid hnw
  have x6 := hbox.cell 6
  have y6 := hbox.frozen 6
  simp [paC, gdP] at x6
  have hlx := hbox.lt
  have hc1 : (1 : Int) ≤ (c' : Int) := by omega
  clear c1 ho1 hcl hsh hnw b0 b1 b2 b3 b4 b5 b6 f0 f1 f2 f3 f4 f5 f6 hlb g4 e4
  go_wp2_with fail
  go_end0
  have hb' : Blk (W1.setCell ⟨g, 6, none⟩ (.slice (some ⟨b, off, none⟩) 1 c')) g 27 (paC p10 (some ⟨b, off, none⟩) c') := blk_is (hbox.set_ 6 (.slice (some ⟨b, off, none⟩) 1 c')) (by simp [paC, gdP, p10]; rfl)
  have hsz := HX.out.lt
  have hbg := (HNW.out b off rfl).1
  simp only [World.size_setCell] at hbg
  have hne : b ≠ g := by omega
  have hblk := set_oth W1 g 6 (.slice (some ⟨b, off, none⟩) 1 c') b hne
  refine ⟨rfl, ⟨_, _, hb', ⟨fun i hi => ?_, ⟨by decide, by decide⟩, ⟨by decide, by decide⟩, ⟨by decide, by decide⟩, by decide, by decide⟩, fun b' o' e => ?_⟩, but_then (but_then (but_then (but_set HG.out) (but_set HG.out)) (but_below HC1.out)) (but_set HG.out)⟩
  · have hi0 : i < 1 := hi
    obtain rfl : i = 0 := by omega
    obtain ⟨b', o', e, h2, h3, h4, h5⟩ := HCL.out 0 (by decide)
    simp only [Option.some.injEq, Addr.mk.injEq, and_true] at e
    obtain ⟨rfl, rfl⟩ := e
    exact ⟨b, off, rfl, by rw [World.size_setCell]; exact h2, by rw [World.cell?_of_block (a := ⟨b, off + 0 * 2, none⟩) hblk]; exact h3, by rw [World.cell?_of_block (a := ⟨b, off + 0 * 2 + 1, none⟩) hblk]; exact h4, h5⟩
  · simp only [Option.some.injEq, Addr.mk.injEq, and_true] at e
    omega
end Go.Proofs.YtdpbdkacngaemaaDoor.st

/- StreamKnown's closure with: a copy of the example's part, as a closure made it. -/
namespace Go.Proofs.YtdpbdkacngaemaaDoor.st
open Go Go.RowKit Go.Sort Go.Proofs.YtdpbdkacngaemaaDoor.ib Go.Proofs.YtdpbdkacngaemaaDoor.wi Go.Proofs.YtdpbdkacngaemaaDoor.mt
open Go.Proofs.YtdpbdkacngaemaaDoor.ch (ChL OChs chVals infoCh)
set_option maxRecDepth 100000

theorem load_res3 {W : World} {b : Nat} {g t : Gd} {fr all : Int} {v : Value} {fn : Func} (hf : fn.results = #[.cell 3 27]) (h : Blk W b 27 (pC g t fr all v)) (tm : Array Value) (hp : tm.getD 3 undef = .pointer (some ⟨b, 0, none⟩)) :
    (results fn tm).run Tryd.prog W = .ok (.agg (pC g t fr all v)) W := by
  have hl := load_pa h
  generalize pC g t fr all v = X at *
  exact results_cell1 hf tm _ _ ⟨b, 0, none⟩ _ hp hl
set_option maxHeartbeats 6400000 in
theorem with_any {f : FuncId} {p : Pa} (hD : Do f p) (hcf : ∀ (a : Array Value) (W : World), Sem.run Tryd.prog (callFunc f a) W = Result.ok (Next.enter f a) W) (g : Nat) (A0 : Option Addr) (c0 : Nat) (w : World) (hg : Blk w g 27 (paC gdP A0 c0)) (hm : PaL w A0 c0 gdP) :
    Calls Tryd.prog 9 #[.func (.func f) #[] #[], .pointer (some ⟨g, 0, none⟩)] w fun e w' => ∃ A c, e = .returned (.agg (paC p A c)) ∧ PaL w' A c p ∧ Below w.heap.size w w' := by
  have hb1 := (Below.refl w.heap.size w).alloc (Nat.le_refl _) (.cells pZ 27)
  have hr1 := Blk.new w 27 pZ
  obtain ⟨W1, hW1⟩ : ∃ z, w.alloc (.cells pZ 27) = z := ⟨_, rfl⟩
  rw [hW1] at hb1 hr1
  obtain ⟨gr, hgr⟩ : ∃ z, w.heap.size = z := ⟨_, rfl⟩
  rw [hgr] at hr1
  have hg1 := hg.below hb1
  have HS := Lib.hid (short_any A0 c0 gdP W1 (hm.below hb1) (by decide) (by decide))
  rw [gd_short] at HS
  have HB1 := Lib.hid hb1
  have HR1 := Lib.hid hr1
  have HD := Lib.hid hD
  have HGE : Hid (w.heap.size ≤ gr) := Nat.le_of_eq hgr
  have HW1 := Lib.hid hW1
  have HGR := Lib.hid hgr
  have a0 := hg1.cell 0
  have a1 := hg1.cell 1
  have a2 := hg1.cell 2
  have a3 := hg1.cell 3
  have a4 := hg1.cell 4
  have a5 := hg1.cell 5
  have a6 := hg1.cell 6
  have al := hg1.lt
  simp only [paC, gdP, List.getElem?_toArray, List.getElem?_cons_zero, List.getElem?_cons_succ] at a0 a1 a2 a3 a4 a5 a6
  rw [show (List.drop 1 c3).length = 2 from rfl] at a6
  rw [show paC gdP A0 c0 = #[.int .u64 1, .int .u64 1, .int .u64 2, .int .u64 1, .int .i64 1, .int .i64 3, .slice A0 2 c0] from rfl] at HS
  unfold pZ at HW1
  clear hg hm hb1 hr1 hg1 hD hW1 hgr
  go_enter Tryd.func9, Tryd.ntmps9
  go_upto_region 1 with fail
  try rw [HW1.out]
  try rw [HGR.out]
  clear HW1 HGR
  go_wp2_with fail
  refine HS.out.mono ?_
  rintro e W2 ⟨A, c, rfl, hq, ho, c2⟩
  clear a0 a1 a2 a3 a4 a5 a6 al
  rw [show paC gdP A c = #[.int .u64 1, .int .u64 1, .int .u64 2, .int .u64 1, .int .i64 1, .int .i64 3, .slice A 2 c] from rfl]
  have cb := (Below.refl W2.heap.size W2).alloc (Nat.le_refl _) (.cells #[.int .u64 1, .int .u64 1, .int .u64 2, .int .u64 1, .int .i64 1, .int .i64 3, .slice A 2 c] 27)
  have kb := Blk.new W2 27 #[.int .u64 1, .int .u64 1, .int .u64 2, .int .u64 1, .int .i64 1, .int .i64 3, .slice A 2 c]
  obtain ⟨W3, hW3⟩ : ∃ z, W2.alloc (.cells #[.int .u64 1, .int .u64 1, .int .u64 2, .int .u64 1, .int .i64 1, .int .i64 3, .slice A 2 c] 27) = z := ⟨_, rfl⟩
  rw [hW3] at cb kb
  obtain ⟨gm, hgm⟩ : ∃ z, W2.heap.size = z := ⟨_, rfl⟩
  rw [hgm] at kb
  have HOB : Hid (OB W3 W1.heap.size gm) := ⟨A, c, kb, row_of_block (show OChs W2 W1.heap.size (.slice A 2 c) (c3.drop 1) from ho) (fun j hj => cb.block j (ho.lt j hj).2), by rw [← hgm]; exact c2.size, Nat.le_trans c2.size cb.size⟩
  have HB3 := Lib.hid (below_step (below_step HB1.out c2) cb)
  have HR3 := Lib.hid ((HR1.out.below c2).below cb)
  have HLT : Hid (gr < W1.heap.size) := HR1.out.lt
  have HL1 : Hid (w.heap.size ≤ W1.heap.size) := HB1.out.size
  have HNE : Hid (gm ≠ gr) := by have := (HR1.out.below c2).lt; unfold Hid; omega
  have HW3 := Lib.hid hW3
  have HGM := Lib.hid hgm
  clear cb kb hW3 hgm c2 hq ho HS
  dsimp only
  go_upto_region 2 with fail
  try rw [HW3.out]
  try rw [HGM.out]
  clear HW3 HGM
  go_wp2_with fail
  refine (HD.out W3 _ gm HOB.out).mono ?_
  rintro e W4 ⟨rfl, ⟨A', c', hbx, hpa, hnw⟩, hbu⟩
  have hr4 := HR3.out.of_block (hbu.block _ HR3.out.lt (fun e => by have := HLT.out; omega))
  have hb4 : Below w.heap.size w W4 := HB3.out.trans (hbu.below (fun i hi => by have := HL1.out; omega) HB3.out.size)
  have HR4 := Lib.hid hr4
  have HB4 := Lib.hid hb4
  have HX4 := Lib.hid hbx
  have HP4 := Lib.hid hpa
  have HN4 : Hid (∀ b o, A' = some ⟨b, o, none⟩ → b ≠ gr) := fun b o e => by have := hnw b o e; have := HLT.out; omega
  have r0 := hr4.cell 0
  have r1 := hr4.cell 1
  have r2 := hr4.cell 2
  have r3 := hr4.cell 3
  have r4 := hr4.cell 4
  have r5 := hr4.cell 5
  have r6 := hr4.cell 6
  have q0 := hr4.frozen 0
  have q1 := hr4.frozen 1
  have q2 := hr4.frozen 2
  have q3 := hr4.frozen 3
  have q4 := hr4.frozen 4
  have q5 := hr4.frozen 5
  have q6 := hr4.frozen 6
  have b0 := hbx.cell 0
  have b1 := hbx.cell 1
  have b2 := hbx.cell 2
  have b3 := hbx.cell 3
  have b4 := hbx.cell 4
  have b5 := hbx.cell 5
  have b6 := hbx.cell 6
  simp only [paC, pZ, List.getElem?_toArray, List.getElem?_cons_zero, List.getElem?_cons_succ] at r0 r1 r2 r3 r4 r5 r6 b0 b1 b2 b3 b4 b5 b6
  have hlr := hr4.lt
  have hlb := hbx.lt
  clear hr4 hb4 hbx hpa hnw hbu HOB HD HR3 HB3
  dsimp only
  go_wp2_with fail
  show bodyPost _ _ _ _ _ (setPa W4 gr p.base p.target p.fr p.all (.slice A' p.chs.length c'))
  have hres : Blk W4 gr 27 (pC (0, 0) (0, 0) 0 0 nlS) := by rw [← pZ_is]; exact HR4.out
  refine bodyPost_ret (v := .agg (paC p A' c')) (load_res3 Tryd.results9 (setPa_blk hres) _ (by simp)) rfl ?_
  exact ⟨A', c', rfl, pal_set HP4.out HN4.out, setPa_below HB4.out HGE.out⟩
end Go.Proofs.YtdpbdkacngaemaaDoor.st

/- As SlotsI, where an operation may yield into no slot (a store). Nothing here speaks of the program. -/
namespace Go.Proofs.YtdpbdkacngaemaaDoor
open Go Go.RowKit
set_option maxRecDepth 100000

/-- As stepTo, a store too. -/
def stepToS (P : Program) (K : Value → World → Prop) : Result Next → Prop
  | .ok (.value v) w' => K v w'
  | .ok .skip w' => K undef w'
  | .ok (.enter f args) w' => Calls P f args w' fun e w'' => ∃ v, e = .returned v ∧ K v w''
  | _ => False

theorem wp_of_stepToS {P : Program} {o : Oper} {a : Act} {w : World} {Q : Exit → Act → World → Prop} {K : Value → World → Prop} {next : Act → World → Prop} (h : stepToS P K ((execOp a.eval o).run P w)) (hn : ∀ v w', K v w' → next (a.put o.dst v) w') : o.wp P a w next Q := by
  unfold Oper.wp
  generalize (execOp a.eval o).run P w = r at *
  cases r with
  | ok n w' =>
    cases n <;> simp only [stepToS] at h <;> simp only [Oper.upon]
    case value v => exact hn _ _ h
    case skip => exact hn _ _ h
    case enter f args =>
      refine h.mono fun e w'' he => ?_
      obtain ⟨v, rfl, hk⟩ := he
      exact hn _ _ hk
  | halt x w' => simp only [stepToS] at h

theorem stepToS_value {P : Program} {o : Oper} {ρ : Operand → Value} {w w' : World} {v : Value} {K : Value → World → Prop} (h : (execOp ρ o).run P w = .ok (.value v) w') (hk : K v w') : stepToS P K ((execOp ρ o).run P w) := by
  rw [h]; exact hk
theorem stepToS_skip {P : Program} {o : Oper} {ρ : Operand → Value} {w w' : World} {K : Value → World → Prop} (h : (execOp ρ o).run P w = .ok .skip w') (hk : K undef w') : stepToS P K ((execOp ρ o).run P w) := by
  rw [h]; exact hk

section
variable {P : Program} {ops : Array Oper} {Q : Exit → Act → World → Prop}

/-- As slotsGB, but an operation may yield into no slot at all (a store): its own slot is then one that the frame has not. -/
def slotsNB (ops : Array Oper) (ds : List Tmp) (size : Nat) : Bool :=
  decide (ds.length = ops.size) && decide ds.Nodup &&
  (List.range ops.size).all (fun i => match ops[i]? with
    | some o => (match o.dst with | some d => decide (ds[i]? = some d) && decide (d < size) | none => (match ds[i]? with | some d => decide (size ≤ d) | none => false)) && (match o.op with | .select .. => false | _ => true) &&
      o.after.all (fun e => !Region.binds .any e || decide (e.on < i)) &&
      (match o.guard with | none => true | some g => afterB ops i g.1 && (match ops[g.1]? with | some q => q.dst.isSome | none => false)) &&
      o.op.operands.toList.all (fun x => match x with
        | .tmp t => match ds.idxOf? t with
          | some j => afterB ops i j && decide (t < size)
          | none => true
        | _ => true)
    | none => false)

structure SlotsN (ops : Array Oper) (ds : List Tmp) (size : Nat) : Prop where
  len : ds.length = ops.size
  nodup : ds.Nodup
  each : ∀ i, i < ops.size → ∃ o d, ops[i]? = some o ∧ ds[i]? = some d ∧ ((o.dst = some d ∧ d < size) ∨ (o.dst = none ∧ size ≤ d)) ∧ (∀ cs b, o.op ≠ .select cs b) ∧ (∀ e ∈ o.after, Region.binds .any e = true → e.on < i) ∧
    (∀ j want, o.guard = some (j, want) → afterB ops i j = true ∧ ∃ q, ops[j]? = some q ∧ q.dst.isSome = true) ∧ (∀ t j, Operand.tmp t ∈ o.op.operands → ds.idxOf? t = some j → afterB ops i j = true ∧ t < size)

theorem slotsN_ok {ds : List Tmp} {size : Nat} (h : slotsNB ops ds size = true) : SlotsN ops ds size := by
  unfold slotsNB at h
  simp only [Bool.and_eq_true, decide_eq_true_eq, List.all_eq_true, List.mem_range] at h
  obtain ⟨⟨h2, h3⟩, h5⟩ := h
  refine ⟨h2, h3, fun i hi => ?_⟩
  have h := h5 i hi
  cases ho : ops[i]? with
  | none => simp [ho] at h
  | some o =>
    simp only [ho, Bool.and_eq_true] at h
    obtain ⟨⟨⟨⟨g2, g3⟩, g4⟩, g1⟩, g5⟩ := h
    have hd : ∃ d, ds[i]? = some d := ⟨ds[i]'(by omega), List.getElem?_eq_getElem _⟩
    obtain ⟨d, hd⟩ := hd
    refine ⟨o, d, rfl, hd, ?_, fun cs b hs => by simp [hs] at g3, fun e he hb => ?_, fun j want hg => ?_, fun t j ht hj => ?_⟩
    · cases hq : o.dst with
      | some d' =>
        rw [hq] at g2
        simp only [Bool.and_eq_true, decide_eq_true_eq] at g2
        rw [hd] at g2
        obtain ⟨g2a, g2b⟩ := g2
        injection g2a with g2a
        subst g2a
        exact .inl ⟨rfl, g2b⟩
      | none =>
        rw [hq, hd] at g2
        simp only [decide_eq_true_eq] at g2
        exact .inr ⟨rfl, g2⟩
    · have := Array.all_eq_true_iff_forall_mem.1 g4 e he
      simpa [hb] using this
    · rw [hg] at g1
      simp only [Bool.and_eq_true] at g1
      refine ⟨g1.1, ?_⟩
      have g1b := g1.2
      cases hq : ops[j]? with
      | none => rw [hq] at g1b; cases g1b
      | some q => rw [hq] at g1b; exact ⟨q, rfl, g1b⟩
    · have := List.all_eq_true.1 g5 (.tmp t) (by simpa using ht)
      simpa [hj] using this

theorem put_beyond (a : Act) (d : Tmp) (v : Value) (h : a.tmps.size ≤ d) : a.put none v = a.put (some d) v := by
  unfold Act.put
  simp only
  congr 1
  rw [Array.setIfInBounds_eq_of_size_le h]

structure NInv (ops : Array Oper) (a0 : Act) (ds : List Tmp) (I : (Nat → Bool) → (Nat → Value) → World → Prop) (listed : Array Bool) (vs : Nat → Value) (a : Act) (w : World) : Prop where
  size : listed.size = ops.size
  act : a = putSel (fun i => listed.getD i false) vs ds 0 a0
  inv : I (fun i => listed.getD i false) vs w

variable {a0 : Act} {ds : List Tmp} {I : (Nat → Bool) → (Nat → Value) → World → Prop}

theorem idx_getN {t : Tmp} {j : Nat} (hj : ds.idxOf? t = some j) : ds[j]? = some t := by
  have := List.of_findIdx?_eq_some (p := (· == t)) (xs := ds) (i := j) (by simpa [List.idxOf?] using hj)
  cases hd : ds[j]? with
  | none => simp [hd] at this
  | some d => simp [hd] at this; rw [this]

theorem ninv_go (ok : SlotsN ops ds a0.tmps.size)
    (step : ∀ i o L vs ρ w, ops[i]? = some o → L i = false → (∀ j, afterB ops i j = true → L j = true) → ReadsF a0 ds vs ρ → (∀ j want, o.guard = some (j, want) → vs j = .bool want) → I L vs w →
      stepToS P (fun v w' => I (updB L i) (updV vs i v) w') ((execOp ρ o).run P w))
    (skip : ∀ i o L vs w j want, ops[i]? = some o → L i = false → (∀ j, afterB ops i j = true → L j = true) → o.guard = some (j, want) → vs j ≠ .bool want → I L vs w → I (updB L i) (updV vs i undef) w)
    (fin : ∀ vs w', I (fun j => decide (j < ops.size)) vs w' → Q .normal (putList vs ds a0) w') :
    ∀ (r : Nat) (listed : Array Bool) (vs : Nat → Value) (a : Act) (w : World), NInv ops a0 ds I listed vs a w → toCome ops.size listed = r → wpAny P .any ops Q r listed a w
  | 0, listed, vs, a, w, hI, hr => by
    have hall := toCome_zero hr
    have hn : Region.ready .any ops listed = [] := by
      apply List.eq_nil_iff_forall_not_mem.2
      intro i hi
      obtain ⟨hun, o, ho, _⟩ := mem_ready.1 hi
      have hio : i < ops.size := (Array.getElem?_eq_some_iff.1 ho).1
      have := hall i hio
      rw [getD_false_true (by rw [hI.size]; exact hio)] at hun
      rw [this] at hun
      cases hun
    have ha : a = putList vs ds a0 := by
      rw [hI.act]
      exact putSel_congr _ _ _ _ ds 0 a0 fun j _ hj => ⟨hall j (by rw [← ok.len]; omega), fun _ => rfl⟩
    have hL : (fun i => listed.getD i false) = fun j => decide (j < ops.size) := by
      funext j
      by_cases hj : j < ops.size
      · rw [hall j hj, decide_eq_true hj]
      · rw [decide_eq_false hj]
        simp [Array.getD, hI.size, hj]
    rw [ha]
    have h2 := hI.inv
    rw [hL] at h2
    exact wpAny_done hn (fin vs w h2) 0
  | r + 1, listed, vs, a, w, hI, hr => by
    refine ⟨fun h0 => ?_, fun i hi => ?_⟩
    · exfalso
      have hex : ∃ i, i < ops.size ∧ listed.getD i false = false := by
        apply Classical.byContradiction
        intro hn
        have : toCome ops.size listed = 0 := by
          unfold toCome
          rw [List.countP_eq_zero]
          intro i hi
          have hi' := List.mem_range.1 hi
          cases hb : listed.getD i false
          · exact absurd ⟨i, hi', hb⟩ hn
          · simp
        omega
      have key : ∀ n i, i < n → i < ops.size → listed.getD i false = false → False := by
        intro n
        induction n with
        | zero => intro i h; omega
        | succ n ih =>
          intro i hin him hf
          obtain ⟨o, _, ho, _, _, _, hlow, _⟩ := ok.each i him
          have hs : i < listed.size := by rw [hI.size]; exact him
          have : i ∈ Region.ready .any ops listed := by
            rw [mem_ready]
            refine ⟨by rw [getD_false_true hs]; exact hf, o, ho, fun e he hb => ?_⟩
            cases hb' : listed.getD e.on false
            · exact (ih e.on (by have := hlow e he hb; omega) (by have := hlow e he hb; omega) hb').elim
            · rfl
          rw [h0] at this
          cases this
      obtain ⟨i, him, hf⟩ := hex
      exact key (i + 1) i (by omega) him hf
    · obtain ⟨hun, o, ho, hall⟩ := mem_ready.1 hi
      have him : i < ops.size := (Array.getElem?_eq_some_iff.1 ho).1
      have hs : i < listed.size := by rw [hI.size]; exact him
      have hf : listed.getD i false = false := by rw [← getD_false_true hs]; exact hun
      obtain ⟨o', d, ho', hd, hdst, hsel, hlow, hgrd, hopn⟩ := ok.each i him
      obtain rfl : o = o' := Option.some.inj (ho.symm.trans ho')
      have haft : ∀ j, afterB ops i j = true → listed.getD j false = true := fun j hj => by
        obtain ⟨e, he, hb, rfl⟩ := afterB_iff ho hj
        exact hall e he hb
      have hread : ∀ t j, ds[j]? = some t → t < a0.tmps.size → listed.getD j false = true → a.eval (.tmp t) = vs j := fun t j hdj hts hl => by
        rw [hI.act]
        have := putSel_in (fun i => listed.getD i false) vs t ds 0 j a0 ok.nodup hdj (by simpa using hl) hts
        simpa using this
      have hnext : ∀ v w', I (updB (fun i => listed.getD i false) i) (updV vs i v) w' → wpAny P .any ops Q r (listed.setIfInBounds i true) (a.put o.dst v) w' := by
        intro v w' h
        refine ninv_go ok step skip fin r (listed.setIfInBounds i true) (updV vs i v) (a.put o.dst v) w' ⟨by simp [hI.size], ?_, ?_⟩ ?_
        · have hput : a.put o.dst v = a.put (some d) v := by
            rcases hdst with ⟨e, _⟩ | ⟨e, hs2⟩
            · rw [e]
            · rw [e]
              exact put_beyond a d v (by rw [hI.act, putSel_size]; exact hs2)
          rw [hput, hI.act]
          have := putSel_set (fun i => listed.getD i false) vs i v ds 0 a0 d ok.nodup (Nat.zero_le _) (by simpa using hd) hf
          rw [this, updB_listed hs]
        · rw [← updB_listed hs]
          exact h
        · have := toCome_set him hs hf
          omega
      have hyield : ∀ j want, o.guard = some (j, want) → yielded ops a.tmps j = (match vs j with | .bool b => some b | _ => none) := by
        intro j want hg
        obtain ⟨hj, q, hq1, hq2⟩ := hgrd j want hg
        obtain ⟨e, he, hb, he2⟩ := afterB_iff ho hj
        have hji : j < i := by rw [← he2]; exact hlow e he hb
        obtain ⟨oj, t, hoj, hdj2, hdj, _⟩ := ok.each j (by omega)
        obtain rfl : q = oj := Option.some.inj (hq1.symm.trans hoj)
        have hdj3 : q.dst = some t ∧ t < a0.tmps.size := by
          rcases hdj with h | ⟨h, _⟩
          · exact h
          · rw [h] at hq2; cases hq2
        obtain ⟨hdj, hts⟩ := hdj3
        have hr := hread t j hdj2 hts (haft j hj)
        unfold yielded
        rw [hoj]
        simp only [Option.bind_some, hdj, hdj2]
        have he : a.eval (.tmp t) = a.tmps.getD t undef := rfl
        rw [he] at hr
        cases hx : a.tmps[t]? with
        | none =>
          have : a.tmps.getD t undef = undef := by simp [Array.getD_eq_getD_getElem?, hx]
          rw [← hr, this]
          rfl
        | some x =>
          have : a.tmps.getD t undef = x := by simp [Array.getD_eq_getD_getElem?, hx]
          rw [← hr, this]
          cases x <;> rfl
      unfold wpOp
      simp only [ho]
      by_cases hw : Region.wanted o (yielded ops a.tmps) = true
      · rw [if_pos hw]
        left
        have hρ : execOp a.eval o = execOp (valOf a0 ds vs) o := by
          refine execOp_congr o hsel fun x hx => ?_
          cases x with
          | tmp t =>
            cases hj : ds.idxOf? t with
            | none =>
              rw [valOf_none hj, hI.act]
              exact putSel_out _ _ t ds 0 a0 (by rw [List.idxOf?_eq_none_iff] at hj; exact hj)
            | some j =>
              rw [valOf_some hj]
              exact hread t j (idx_getN hj) (hopn t j hx hj).2 (haft j (hopn t j hx hj).1)
          | const v => simp only [valOf]; rfl
          | global g => simp only [valOf]; rfl
          | func f => simp only [valOf]; rfl
        have hst := step i o (fun i => listed.getD i false) vs (valOf a0 ds vs) w ho hf haft ⟨fun _ _ h => valOf_some h, fun _ h => valOf_none h, fun _ => rfl, fun _ => rfl⟩ (fun j want hg => by
          have hy := hyield j want hg
          unfold Region.wanted at hw
          rw [hg] at hw
          simp only [hy] at hw
          cases hv : vs j <;> rw [hv] at hw <;> simp at hw
          rw [hw]) hI.inv
        rw [← hρ] at hst
        exact wp_of_stepToS hst fun v w' h => hnext v w' h
      · rw [if_neg hw]
        cases hg : o.guard with
        | none => exact absurd (by simp [Region.wanted, hg]) hw
        | some g =>
          obtain ⟨j, want⟩ := g
          refine hnext undef w (skip i o _ vs w j want ho hf haft hg (fun hv => hw ?_) hI.inv)
          have hy := hyield j want hg
          unfold Region.wanted
          rw [hg]
          simp only [hy, hv]
          simp

/-- THE RULE. -/
theorem wp_region_invN {id : Nat} {a : Act} {w : World} (hm : P.follows .mixedOrders = true) (ds : List Tmp) (hok : slotsNB ops ds a.tmps.size = true) (I : (Nat → Bool) → (Nat → Value) → World → Prop)
    (start : I (fun _ => false) (fun _ => undef) w.drew)
    (step : ∀ i o L vs ρ w, ops[i]? = some o → L i = false → (∀ j, afterB ops i j = true → L j = true) → ReadsF a ds vs ρ → (∀ j want, o.guard = some (j, want) → vs j = .bool want) → I L vs w →
      stepToS P (fun v w' => I (updB L i) (updV vs i v) w') ((execOp ρ o).run P w))
    (skip : ∀ i o L vs w j want, ops[i]? = some o → L i = false → (∀ j, afterB ops i j = true → L j = true) → o.guard = some (j, want) → vs j ≠ .bool want → I L vs w → I (updB L i) (updV vs i undef) w)
    (fin : ∀ vs w', I (fun j => decide (j < ops.size)) vs w' → Q .normal (putList vs ds a) w') :
    (Code.region id ops true).wp P Q a w := by
  have ok := slotsN_ok hok
  refine wp_region_any hm ?_
  have h0 : toCome ops.size (Array.replicate ops.size false) = ops.size := by
    have := List.countP_eq_length (l := List.range ops.size) (p := fun i => !(Array.replicate ops.size false).getD i false) |>.2 fun i _ => by rw [rep_false]; rfl
    unfold toCome
    rw [this, List.length_range]
  have hf : (fun i => (Array.replicate ops.size false).getD i false) = fun _ => false := by
    funext i
    exact rep_false _ i
  refine ninv_go ok step skip fin ops.size (Array.replicate ops.size false) (fun _ => undef) a _ ⟨by simp, ?_, ?_⟩ h0
  · rw [hf]
    exact (putSel_none ds 0 a).symm
  · rw [hf]
    exact start
end
end Go.Proofs.YtdpbdkacngaemaaDoor


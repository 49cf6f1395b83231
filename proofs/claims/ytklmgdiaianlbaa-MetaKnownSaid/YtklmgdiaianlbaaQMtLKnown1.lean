/- MtKnB. -/
import Derived.Test.YtklmgdiaianlbaaQ13
import Derived.Test.YtklmgdiaianlbaaQ6
import Derived.Test.YtklmgdiaianlbaaQMtLKnown0
set_option linter.unusedVariables false
set_option linter.unusedSimpArgs false
/- The example's table, in a box of its own; what is written into it. -/
namespace Go.Proofs.Ytklmgdiaianlbaa.mt
open Go Go.RowKit Go.Sort Go.Proofs.Ytklmgdiaianlbaa.ib Go.Proofs.Ytklmgdiaianlbaa.wi
set_option maxRecDepth 100000

def sA : Sp := ⟨(1, 1), [0, 0], true⟩
def sB : Sp := ⟨(2, 1), [300, 301], false⟩
def tW : Tk := ⟨(2, 1), (2, 2), 1, 2, [302, 301]⟩
def mW : Mt := ⟨[200, 0], [sA, sB], tW⟩
theorem short_mW : mShort mW = mW := by decide +kernel

def i64Q (z : Int) : Bool := decide (-9223372036854775808 ≤ z) && decide (z ≤ 9223372036854775807)
def gdQ (g : Gd) : Bool := decide (g.1 < 18446744073709551616) && decide (g.2 < 18446744073709551616)
def bdQ (m : Mt) : Bool := m.live.all i64Q && (m.snaps.all (fun s => s.img.all i64Q && gdQ s.g)) && m.tok.img.all i64Q && gdQ m.tok.base && gdQ m.tok.target && i64Q m.tok.next && i64Q m.tok.all
theorem i64_q {z : Int} (h : i64Q z = true) : i64B z := by unfold i64Q at h; simp at h; exact h
theorem gd_q {g : Gd} (h : gdQ g = true) : gdB g := by unfold gdQ at h; simp at h; exact h
theorem bd_of {m : Mt} (h : bdQ m = true) : mtBd m := by
  unfold bdQ at h
  simp only [Bool.and_eq_true, List.all_eq_true] at h
  obtain ⟨⟨⟨⟨⟨⟨h1, h2⟩, h3⟩, h4⟩, h5⟩, h6⟩, h7⟩ := h
  exact ⟨fun z hz => i64_q (h1 z hz), fun x hx => ⟨fun z hz => i64_q ((h2 x hx).1 z hz), gd_q (h2 x hx).2⟩, fun z hz => i64_q (h3 z hz), gd_q h4, gd_q h5, i64_q h6, i64_q h7⟩

section
variable {W : World} {B : Nat} {v : Value}
theorem oi_open {zs : List Int} (h : OInts W B v zs) (h0 : 0 < zs.length) : ∃ j c, v = .slice (some ⟨j, 0, none⟩) zs.length c ∧ B ≤ j ∧ (∃ cs, Blk W j 3 cs) ∧ ∀ k (hk : k < zs.length), W.cell? ⟨j, k, none⟩ = some (.int .i64 zs[k]) ∧ W.frozen? ⟨j, k, none⟩ = false := by
  rcases h.2 with ⟨_, e⟩ | ⟨g, cap, cur, rfl, hg, hh, hcc, hm, hcs, hcur⟩
  · omega
  · refine ⟨g, cap, rfl, hg, ⟨_, hh⟩, fun k hk => ⟨?_, by simp [World.frozen?, hh]⟩⟩
    rw [cell_of_row W g k cur 3 (0, 0) hh]
    have h3 : (cur.toList.take (zs.length * 1))[k]? = some (.int .i64 zs[k]) := by rw [hcur]; simp [hk]
    rw [List.getElem?_take] at h3
    split at h3
    · simpa using h3
    · cases h3
theorem oi_set {j c n : Nat} {zs : List Int} (h : OInts W B (.slice (some ⟨j, 0, none⟩) n c) zs) (k : Nat) (z : Int) (hk : k < zs.length) : OInts (W.setCell ⟨j, k, none⟩ (.int .i64 z)) B (.slice (some ⟨j, 0, none⟩) n c) (zs.set k z) := by
  rcases h.2 with ⟨e, _⟩ | ⟨g, cap, cur, hv, hg, hh, hcc, hm, hcs, hcur⟩
  · cases e
  · simp only [Value.slice.injEq, Option.some.injEq, Addr.mk.injEq, and_true] at hv
    obtain ⟨rfl, rfl, rfl⟩ := hv
    refine ⟨by simp, .inr ⟨j, c, cur.setIfInBounds k (.int .i64 z), by simp, hg, heap_setCell_same W j k cur 3 (.int .i64 z) hh, by simpa using hcc, hm, by simpa using hcs, ?_⟩⟩
    have hl : (zs.set k z).length * 1 = zs.length * 1 := by simp
    rw [hl, Array.toList_setIfInBounds, List.take_set, hcur, List.map_set]
theorem oi_oth {zs : List Int} (h : OInts W B v zs) {j : Nat} (hj : v.ownBlock ≠ some j) (k : Nat) (u : Value) : OInts (W.setCell ⟨j, k, none⟩ u) B v zs :=
  row_of_block h (fun i hi => set_oth _ _ _ _ _ (fun e => hj (by rw [← e]; exact hi)))
theorem osn_open {xs : List OSn} (h : OSns W B v xs) (h0 : 0 < xs.length) : ∃ j c, v = .slice (some ⟨j, 0, none⟩) xs.length c ∧ B ≤ j ∧ (∃ cs, Blk W j 48 cs) ∧ ∀ (k : Nat) (u : Value), (spRow xs)[k]? = some u → W.cell? ⟨j, k, none⟩ = some u ∧ W.frozen? ⟨j, k, none⟩ = false := by
  rcases h.1.2 with ⟨_, e⟩ | ⟨g, cap, cur, rfl, hg, hh, hcc, hm, hcs, hcur⟩
  · omega
  · refine ⟨g, cap, rfl, hg, ⟨_, hh⟩, fun k u hu => ⟨?_, by simp [World.frozen?, hh]⟩⟩
    rw [cell_of_row W g k cur 48 (0, 0) hh]
    rw [← hcur, List.getElem?_take] at hu
    split at hu
    · simpa using hu
    · cases hu
theorem row_set {j c n : Nat} {ls : List Value} (h : W.ownsRow B 48 4 (.slice (some ⟨j, 0, none⟩) n c) n ls) (k : Nat) (u : Value) : (W.setCell ⟨j, k, none⟩ u).ownsRow B 48 4 (.slice (some ⟨j, 0, none⟩) n c) n (ls.set k u) := by
  rcases h.2 with ⟨e, _⟩ | ⟨g, cap, cur, hv, hg, hh, hcc, hm, hcs, hcur⟩
  · cases e
  · simp only [Value.slice.injEq, Option.some.injEq, Addr.mk.injEq, and_true] at hv
    obtain ⟨rfl, _, rfl⟩ := hv
    refine ⟨by rw [List.length_set]; exact h.1, .inr ⟨j, c, cur.setIfInBounds k u, rfl, hg, heap_setCell_same W j k cur 48 u hh, hcc, hm, by simpa using hcs, ?_⟩⟩
    rw [Array.toList_setIfInBounds, List.take_set, hcur]
end

/-- The example's table in the box g. -/
def OB (W : World) (B g : Nat) : Prop := ∃ v0 v1 v2 u0 u1, Blk W g 30 (mC v0 v1 v2 tW) ∧ OInts W B v0 [200, 0] ∧ OSns W B v1 [(sA, u0), (sB, u1)] ∧ OInts W B v2 [302, 301] ∧ apart [v0, v2, u0, u1] ∧ B ≤ g
def endDo (B g : Nat) (m' : Mt) (W : World) (e : Ending) (W' : World) : Prop := e = .returned (.tuple #[]) ∧ (∃ v0 v1 v2, Blk W' g 30 (mC v0 v1 v2 m'.tok) ∧ MtO W' B (.agg (mC v0 v1 v2 m'.tok)) m') ∧ But (fun j => B ≤ j) W W'
def Do (f : FuncId) (m' : Mt) : Prop := ∀ W B g, OB W B g → Calls Try.prog f #[.pointer (some ⟨g, 0, none⟩)] W (endDo B g m' W)
theorem ap_ne {a b : Value} {j : Nat} (h : ∀ j, a.ownBlock = some j → b.ownBlock ≠ some j) (ha : a.ownBlock = some j) : b.ownBlock ≠ some j := h j ha

theorem osn_int {W : World} {B j k : Nat} {v u : Value} {cs : Array Value} {xs : List OSn} (h : OSns W B v xs) (hj : Blk W j 3 cs) (hx : ∀ x ∈ xs, x.2.ownBlock ≠ some j) : OSns (W.setCell ⟨j, k, none⟩ u) B v xs :=
  ⟨(Kp.of_set k u hj).row (by decide) h.1, fun x hx' => oi_oth (h.2 x hx') (hx x hx') k u⟩
def setAll (W : World) (g : Nat) : List (Nat × Value) → World
  | [] => W
  | x :: r => setAll (W.setCell ⟨g, x.1, none⟩ x.2) g r
def csAll (cs : Array Value) : List (Nat × Value) → Array Value
  | [] => cs
  | x :: r => csAll (cs.setIfInBounds x.1 x.2) r
theorem box_all {t : TypeId} {g B : Nat} (hg : B ≤ g) : ∀ (l : List (Nat × Value)) (W : World) (cs : Array Value), Blk W g t cs → Blk (setAll W g l) g t (csAll cs l) ∧ Kp t W (setAll W g l) ∧ But (fun j => B ≤ j) W (setAll W g l)
  | [], W, cs, h => ⟨h, Kp.refl _ _, But.refl _ _⟩
  | x :: r, W, cs, h => by
    obtain ⟨h1, h2, h3⟩ := box_all hg r (W.setCell ⟨g, x.1, none⟩ x.2) _ (h.set_ x.1 x.2)
    exact ⟨h1, (Kp.of_set x.1 x.2 h).trans h2, ((But.refl _ W).setCell ⟨g, x.1, none⟩ x.2 (.inl hg)).trans h3 (fun i hi => .inl hi)⟩
def m1 : Mt := ⟨[200, 200], [sA, sB], ⟨(2, 1), (2, 2), 1, 2, [302, 301]⟩⟩
set_option maxHeartbeats 1600000 in
theorem do1 : Do 21 m1 := by
  rintro W B g ⟨v0, v1, v2, u0, u1, hbox, h0, h1, h2, hap, hg⟩
  obtain ⟨j, c, rfl, hj, ⟨cs, hcs⟩, hcell⟩ := oi_open h0 (by decide)
  have k1 := (hcell 1 (by decide)).1
  have f1 := (hcell 1 (by decide)).2
  simp at k1
  have hlj := hcs.lt
  have b0 := hbox.cell 0
  have bf0 := hbox.frozen 0
  simp only [mC, tW, List.getElem?_toArray, List.getElem?_cons_zero, List.getElem?_cons_succ] at b0
  have hlb := hbox.lt
  have hq0 : ∀ v ∈ [v2, u0, u1], v.ownBlock ≠ some j := fun v hv => (List.pairwise_cons.1 hap).1 v hv j rfl
  go_enter Try.func21, Try.ntmps21
  go_wp2_with fail
  go_end0
  refine ⟨rfl, ⟨.slice (some ⟨j, 0, none⟩) [200, 0].length c, v1, v2, (Kp.of_set 1 (.int .i64 200) hcs) _ _ _ (by decide) hbox, .slice (some ⟨j, 0, none⟩) [200, 0].length c, v1, v2, [(sA, u0), (sB, u1)], rfl, oi_set h0 1 200 (by decide), osn_int h1 hcs (fun x hx => ?_), rfl, oi_oth h2 (hq0 v2 (by simp)) _ _, bd_of (by decide +kernel)⟩, (But.refl _ W).setCell ⟨j, 1, none⟩ (.int .i64 200) (.inl hj)⟩
  simp only [List.mem_cons, List.not_mem_nil, or_false] at hx
  rcases hx with rfl | rfl
  · exact hq0 u0 (by simp)
  · exact hq0 u1 (by simp)
def m4 : Mt := ⟨[200, 0], [sA, ⟨(2, 1), [301, 301], false⟩], ⟨(2, 1), (2, 2), 1, 2, [302, 301]⟩⟩
set_option maxHeartbeats 1600000 in
theorem do4 : Do 24 m4 := by
  rintro W B g ⟨v0, v1, v2, u0, u1, hbox, h0, h1, h2, hap, hg⟩
  obtain ⟨js, cr, rfl, hjs, ⟨css, hcss⟩, hrow⟩ := osn_open h1 (by simp)
  obtain ⟨j, c, hu1, hj, ⟨cs, hcs⟩, hcell⟩ := oi_open (h1.2 (sB, u1) (by simp)) (show 0 < 2 by decide)
  dsimp only at hu1
  subst hu1
  have k0 := (hcell 0 (show 0 < 2 by decide)).1
  have f0 := (hcell 0 (show 0 < 2 by decide)).2
  simp [sB] at k0
  have r6 := (hrow 6 _ rfl).1
  have hlj := hcs.lt
  have hlr := hcss.lt
  have b1 := hbox.cell 1
  have bf1 := hbox.frozen 1
  simp only [mC, tW, List.getElem?_toArray, List.getElem?_cons_zero, List.getElem?_cons_succ] at b1
  have hlb := hbox.lt
  have hq : ∀ v ∈ [v0, v2, u0], v.ownBlock ≠ some j := fun v hv e => by
    have h3 := hap
    simp only [apart, List.pairwise_cons, List.mem_cons, List.not_mem_nil, or_false] at h3
    obtain ⟨p0, p1, p2, _⟩ := h3
    simp only [List.mem_cons, List.not_mem_nil, or_false] at hv
    rcases hv with rfl | rfl | rfl
    · exact p0 _ (.inr (.inr rfl)) j e rfl
    · exact p1 _ (.inr rfl) j e rfl
    · exact p2 _ rfl j e rfl
  go_enter Try.func24, Try.ntmps24
  go_wp2_with fail
  go_end0
  have hk := Kp.of_set 0 (.int .i64 301) hcs
  refine ⟨rfl, ⟨v0, .slice (some ⟨js, 0, none⟩) [(sA, u0), (sB, Value.slice (some ⟨j, 0, none⟩) sB.img.length c)].length cr, v2, hk _ _ _ (by decide) hbox, v0, .slice (some ⟨js, 0, none⟩) [(sA, u0), (sB, Value.slice (some ⟨j, 0, none⟩) sB.img.length c)].length cr, v2, [(sA, u0), (⟨(2, 1), [301, 301], false⟩, .slice (some ⟨j, 0, none⟩) sB.img.length c)], rfl, oi_oth h0 (hq v0 (by simp)) _ _, ⟨hk.row (by decide) h1.1, fun x hx => ?_⟩, rfl, oi_oth h2 (hq v2 (by simp)) _ _, bd_of (by decide +kernel)⟩, (But.refl _ W).setCell ⟨j, 0, none⟩ (.int .i64 301) (.inl hj)⟩
  simp only [List.mem_cons, List.not_mem_nil, or_false] at hx
  rcases hx with rfl | rfl
  · exact oi_oth (h1.2 (sA, u0) (by simp)) (hq u0 (by simp)) _ _
  · exact oi_set (h1.2 (sB, Value.slice (some ⟨j, 0, none⟩) sB.img.length c) (by simp)) 0 301 (show 0 < 2 by decide)
def m11 : Mt := ⟨[200, 0], [sA, sB], ⟨(2, 1), (2, 2), 1, 2, [302, 302]⟩⟩
set_option maxHeartbeats 1600000 in
theorem do11 : Do 31 m11 := by
  rintro W B g ⟨v0, v1, v2, u0, u1, hbox, h0, h1, h2, hap, hg⟩
  obtain ⟨j, c, rfl, hj, ⟨cs, hcs⟩, hcell⟩ := oi_open h2 (by decide)
  have k1 := (hcell 1 (by decide)).1
  have f1 := (hcell 1 (by decide)).2
  simp at k1
  have hlj := hcs.lt
  have b8 := hbox.cell 8
  have bf8 := hbox.frozen 8
  simp only [mC, tW, List.getElem?_toArray, List.getElem?_cons_zero, List.getElem?_cons_succ] at b8
  have hlb := hbox.lt
  have hq : ∀ v ∈ [v0, u0, u1], v.ownBlock ≠ some j := fun v hv e => by
    have h3 := hap
    simp only [apart, List.pairwise_cons, List.mem_cons, List.not_mem_nil, or_false] at h3
    obtain ⟨p0, p1, _⟩ := h3
    simp only [List.mem_cons, List.not_mem_nil, or_false] at hv
    rcases hv with rfl | rfl | rfl
    · exact p0 _ (.inl rfl) j e rfl
    · exact p1 _ (.inl rfl) j rfl e
    · exact p1 _ (.inr rfl) j rfl e
  go_enter Try.func31, Try.ntmps31
  go_wp2_with fail
  go_end0
  refine ⟨rfl, ⟨v0, v1, .slice (some ⟨j, 0, none⟩) [302, 301].length c, (Kp.of_set 1 (.int .i64 302) hcs) _ _ _ (by decide) hbox, v0, v1, .slice (some ⟨j, 0, none⟩) [302, 301].length c, [(sA, u0), (sB, u1)], rfl, oi_oth h0 (hq v0 (by simp)) _ _, osn_int h1 hcs (fun x hx => ?_), rfl, oi_set h2 1 302 (by decide), bd_of (by decide +kernel)⟩, (But.refl _ W).setCell ⟨j, 1, none⟩ (.int .i64 302) (.inl hj)⟩
  simp only [List.mem_cons, List.not_mem_nil, or_false] at hx
  rcases hx with rfl | rfl
  · exact hq u0 (by simp)
  · exact hq u1 (by simp)
def m6 : Mt := ⟨[200, 0], [sA, sB], ⟨(2, 1), (2, 2), 2, 2, [302, 301]⟩⟩
set_option maxHeartbeats 1600000 in
theorem do6 : Do 26 m6 := by
  rintro W B g ⟨v0, v1, v2, u0, u1, hbox, h0, h1, h2, hap, hg⟩
  obtain ⟨A0, c0, hv0⟩ := own_form h0
  obtain ⟨A1, c1, hv1⟩ := own_form h1.1
  obtain ⟨A2, c2, hv2⟩ := own_form h2
  subst hv0
  subst hv1
  subst hv2
  have b6 := hbox.cell 6
  have bf6 := hbox.frozen 6
  simp only [mC, tW, List.getElem?_toArray, List.getElem?_cons_zero, List.getElem?_cons_succ] at b6
  have hlb := hbox.lt
  go_enter Try.func26, Try.ntmps26
  go_wp2_with fail
  go_end0
  obtain ⟨hb2, hk, hbu⟩ := box_all hg [(6, .int .i64 2)] W _ hbox
  simp only [setAll, csAll, mC, tW, tk0, nlS, List.setIfInBounds_toArray, List.set_cons_succ, List.set_cons_zero] at hb2 hk hbu
  exact ⟨rfl, ⟨(.slice A0 [200, 0].length c0), (.slice A1 [(sA, u0), (sB, u1)].length c1), (.slice A2 [302, 301].length c2), hb2, (.slice A0 [200, 0].length c0), (.slice A1 [(sA, u0), (sB, u1)].length c1), (.slice A2 [302, 301].length c2), [(sA, u0), (sB, u1)], rfl, oi_kp h0 hk (by decide), h1.kp hk (by decide) (by decide), rfl, oi_kp h2 hk (by decide), bd_of (by decide +kernel)⟩, hbu⟩
def m7 : Mt := ⟨[200, 0], [sA, sB], ⟨(2, 1), (2, 2), 0, 2, [302, 301]⟩⟩
set_option maxHeartbeats 1600000 in
theorem do7 : Do 27 m7 := by
  rintro W B g ⟨v0, v1, v2, u0, u1, hbox, h0, h1, h2, hap, hg⟩
  obtain ⟨A0, c0, hv0⟩ := own_form h0
  obtain ⟨A1, c1, hv1⟩ := own_form h1.1
  obtain ⟨A2, c2, hv2⟩ := own_form h2
  subst hv0
  subst hv1
  subst hv2
  have b6 := hbox.cell 6
  have bf6 := hbox.frozen 6
  simp only [mC, tW, List.getElem?_toArray, List.getElem?_cons_zero, List.getElem?_cons_succ] at b6
  have hlb := hbox.lt
  go_enter Try.func27, Try.ntmps27
  go_wp2_with fail
  go_end0
  obtain ⟨hb2, hk, hbu⟩ := box_all hg [(6, .int .i64 0)] W _ hbox
  simp only [setAll, csAll, mC, tW, tk0, nlS, List.setIfInBounds_toArray, List.set_cons_succ, List.set_cons_zero] at hb2 hk hbu
  exact ⟨rfl, ⟨(.slice A0 [200, 0].length c0), (.slice A1 [(sA, u0), (sB, u1)].length c1), (.slice A2 [302, 301].length c2), hb2, (.slice A0 [200, 0].length c0), (.slice A1 [(sA, u0), (sB, u1)].length c1), (.slice A2 [302, 301].length c2), [(sA, u0), (sB, u1)], rfl, oi_kp h0 hk (by decide), h1.kp hk (by decide) (by decide), rfl, oi_kp h2 hk (by decide), bd_of (by decide +kernel)⟩, hbu⟩
def m8 : Mt := ⟨[200, 0], [sA, sB], ⟨(2, 1), (2, 2), 1, 3, [302, 301]⟩⟩
set_option maxHeartbeats 1600000 in
theorem do8 : Do 28 m8 := by
  rintro W B g ⟨v0, v1, v2, u0, u1, hbox, h0, h1, h2, hap, hg⟩
  obtain ⟨A0, c0, hv0⟩ := own_form h0
  obtain ⟨A1, c1, hv1⟩ := own_form h1.1
  obtain ⟨A2, c2, hv2⟩ := own_form h2
  subst hv0
  subst hv1
  subst hv2
  have b7 := hbox.cell 7
  have bf7 := hbox.frozen 7
  simp only [mC, tW, List.getElem?_toArray, List.getElem?_cons_zero, List.getElem?_cons_succ] at b7
  have hlb := hbox.lt
  go_enter Try.func28, Try.ntmps28
  go_wp2_with fail
  go_end0
  obtain ⟨hb2, hk, hbu⟩ := box_all hg [(7, .int .i64 3)] W _ hbox
  simp only [setAll, csAll, mC, tW, tk0, nlS, List.setIfInBounds_toArray, List.set_cons_succ, List.set_cons_zero] at hb2 hk hbu
  exact ⟨rfl, ⟨(.slice A0 [200, 0].length c0), (.slice A1 [(sA, u0), (sB, u1)].length c1), (.slice A2 [302, 301].length c2), hb2, (.slice A0 [200, 0].length c0), (.slice A1 [(sA, u0), (sB, u1)].length c1), (.slice A2 [302, 301].length c2), [(sA, u0), (sB, u1)], rfl, oi_kp h0 hk (by decide), h1.kp hk (by decide) (by decide), rfl, oi_kp h2 hk (by decide), bd_of (by decide +kernel)⟩, hbu⟩
def m9 : Mt := ⟨[200, 0], [sA, sB], ⟨(1, 1), (2, 2), 1, 2, [302, 301]⟩⟩
set_option maxHeartbeats 1600000 in
theorem do9 : Do 29 m9 := by
  rintro W B g ⟨v0, v1, v2, u0, u1, hbox, h0, h1, h2, hap, hg⟩
  obtain ⟨A0, c0, hv0⟩ := own_form h0
  obtain ⟨A1, c1, hv1⟩ := own_form h1.1
  obtain ⟨A2, c2, hv2⟩ := own_form h2
  subst hv0
  subst hv1
  subst hv2
  have HBX := Lib.hid hbox
  have HA0 := Lib.hid h0
  have HA1 := Lib.hid h1
  have HA2 := Lib.hid h2
  go_enter Try.func29, Try.ntmps29
  go_wp2_with fail
  refine (lguid_any 1 1 W).mono ?_
  rintro e W2 ⟨rfl, hb3⟩
  have hbx3 := Blk.below HBX.out hb3
  have hk3 : Kp 30 W W2 := Kp.of_below hb3
  have b2 := hbx3.cell 2
  have bf2 := hbx3.frozen 2
  have b3 := hbx3.cell 3
  have bf3 := hbx3.frozen 3
  simp only [mC, tW, csAll, List.setIfInBounds_toArray, List.set_cons_succ, List.set_cons_zero, List.getElem?_toArray, List.getElem?_cons_zero, List.getElem?_cons_succ] at b2 b3
  have hlb := hbx3.lt
  unfold gv
  dsimp only
  go_wp2_with fail
  go_end0
  obtain ⟨hb4, hk4, hbu4⟩ := box_all hg [(2, .int .u64 1), (3, .int .u64 1)] W2 _ hbx3
  simp only [setAll, csAll, mC, tW, tk0, nlS, List.setIfInBounds_toArray, List.set_cons_succ, List.set_cons_zero] at hb4 hk4 hbu4
  have hk := hk3.trans hk4
  exact ⟨rfl, ⟨(.slice A0 [200, 0].length c0), (.slice A1 [(sA, u0), (sB, u1)].length c1), (.slice A2 [302, 301].length c2), hb4, (.slice A0 [200, 0].length c0), (.slice A1 [(sA, u0), (sB, u1)].length c1), (.slice A2 [302, 301].length c2), [(sA, u0), (sB, u1)], rfl, oi_kp h0 hk (by decide), h1.kp hk (by decide) (by decide), rfl, oi_kp h2 hk (by decide), bd_of (by decide +kernel)⟩, (But.of_below hb3).trans hbu4 (fun i hi => .inl hi)⟩
def m10 : Mt := ⟨[200, 0], [sA, sB], ⟨(2, 1), (2, 1), 1, 2, [302, 301]⟩⟩
set_option maxHeartbeats 1600000 in
theorem do10 : Do 30 m10 := by
  rintro W B g ⟨v0, v1, v2, u0, u1, hbox, h0, h1, h2, hap, hg⟩
  obtain ⟨A0, c0, hv0⟩ := own_form h0
  obtain ⟨A1, c1, hv1⟩ := own_form h1.1
  obtain ⟨A2, c2, hv2⟩ := own_form h2
  subst hv0
  subst hv1
  subst hv2
  have HBX := Lib.hid hbox
  have HA0 := Lib.hid h0
  have HA1 := Lib.hid h1
  have HA2 := Lib.hid h2
  go_enter Try.func30, Try.ntmps30
  go_wp2_with fail
  refine (lguid_any 2 1 W).mono ?_
  rintro e W2 ⟨rfl, hb3⟩
  have hbx3 := Blk.below HBX.out hb3
  have hk3 : Kp 30 W W2 := Kp.of_below hb3
  have b4 := hbx3.cell 4
  have bf4 := hbx3.frozen 4
  have b5 := hbx3.cell 5
  have bf5 := hbx3.frozen 5
  simp only [mC, tW, csAll, List.setIfInBounds_toArray, List.set_cons_succ, List.set_cons_zero, List.getElem?_toArray, List.getElem?_cons_zero, List.getElem?_cons_succ] at b4 b5
  have hlb := hbx3.lt
  unfold gv
  dsimp only
  go_wp2_with fail
  go_end0
  obtain ⟨hb4, hk4, hbu4⟩ := box_all hg [(4, .int .u64 2), (5, .int .u64 1)] W2 _ hbx3
  simp only [setAll, csAll, mC, tW, tk0, nlS, List.setIfInBounds_toArray, List.set_cons_succ, List.set_cons_zero] at hb4 hk4 hbu4
  have hk := hk3.trans hk4
  exact ⟨rfl, ⟨(.slice A0 [200, 0].length c0), (.slice A1 [(sA, u0), (sB, u1)].length c1), (.slice A2 [302, 301].length c2), hb4, (.slice A0 [200, 0].length c0), (.slice A1 [(sA, u0), (sB, u1)].length c1), (.slice A2 [302, 301].length c2), [(sA, u0), (sB, u1)], rfl, oi_kp h0 hk (by decide), h1.kp hk (by decide) (by decide), rfl, oi_kp h2 hk (by decide), bd_of (by decide +kernel)⟩, (But.of_below hb3).trans hbu4 (fun i hi => .inl hi)⟩
def m12 : Mt := ⟨[200, 0], [sA, sB], ⟨(2, 1), (0, 0), 1, 2, [302, 301]⟩⟩
set_option maxHeartbeats 1600000 in
theorem do12 : Do 32 m12 := by
  rintro W B g ⟨v0, v1, v2, u0, u1, hbox, h0, h1, h2, hap, hg⟩
  obtain ⟨A0, c0, hv0⟩ := own_form h0
  obtain ⟨A1, c1, hv1⟩ := own_form h1.1
  obtain ⟨A2, c2, hv2⟩ := own_form h2
  subst hv0
  subst hv1
  subst hv2
  have HBX := Lib.hid hbox
  have HA0 := Lib.hid h0
  have HA1 := Lib.hid h1
  have HA2 := Lib.hid h2
  go_enter Try.func32, Try.ntmps32
  go_wp2_with fail
  refine (lguid_any 0 0 W).mono ?_
  rintro e W2 ⟨rfl, hb3⟩
  have hbx3 := Blk.below HBX.out hb3
  have hk3 : Kp 30 W W2 := Kp.of_below hb3
  have b4 := hbx3.cell 4
  have bf4 := hbx3.frozen 4
  have b5 := hbx3.cell 5
  have bf5 := hbx3.frozen 5
  simp only [mC, tW, csAll, List.setIfInBounds_toArray, List.set_cons_succ, List.set_cons_zero, List.getElem?_toArray, List.getElem?_cons_zero, List.getElem?_cons_succ] at b4 b5
  have hlb := hbx3.lt
  unfold gv
  dsimp only
  go_wp2_with fail
  go_end0
  obtain ⟨hb4, hk4, hbu4⟩ := box_all hg [(4, .int .u64 0), (5, .int .u64 0)] W2 _ hbx3
  simp only [setAll, csAll, mC, tW, tk0, nlS, List.setIfInBounds_toArray, List.set_cons_succ, List.set_cons_zero] at hb4 hk4 hbu4
  have hk := hk3.trans hk4
  exact ⟨rfl, ⟨(.slice A0 [200, 0].length c0), (.slice A1 [(sA, u0), (sB, u1)].length c1), (.slice A2 [302, 301].length c2), hb4, (.slice A0 [200, 0].length c0), (.slice A1 [(sA, u0), (sB, u1)].length c1), (.slice A2 [302, 301].length c2), [(sA, u0), (sB, u1)], rfl, oi_kp h0 hk (by decide), h1.kp hk (by decide) (by decide), rfl, oi_kp h2 hk (by decide), bd_of (by decide +kernel)⟩, (But.of_below hb3).trans hbu4 (fun i hi => .inl hi)⟩
def m13 : Mt := ⟨[200, 0], [sA, sB], ⟨(0, 0), (0, 0), 1, 0, []⟩⟩
set_option maxHeartbeats 1600000 in
theorem do13 : Do 33 m13 := by
  rintro W B g ⟨v0, v1, v2, u0, u1, hbox, h0, h1, h2, hap, hg⟩
  obtain ⟨A0, c0, hv0⟩ := own_form h0
  obtain ⟨A1, c1, hv1⟩ := own_form h1.1
  obtain ⟨A2, c2, hv2⟩ := own_form h2
  subst hv0
  subst hv1
  subst hv2
  have b2 := hbox.cell 2
  have bf2 := hbox.frozen 2
  have b3 := hbox.cell 3
  have bf3 := hbox.frozen 3
  have b4 := hbox.cell 4
  have bf4 := hbox.frozen 4
  have b5 := hbox.cell 5
  have bf5 := hbox.frozen 5
  have b6 := hbox.cell 6
  have bf6 := hbox.frozen 6
  have b7 := hbox.cell 7
  have bf7 := hbox.frozen 7
  have b8 := hbox.cell 8
  have bf8 := hbox.frozen 8
  simp only [mC, tW, List.getElem?_toArray, List.getElem?_cons_zero, List.getElem?_cons_succ] at b2 b3 b4 b5 b6 b7 b8
  have hlb := hbox.lt
  go_enter Try.func33, Try.ntmps33
  go_wp2_with fail
  go_end0
  obtain ⟨hb2, hk, hbu⟩ := box_all hg [(2, .int .u64 0), (3, .int .u64 0), (4, .int .u64 0), (5, .int .u64 0), (6, .int .i64 1), (7, .int .i64 0), (8, nlS)] W _ hbox
  simp only [setAll, csAll, mC, tW, tk0, nlS, List.setIfInBounds_toArray, List.set_cons_succ, List.set_cons_zero] at hb2 hk hbu
  exact ⟨rfl, ⟨(.slice A0 [200, 0].length c0), (.slice A1 [(sA, u0), (sB, u1)].length c1), nlS, hb2, (.slice A0 [200, 0].length c0), (.slice A1 [(sA, u0), (sB, u1)].length c1), nlS, [(sA, u0), (sB, u1)], rfl, oi_kp h0 hk (by decide), h1.kp hk (by decide) (by decide), rfl, oi_nil _ _, bd_of (by decide +kernel)⟩, hbu⟩
def m14 : Mt := ⟨[200, 0], [sA, sB], tk0⟩
set_option maxHeartbeats 1600000 in
theorem do14 : Do 34 m14 := by
  rintro W B g ⟨v0, v1, v2, u0, u1, hbox, h0, h1, h2, hap, hg⟩
  obtain ⟨A0, c0, hv0⟩ := own_form h0
  obtain ⟨A1, c1, hv1⟩ := own_form h1.1
  obtain ⟨A2, c2, hv2⟩ := own_form h2
  subst hv0
  subst hv1
  subst hv2
  have b2 := hbox.cell 2
  have bf2 := hbox.frozen 2
  have b3 := hbox.cell 3
  have bf3 := hbox.frozen 3
  have b4 := hbox.cell 4
  have bf4 := hbox.frozen 4
  have b5 := hbox.cell 5
  have bf5 := hbox.frozen 5
  have b6 := hbox.cell 6
  have bf6 := hbox.frozen 6
  have b7 := hbox.cell 7
  have bf7 := hbox.frozen 7
  have b8 := hbox.cell 8
  have bf8 := hbox.frozen 8
  simp only [mC, tW, List.getElem?_toArray, List.getElem?_cons_zero, List.getElem?_cons_succ] at b2 b3 b4 b5 b6 b7 b8
  have hlb := hbox.lt
  go_enter Try.func34, Try.ntmps34
  go_wp2_with fail
  go_end0
  obtain ⟨hb2, hk, hbu⟩ := box_all hg [(2, .int .u64 0), (3, .int .u64 0), (4, .int .u64 0), (5, .int .u64 0), (6, .int .i64 0), (7, .int .i64 0), (8, nlS)] W _ hbox
  simp only [setAll, csAll, mC, tW, tk0, nlS, List.setIfInBounds_toArray, List.set_cons_succ, List.set_cons_zero] at hb2 hk hbu
  exact ⟨rfl, ⟨(.slice A0 [200, 0].length c0), (.slice A1 [(sA, u0), (sB, u1)].length c1), nlS, hb2, (.slice A0 [200, 0].length c0), (.slice A1 [(sA, u0), (sB, u1)].length c1), nlS, [(sA, u0), (sB, u1)], rfl, oi_kp h0 hk (by decide), h1.kp hk (by decide) (by decide), rfl, oi_nil _ _, bd_of (by decide +kernel)⟩, hbu⟩
def m15 : Mt := ⟨[200, 0], [], tk0⟩
set_option maxHeartbeats 1600000 in
theorem do15 : Do 35 m15 := by
  rintro W B g ⟨v0, v1, v2, u0, u1, hbox, h0, h1, h2, hap, hg⟩
  obtain ⟨A0, c0, hv0⟩ := own_form h0
  obtain ⟨A1, c1, hv1⟩ := own_form h1.1
  obtain ⟨A2, c2, hv2⟩ := own_form h2
  subst hv0
  subst hv1
  subst hv2
  have b1 := hbox.cell 1
  have bf1 := hbox.frozen 1
  have b2 := hbox.cell 2
  have bf2 := hbox.frozen 2
  have b3 := hbox.cell 3
  have bf3 := hbox.frozen 3
  have b4 := hbox.cell 4
  have bf4 := hbox.frozen 4
  have b5 := hbox.cell 5
  have bf5 := hbox.frozen 5
  have b6 := hbox.cell 6
  have bf6 := hbox.frozen 6
  have b7 := hbox.cell 7
  have bf7 := hbox.frozen 7
  have b8 := hbox.cell 8
  have bf8 := hbox.frozen 8
  simp only [mC, tW, List.getElem?_toArray, List.getElem?_cons_zero, List.getElem?_cons_succ] at b1 b2 b3 b4 b5 b6 b7 b8
  have hlb := hbox.lt
  go_enter Try.func35, Try.ntmps35
  go_wp2_with fail
  go_end0
  obtain ⟨hb2, hk, hbu⟩ := box_all hg [(1, nlS), (2, .int .u64 0), (3, .int .u64 0), (4, .int .u64 0), (5, .int .u64 0), (6, .int .i64 0), (7, .int .i64 0), (8, nlS)] W _ hbox
  simp only [setAll, csAll, mC, tW, tk0, nlS, List.setIfInBounds_toArray, List.set_cons_succ, List.set_cons_zero] at hb2 hk hbu
  exact ⟨rfl, ⟨(.slice A0 [200, 0].length c0), nlS, nlS, hb2, (.slice A0 [200, 0].length c0), nlS, nlS, [], rfl, oi_kp h0 hk (by decide), OSns.nil _ _, rfl, oi_nil _ _, bd_of (by decide +kernel)⟩, hbu⟩
def m16 : Mt := ⟨[200, 0], [], ⟨(0, 0), (2, 2), 1, 2, [302, 301]⟩⟩
set_option maxHeartbeats 1600000 in
theorem do16 : Do 36 m16 := by
  rintro W B g ⟨v0, v1, v2, u0, u1, hbox, h0, h1, h2, hap, hg⟩
  obtain ⟨A0, c0, hv0⟩ := own_form h0
  obtain ⟨A1, c1, hv1⟩ := own_form h1.1
  obtain ⟨A2, c2, hv2⟩ := own_form h2
  subst hv0
  subst hv1
  subst hv2
  have HBX := Lib.hid hbox
  have HA0 := Lib.hid h0
  have HA1 := Lib.hid h1
  have HA2 := Lib.hid h2
  have b1 := hbox.cell 1
  have bf1 := hbox.frozen 1
  simp only [mC, tW, List.getElem?_toArray, List.getElem?_cons_zero, List.getElem?_cons_succ] at b1
  have hlb := hbox.lt
  obtain ⟨hb2, hk2, hbu2⟩ := box_all hg [(1, nlS)] W _ hbox
  go_enter Try.func36, Try.ntmps36
  go_wp2_with fail
  show Calls _ _ _ (setAll W g [(1, nlS)]) _
  obtain ⟨W1, hW1⟩ : ∃ z, setAll W g [(1, nlS)] = z := ⟨_, rfl⟩
  rw [hW1] at hb2 hk2 hbu2 ⊢
  clear hW1 b1 bf1 hlb
  refine (lguid_any 0 0 W1).mono ?_
  rintro e W2 ⟨rfl, hb3⟩
  have hbx3 := Blk.below hb2 hb3
  have hk3 : Kp 30 W1 W2 := Kp.of_below hb3
  have b2 := hbx3.cell 2
  have bf2 := hbx3.frozen 2
  have b3 := hbx3.cell 3
  have bf3 := hbx3.frozen 3
  simp only [mC, tW, csAll, List.setIfInBounds_toArray, List.set_cons_succ, List.set_cons_zero, List.getElem?_toArray, List.getElem?_cons_zero, List.getElem?_cons_succ] at b2 b3
  have hlb := hbx3.lt
  unfold gv
  dsimp only
  go_wp2_with fail
  go_end0
  obtain ⟨hb4, hk4, hbu4⟩ := box_all hg [(2, .int .u64 0), (3, .int .u64 0)] W2 _ hbx3
  simp only [setAll, csAll, mC, tW, tk0, nlS, List.setIfInBounds_toArray, List.set_cons_succ, List.set_cons_zero] at hb4 hk4 hbu4
  have hk := (hk2.trans hk3).trans hk4
  exact ⟨rfl, ⟨(.slice A0 [200, 0].length c0), nlS, (.slice A2 [302, 301].length c2), hb4, (.slice A0 [200, 0].length c0), nlS, (.slice A2 [302, 301].length c2), [], rfl, oi_kp h0 hk (by decide), OSns.nil _ _, rfl, oi_kp h2 hk (by decide), bd_of (by decide +kernel)⟩, hbu2.trans ((But.of_below hb3).trans hbu4 (fun i hi => .inl hi)) (fun i hi => .inl hi)⟩
def m18 : Mt := ⟨[], [sA, sB], ⟨(2, 1), (2, 2), 1, 2, [302, 301]⟩⟩
set_option maxHeartbeats 1600000 in
theorem do18 : Do 38 m18 := by
  rintro W B g ⟨v0, v1, v2, u0, u1, hbox, h0, h1, h2, hap, hg⟩
  obtain ⟨A0, c0, hv0⟩ := own_form h0
  obtain ⟨A1, c1, hv1⟩ := own_form h1.1
  obtain ⟨A2, c2, hv2⟩ := own_form h2
  subst hv0
  subst hv1
  subst hv2
  have b0 := hbox.cell 0
  have bf0 := hbox.frozen 0
  simp only [mC, tW, List.getElem?_toArray, List.getElem?_cons_zero, List.getElem?_cons_succ] at b0
  have hlb := hbox.lt
  go_enter Try.func38, Try.ntmps38
  go_wp2_with fail
  go_end0
  obtain ⟨hb2, hk, hbu⟩ := box_all hg [(0, nlS)] W _ hbox
  simp only [setAll, csAll, mC, tW, tk0, nlS, List.setIfInBounds_toArray, List.set_cons_succ, List.set_cons_zero] at hb2 hk hbu
  exact ⟨rfl, ⟨nlS, (.slice A1 [(sA, u0), (sB, u1)].length c1), (.slice A2 [302, 301].length c2), hb2, nlS, (.slice A1 [(sA, u0), (sB, u1)].length c1), (.slice A2 [302, 301].length c2), [(sA, u0), (sB, u1)], rfl, oi_nil _ _, h1.kp hk (by decide) (by decide), rfl, oi_kp h2 hk (by decide), bd_of (by decide +kernel)⟩, hbu⟩
def m5 : Mt := ⟨[200, 0], [⟨(1, 1), [], true⟩, sB], ⟨(2, 1), (2, 2), 1, 2, [302, 301]⟩⟩
set_option maxHeartbeats 1600000 in
theorem do5 : Do 25 m5 := by
  rintro W B g ⟨v0, v1, v2, u0, u1, hbox, h0, h1, h2, hap, hg⟩
  obtain ⟨js, cr, rfl, hjs, ⟨css, hcss⟩, hrow⟩ := osn_open h1 (by simp)
  have r2 := (hrow 2 _ rfl).1
  have rf2 := (hrow 2 _ rfl).2
  have hlr := hcss.lt
  obtain ⟨Au, cu, hu0⟩ := own_form (h1.2 (sA, u0) (by simp))
  dsimp only at hu0
  subst hu0
  have b1 := hbox.cell 1
  have bf1 := hbox.frozen 1
  simp only [mC, tW, List.getElem?_toArray, List.getElem?_cons_zero, List.getElem?_cons_succ] at b1
  have hlb := hbox.lt
  go_enter Try.func25, Try.ntmps25
  go_wp2_with fail
  go_end0
  have hk := Kp.of_set 2 nlS hcss
  have hrw := row_set h1.1 2 nlS
  refine ⟨rfl, ⟨v0, .slice (some ⟨js, 0, none⟩) [(sA, Value.slice Au sA.img.length cu), (sB, u1)].length cr, v2, hk _ _ _ (by decide) hbox, v0, .slice (some ⟨js, 0, none⟩) [(sA, Value.slice Au sA.img.length cu), (sB, u1)].length cr, v2, [(⟨(1, 1), [], true⟩, nlS), (sB, u1)], rfl, oi_kp h0 hk (by decide), ⟨hrw, fun x hx => ?_⟩, rfl, oi_kp h2 hk (by decide), bd_of (by decide +kernel)⟩, (But.refl _ W).setCell ⟨js, 2, none⟩ nlS (.inl hjs)⟩
  simp only [List.mem_cons, List.not_mem_nil, or_false] at hx
  rcases hx with rfl | rfl
  · exact oi_nil _ _
  · exact oi_kp (h1.2 (sB, u1) (by simp)) hk (by decide)
def D2G (g js cr : Nat) : Nat → Value → World → Prop
  | 0, v, _ => v = .pointer (some ⟨g, 0, none⟩)
  | 1, v, _ => v = .pointer (some ⟨g, 0, none⟩)
  | 2, v, _ => v = .pointer (some ⟨g, 1, none⟩)
  | 3, v, _ => v = .slice (some ⟨js, 0, none⟩) 2 cr
  | 4, v, _ => v = .agg #[.int .u64 0, .int .u64 0]
  | 5, v, _ => v = .pointer (some ⟨js, 0, none⟩)
  | 6, v, _ => v = .pointer (some ⟨js, 0, none⟩)
  | _, _, _ => True
theorem D2G_mono (g js cr : Nat) (i : Nat) (v : Value) (w w' : World) (hi : i < 7) (h : D2G g js cr i v w) (hb : Below w.heap.size w w') : D2G g js cr i v w' := by
  match i, hi, h with
  | 0, _, h | 1, _, h | 2, _, h | 3, _, h | 4, _, h | 5, _, h | 6, _, h => exact h
  | j + 7, hi, _ => exact absurd hi (by omega)
def m2 : Mt := ⟨[200, 0], [⟨(0, 0), [0, 0], true⟩, sB], ⟨(2, 1), (2, 2), 1, 2, [302, 301]⟩⟩
set_option maxHeartbeats 1600000 in
theorem do2 : Do 22 m2 := by
  rintro W0 B g ⟨v0, v1, v2, u0, u1, hbox, h0, h1, h2, hap, hg⟩
  obtain ⟨js, cr, rfl, hjs, ⟨css, hcss⟩, hrow⟩ := osn_open h1 (by simp)
  go_enter Try.func22, Try.ntmps22
  go_wp2_with fail
  refine wp_region_pre (by kernel_rfl) 7 [2, 3, 4, 5, 6, 7, 8] (by kernel_rfl) (fun L vs W => Below W0.heap.size W0 W ∧ ∀ i, L i = true → i < 7 → D2G g js cr i (vs i) W) ⟨(Below.refl _ _).drew, fun i hi => by cases hi⟩ ?_ ?_
  · intro i o L vs ρ W hi51 ho hli haft hρ hI
    obtain ⟨hb, hG'⟩ := hI
    have hG : ∀ j, L j = true → D2G g js cr j (vs j) W := fun j hj => by
      by_cases h51 : j < 7
      · exact hG' j hj h51
      · match j, h51 with
        | j + 7, _ => exact trivial
    have hc := hρ.const
    have hfn := hρ.fn
    have next : ∀ v W', Below W.heap.size W W' → D2G g js cr i v W' → Below W0.heap.size W0 W' ∧ ∀ j, updB L i j = true → j < 7 → D2G g js cr j (updV vs i v j) W' := fun v W' h1 h2 => by
      refine ⟨below_step hb h1, fun j hj h51 => ?_⟩
      by_cases hji : j = i
      · subst hji
        simpa [updV] using h2
      · simp only [updB, if_neg hji] at hj
        simpa [updV, hji] using D2G_mono g js cr j _ W W' h51 (hG' j hj h51) h1
    have hbX := hbox.below hb
    have x1 := hbX.cell 1
    have hlx := hbX.lt
    have hcX := hcss.below hb
    have hlc := hcX.lt
    simp only [mC, List.getElem?_toArray, List.getElem?_cons_zero, List.getElem?_cons_succ] at x1
    rcases i with _ | _ | _ | _ | _ | _ | _ | i
    all_goals (first | omega | skip)
    all_goals simp only [List.getElem?_toArray, List.getElem?_cons_zero, List.getElem?_cons_succ, Option.some.injEq] at ho
    all_goals subst ho
    · have o0 : ρ (.tmp 0) = .pointer (some ⟨g, 0, none⟩) := hρ.out 0 rfl
      exact stepTo_value (w' := W) (by unfold execOp; simp only [o0, hc]; go_simp) (next _ _ (Below.refl _ _) rfl)
    · have g2 : D2G g js cr 0 (vs 0) W := hG 0 (haft 0 (by kernel_rfl))
      have s2 : ρ (.tmp 2) = .pointer (some ⟨g, 0, none⟩) := (hρ.at_ 2 0 rfl).trans g2
      exact stepTo_value (w' := W) (by unfold execOp; simp only [s2, hc]; go_simp) (next _ _ (Below.refl _ _) rfl)
    · have g3 : D2G g js cr 1 (vs 1) W := hG 1 (haft 1 (by kernel_rfl))
      have s3 : ρ (.tmp 3) = .pointer (some ⟨g, 0, none⟩) := (hρ.at_ 3 1 rfl).trans g3
      exact stepTo_value (w' := W) (by unfold execOp; simp only [s3, hc]; go_simp) (next _ _ (Below.refl _ _) rfl)
    · have g4 : D2G g js cr 2 (vs 2) W := hG 2 (haft 2 (by kernel_rfl))
      have s4 : ρ (.tmp 4) = .pointer (some ⟨g, 1, none⟩) := (hρ.at_ 4 2 rfl).trans g4
      exact stepTo_value (w' := W) (by unfold execOp; simp only [s4, hc]; go_simp) (next _ _ (Below.refl _ _) rfl)
    · refine stepTo_enter (f := 19) (args := #[.int .u64 0, .int .u64 0]) (w' := W) (by unfold execOp; simp only [hfn, ]; go_simp) ((lguid_any 0 0 W).mono ?_)
      rintro x W' ⟨rfl, hb'⟩
      exact ⟨_, rfl, next _ _ hb' rfl⟩
    · have g5 : D2G g js cr 3 (vs 3) W := hG 3 (haft 3 (by kernel_rfl))
      have s5 : ρ (.tmp 5) = .slice (some ⟨js, 0, none⟩) 2 cr := (hρ.at_ 5 3 rfl).trans g5
      exact stepTo_value (w' := W) (by unfold execOp; simp only [s5, hc]; go_simp) (next _ _ (Below.refl _ _) rfl)
    · have g7 : D2G g js cr 5 (vs 5) W := hG 5 (haft 5 (by kernel_rfl))
      have s7 : ρ (.tmp 7) = .pointer (some ⟨js, 0, none⟩) := (hρ.at_ 7 5 rfl).trans g7
      exact stepTo_value (w' := W) (by unfold execOp; simp only [s7, hc]; go_simp) (next _ _ (Below.refl _ _) rfl)
  · intro L vs W hL hI
    obtain ⟨hb, hG⟩ := hI
    have g4 : vs 4 = .agg #[.int .u64 0, .int .u64 0] := hG 4 (hL 4 (by decide)) (by decide)
    have g6 : vs 6 = .pointer (some ⟨js, 0, none⟩) := hG 6 (hL 6 (by decide)) (by decide)
    have hbx := hbox.below hb
    have hcs := hcss.below hb
    have hs := h1.below hb
    have h0b := oi_below h0 hb
    have h2b := oi_below h2 hb
    have r0 := (Below.cell hb (p := ⟨js, 0, none⟩) hcss.lt).trans (hrow 0 _ rfl).1
    have r1 := (Below.cell hb (p := ⟨js, 1, none⟩) hcss.lt).trans (hrow 1 _ rfl).1
    have rf0 := hcs.frozen 0
    have rf1 := hcs.frozen 1
    have hlc := hcs.lt
    simp only [putList, putSel, if_true]
    rw [g4, g6]
    generalize vs 0 = z0
    generalize vs 1 = z1
    generalize vs 2 = z2
    generalize vs 3 = z3
    generalize vs 5 = z5
    clear g4 g6 hG hL
    simp only [Act.put, List.setIfInBounds_toArray, List.set_cons_succ, List.set_cons_zero]
    refine wpAny_one (i := 7) (by kernel_rfl) rfl rfl ?_
    go_simp
    refine ⟨by kernel_rfl, ?_⟩
    go_wp2_with fail
    go_end0
    have hk := (Kp.of_set 0 (.int .u64 0) hcs).trans (Kp.of_set 1 (.int .u64 0) (hcs.set_ 0 (.int .u64 0)))
    have hrw := row_set (row_set hs.1 0 (.int .u64 0)) 1 (.int .u64 0)
    refine ⟨rfl, ⟨v0, .slice (some ⟨js, 0, none⟩) [(sA, u0), (sB, u1)].length cr, v2, hk _ _ _ (by decide) hbx, v0, .slice (some ⟨js, 0, none⟩) [(sA, u0), (sB, u1)].length cr, v2, [(⟨(0, 0), [0, 0], true⟩, u0), (sB, u1)], rfl, oi_kp h0b hk (by decide), ⟨hrw, fun x hx => ?_⟩, rfl, oi_kp h2b hk (by decide), bd_of (by decide +kernel)⟩, ((But.of_below hb).setCell ⟨js, 0, none⟩ (.int .u64 0) (.inl hjs)).setCell ⟨js, 1, none⟩ (.int .u64 0) (.inl hjs)⟩
    simp only [List.mem_cons, List.not_mem_nil, or_false] at hx
    rcases hx with rfl | rfl
    · exact oi_kp (hs.2 (sA, u0) (by simp)) hk (by decide)
    · exact oi_kp (hs.2 (sB, u1) (by simp)) hk (by decide)
def D3G (g js cr : Nat) : Nat → Value → World → Prop
  | 0, v, _ => v = .pointer (some ⟨g, 0, none⟩)
  | 1, v, _ => v = .pointer (some ⟨g, 0, none⟩)
  | 2, v, _ => v = .pointer (some ⟨g, 1, none⟩)
  | 3, v, _ => v = .slice (some ⟨js, 0, none⟩) 2 cr
  | 4, v, _ => v = .agg #[.int .u64 1, .int .u64 1]
  | 5, v, _ => v = .pointer (some ⟨js, 4, none⟩)
  | 6, v, _ => v = .pointer (some ⟨js, 4, none⟩)
  | _, _, _ => True
theorem D3G_mono (g js cr : Nat) (i : Nat) (v : Value) (w w' : World) (hi : i < 7) (h : D3G g js cr i v w) (hb : Below w.heap.size w w') : D3G g js cr i v w' := by
  match i, hi, h with
  | 0, _, h | 1, _, h | 2, _, h | 3, _, h | 4, _, h | 5, _, h | 6, _, h => exact h
  | j + 7, hi, _ => exact absurd hi (by omega)
def m3 : Mt := ⟨[200, 0], [sA, ⟨(1, 1), [300, 301], false⟩], ⟨(2, 1), (2, 2), 1, 2, [302, 301]⟩⟩
set_option maxHeartbeats 1600000 in
theorem do3 : Do 23 m3 := by
  rintro W0 B g ⟨v0, v1, v2, u0, u1, hbox, h0, h1, h2, hap, hg⟩
  obtain ⟨js, cr, rfl, hjs, ⟨css, hcss⟩, hrow⟩ := osn_open h1 (by simp)
  go_enter Try.func23, Try.ntmps23
  go_wp2_with fail
  refine wp_region_pre (by kernel_rfl) 7 [2, 3, 4, 5, 6, 7, 8] (by kernel_rfl) (fun L vs W => Below W0.heap.size W0 W ∧ ∀ i, L i = true → i < 7 → D3G g js cr i (vs i) W) ⟨(Below.refl _ _).drew, fun i hi => by cases hi⟩ ?_ ?_
  · intro i o L vs ρ W hi51 ho hli haft hρ hI
    obtain ⟨hb, hG'⟩ := hI
    have hG : ∀ j, L j = true → D3G g js cr j (vs j) W := fun j hj => by
      by_cases h51 : j < 7
      · exact hG' j hj h51
      · match j, h51 with
        | j + 7, _ => exact trivial
    have hc := hρ.const
    have hfn := hρ.fn
    have next : ∀ v W', Below W.heap.size W W' → D3G g js cr i v W' → Below W0.heap.size W0 W' ∧ ∀ j, updB L i j = true → j < 7 → D3G g js cr j (updV vs i v j) W' := fun v W' h1 h2 => by
      refine ⟨below_step hb h1, fun j hj h51 => ?_⟩
      by_cases hji : j = i
      · subst hji
        simpa [updV] using h2
      · simp only [updB, if_neg hji] at hj
        simpa [updV, hji] using D3G_mono g js cr j _ W W' h51 (hG' j hj h51) h1
    have hbX := hbox.below hb
    have x1 := hbX.cell 1
    have hlx := hbX.lt
    have hcX := hcss.below hb
    have hlc := hcX.lt
    simp only [mC, List.getElem?_toArray, List.getElem?_cons_zero, List.getElem?_cons_succ] at x1
    rcases i with _ | _ | _ | _ | _ | _ | _ | i
    all_goals (first | omega | skip)
    all_goals simp only [List.getElem?_toArray, List.getElem?_cons_zero, List.getElem?_cons_succ, Option.some.injEq] at ho
    all_goals subst ho
    · have o0 : ρ (.tmp 0) = .pointer (some ⟨g, 0, none⟩) := hρ.out 0 rfl
      exact stepTo_value (w' := W) (by unfold execOp; simp only [o0, hc]; go_simp) (next _ _ (Below.refl _ _) rfl)
    · have g2 : D3G g js cr 0 (vs 0) W := hG 0 (haft 0 (by kernel_rfl))
      have s2 : ρ (.tmp 2) = .pointer (some ⟨g, 0, none⟩) := (hρ.at_ 2 0 rfl).trans g2
      exact stepTo_value (w' := W) (by unfold execOp; simp only [s2, hc]; go_simp) (next _ _ (Below.refl _ _) rfl)
    · have g3 : D3G g js cr 1 (vs 1) W := hG 1 (haft 1 (by kernel_rfl))
      have s3 : ρ (.tmp 3) = .pointer (some ⟨g, 0, none⟩) := (hρ.at_ 3 1 rfl).trans g3
      exact stepTo_value (w' := W) (by unfold execOp; simp only [s3, hc]; go_simp) (next _ _ (Below.refl _ _) rfl)
    · have g4 : D3G g js cr 2 (vs 2) W := hG 2 (haft 2 (by kernel_rfl))
      have s4 : ρ (.tmp 4) = .pointer (some ⟨g, 1, none⟩) := (hρ.at_ 4 2 rfl).trans g4
      exact stepTo_value (w' := W) (by unfold execOp; simp only [s4, hc]; go_simp) (next _ _ (Below.refl _ _) rfl)
    · refine stepTo_enter (f := 19) (args := #[.int .u64 1, .int .u64 1]) (w' := W) (by unfold execOp; simp only [hfn, ]; go_simp) ((lguid_any 1 1 W).mono ?_)
      rintro x W' ⟨rfl, hb'⟩
      exact ⟨_, rfl, next _ _ hb' rfl⟩
    · have g5 : D3G g js cr 3 (vs 3) W := hG 3 (haft 3 (by kernel_rfl))
      have s5 : ρ (.tmp 5) = .slice (some ⟨js, 0, none⟩) 2 cr := (hρ.at_ 5 3 rfl).trans g5
      exact stepTo_value (w' := W) (by unfold execOp; simp only [s5, hc]; go_simp) (next _ _ (Below.refl _ _) rfl)
    · have g7 : D3G g js cr 5 (vs 5) W := hG 5 (haft 5 (by kernel_rfl))
      have s7 : ρ (.tmp 7) = .pointer (some ⟨js, 4, none⟩) := (hρ.at_ 7 5 rfl).trans g7
      exact stepTo_value (w' := W) (by unfold execOp; simp only [s7, hc]; go_simp) (next _ _ (Below.refl _ _) rfl)
  · intro L vs W hL hI
    obtain ⟨hb, hG⟩ := hI
    have g4 : vs 4 = .agg #[.int .u64 1, .int .u64 1] := hG 4 (hL 4 (by decide)) (by decide)
    have g6 : vs 6 = .pointer (some ⟨js, 4, none⟩) := hG 6 (hL 6 (by decide)) (by decide)
    have hbx := hbox.below hb
    have hcs := hcss.below hb
    have hs := h1.below hb
    have h0b := oi_below h0 hb
    have h2b := oi_below h2 hb
    have r0 := (Below.cell hb (p := ⟨js, 4, none⟩) hcss.lt).trans (hrow 4 _ rfl).1
    have r1 := (Below.cell hb (p := ⟨js, 5, none⟩) hcss.lt).trans (hrow 5 _ rfl).1
    have rf0 := hcs.frozen 4
    have rf1 := hcs.frozen 5
    have hlc := hcs.lt
    simp only [putList, putSel, if_true]
    rw [g4, g6]
    generalize vs 0 = z0
    generalize vs 1 = z1
    generalize vs 2 = z2
    generalize vs 3 = z3
    generalize vs 5 = z5
    clear g4 g6 hG hL
    simp only [Act.put, List.setIfInBounds_toArray, List.set_cons_succ, List.set_cons_zero]
    refine wpAny_one (i := 7) (by kernel_rfl) rfl rfl ?_
    go_simp
    refine ⟨by kernel_rfl, ?_⟩
    go_wp2_with fail
    go_end0
    have hk := (Kp.of_set 4 (.int .u64 1) hcs).trans (Kp.of_set 5 (.int .u64 1) (hcs.set_ 4 (.int .u64 1)))
    have hrw := row_set (row_set hs.1 4 (.int .u64 1)) 5 (.int .u64 1)
    refine ⟨rfl, ⟨v0, .slice (some ⟨js, 0, none⟩) [(sA, u0), (sB, u1)].length cr, v2, hk _ _ _ (by decide) hbx, v0, .slice (some ⟨js, 0, none⟩) [(sA, u0), (sB, u1)].length cr, v2, [(sA, u0), (⟨(1, 1), [300, 301], false⟩, u1)], rfl, oi_kp h0b hk (by decide), ⟨hrw, fun x hx => ?_⟩, rfl, oi_kp h2b hk (by decide), bd_of (by decide +kernel)⟩, ((But.of_below hb).setCell ⟨js, 4, none⟩ (.int .u64 1) (.inl hjs)).setCell ⟨js, 5, none⟩ (.int .u64 1) (.inl hjs)⟩
    simp only [List.mem_cons, List.not_mem_nil, or_false] at hx
    rcases hx with rfl | rfl
    · exact oi_kp (hs.2 (sA, u0) (by simp)) hk (by decide)
    · exact oi_kp (hs.2 (sB, u1) (by simp)) hk (by decide)
def z21 : List OSn := List.replicate 21 (⟨(0, 0), [], false⟩, nlS)
theorem z21_cells : madeCells #[.int .u64 0, .int .u64 0, .slice none 0 0, .bool false] 84 = (spRow z21).toArray := by kernel_rfl
theorem make_21 (W : World) : (Instr.makeSlice 23 (.int .i64 21) (.int .i64 21)).run Try.prog W = .ok (.slice (some ⟨W.heap.size, 0, none⟩) 21 21) (W.alloc (.cells (spRow z21).toArray 48)) := by
  obtain ⟨i0, hi, hz0, hz1, hz2⟩ := info_parts infoSp
  have hmk := run_make (P := Try.prog) W 23 48 i0 (.agg #[.int .u64 0, .int .u64 0, .slice none 0 0, .bool false]) Try.underlying23 hi hz0 .i64 .i64 21 21 (by decide) (Int.le_refl _) (by rw [hz2]; omega) (by omega)
  rw [hz1] at hmk
  rw [← z21_cells]
  simpa [Value.cells] using hmk
def m17 : Mt := ⟨[200, 0], (List.replicate 21 ⟨(0, 0), [], false⟩), ⟨(2, 1), (2, 2), 1, 2, [302, 301]⟩⟩
set_option maxHeartbeats 1600000 in
theorem do17 : Do 37 m17 := by
  rintro W B g ⟨v0, v1, v2, u0, u1, hbox, h0, h1, h2, hap, hg⟩
  have hmk := make_21 W
  have hbb := (Below.refl _ W).alloc (Nat.le_refl _) (.cells (spRow z21).toArray 48)
  have hbn := Blk.new W 48 (spRow z21).toArray
  have hBW : B ≤ W.heap.size := by have := hbox.lt; omega
  obtain ⟨W1, hW1⟩ : ∃ z, W.alloc (.cells (spRow z21).toArray 48) = z := ⟨_, rfl⟩
  rw [hW1] at hmk hbb hbn
  have hbx := hbox.below hbb
  have b1 := hbx.cell 1
  have bf1 := hbx.frozen 1
  simp only [mC, tW, List.getElem?_toArray, List.getElem?_cons_zero, List.getElem?_cons_succ] at b1
  have hlb := hbx.lt
  obtain ⟨A1, c1, hv1⟩ := own_form h1.1
  subst hv1
  go_enter Try.func37, Try.ntmps37
  go_wp2_with fail
  go_end0
  have hos : OSns W1 B (.slice (some ⟨W.heap.size, 0, none⟩) 21 21) z21 := osn_blk hbn hBW (by decide) (fun x hx => by
    obtain rfl := List.eq_of_mem_replicate hx
    exact oi_nil _ _)
  obtain ⟨hb2, hk, hbu⟩ := box_all hg [(1, .slice (some ⟨W.heap.size, 0, none⟩) 21 21)] W1 _ hbx
  simp only [setAll, csAll, mC, tW, tk0, nlS, List.setIfInBounds_toArray, List.set_cons_succ, List.set_cons_zero] at hb2 hk hbu
  exact ⟨rfl, ⟨v0, .slice (some ⟨W.heap.size, 0, none⟩) 21 21, v2, hb2, v0, .slice (some ⟨W.heap.size, 0, none⟩) 21 21, v2, z21, rfl, oi_kp (oi_below h0 hbb) hk (by decide), hos.kp hk (by decide) (by decide), by decide, oi_kp (oi_below h2 hbb) hk (by decide), bd_of (by decide +kernel)⟩, (But.of_below hbb).trans hbu (fun i hi => .inl hi)⟩

end Go.Proofs.Ytklmgdiaianlbaa.mt


/- ChLst, StMem, StAb, StMay, StRMay, StChk, WiShelf, ShBuilder, WiPut, WiPutT, StKe. -/
import Derived.Test.YtdpbdkacngaemaaDoorQ0
import Derived.Test.YtdpbdkacngaemaaDoorQ1
import Derived.LoopTactic
import Derived.Laws.AppendOwn
import Derived.Laws.StructEq
import Derived.Laws.Cover2
import Derived.KernelRfl
import Derived.Lib.QuietBelow
import Derived.Deep.QuietTactic
import Derived.BigQuiet
import Derived.Deep.DeepCutAuto
import Derived.Shelf.Strconv.Itoa0
import Derived.Test.YtdpbdkacngaemaaDoorProg
import Derived.Shelf.Strings.Builder1
import Derived.WalkKit
import Derived.WalkSpells
import Derived.WalkLawsBesides
import Derived.BigCall
import Derived.Lib.Hide
import Derived.RangeFuncNested
import Derived.RangeFuncBound
import Derived.RangeFuncCalls
import Derived.RangeFuncLeaves
import Derived.Shelf.Abstract
import Derived.Shelf.RegionOpen
import Derived.Shelf.Strings.BuilderK
import Derived.OwnWalkIn
import Derived.TacticsInMore
import Derived.LoopNIn
import Derived.LoopIn
set_option linter.unusedVariables false
set_option linter.unusedSimpArgs false
/- Lists of changes in memory: those that came, those that a call owns. -/
namespace Go.Proofs.YtdpbdkacngaemaaDoor.ch
open Go Go.RowKit Go.Proofs.YtdpbdkacngaemaaDoor.ib
set_option maxRecDepth 100000

theorem infoCh : (Tryd.prog.info? 46).map (fun i => (i.zero, i.size, i.bytes)) = some (some (.agg #[.int .i64 0, .string ByteArray.empty]), 2, 24) := by kernel_rfl
def chVals : List (Int × Bt) → List Value
  | [] => []
  | x :: r => .int .i64 x.1 :: .string (str x.2) :: chVals r
def OChs (w : World) (B : Nat) (v : Value) (l : List (Int × Bt)) : Prop := w.ownsRow B 46 2 v l.length (chVals l)

theorem chVals_append : ∀ (l r : List (Int × Bt)), chVals (l ++ r) = chVals l ++ chVals r
  | [], _ => rfl
  | x :: l, r => by simp [chVals, chVals_append l r]
theorem chVals_len : ∀ l : List (Int × Bt), (chVals l).length = l.length * 2
  | [] => rfl
  | x :: l => by simp [chVals, chVals_len l]; omega
theorem chVals_get : ∀ (l : List (Int × Bt)) (i : Nat) (h : i < l.length), (chVals l)[i * 2]? = some (.int .i64 l[i].1) ∧ (chVals l)[i * 2 + 1]? = some (.string (str l[i].2))
  | x :: l, 0, _ => ⟨rfl, rfl⟩
  | x :: l, i + 1, h => by
    have := chVals_get l i (by simpa using h)
    rw [show (i + 1) * 2 = i * 2 + 1 + 1 from by omega]
    exact this

theorem OChs.view {w : World} {B : Nat} {v : Value} {l : List (Int × Bt)} (h : OChs w B v l) (hz : ∀ x ∈ l, b64 x.1) : ∃ a c, v = .slice a l.length c ∧ ChL w a l := by
  rcases h.2 with ⟨rfl, h0⟩ | ⟨g, cap, cur, rfl, hg, hh, hcc, hm, hcs, hcur⟩
  · obtain rfl : l = [] := List.length_eq_zero_iff.1 h0
    exact ⟨none, 0, rfl, fun i h => by simp at h⟩
  · refine ⟨some ⟨g, 0, none⟩, cap, rfl, fun i hi => ?_⟩
    have key : ∀ (j : Nat) (u : Value), (chVals l)[j]? = some u → w.cell? ⟨g, j, none⟩ = some u := by
      intro j u hu
      rw [cell_of_row w g j cur 46 (0, 0) hh]
      rw [← hcur, List.getElem?_take] at hu
      split at hu
      · simpa using hu
      · cases hu
    obtain ⟨g0, g1⟩ := chVals_get l i hi
    exact ⟨g, 0, rfl, (Array.getElem?_eq_some_iff.1 hh).1, by rw [Nat.zero_add]; exact key _ _ g0, by rw [Nat.zero_add]; exact key _ _ g1, hz _ (List.getElem_mem hi)⟩

theorem two_one (x : Int × Bt) : ∀ u ∈ ([Value.int .i64 x.1, .string (str x.2)] : List Value), u.oneCell' = true := by
  intro u hu
  simp at hu
  rcases hu with rfl | rfl <;> rfl

theorem news_two (w : World) (t : TypeId) (v u : Value) : ∀ (j : Nat) (x : Value), ([v, u] : List Value)[j]? = some x → (w.alloc (.cells #[v, u] t)).cell? ((⟨w.heap.size, 0, none⟩ : Addr).add j) = some x := by
  intro j x hj
  match j, hj with
  | 0, hj =>
    simp at hj
    subst hj
    rw [addr_add]
    exact (Blk.new w t #[v, u]).cell 0
  | 1, hj =>
    simp at hj
    subst hj
    rw [addr_add]
    exact (Blk.new w t #[v, u]).cell 1

theorem OChs.snoc {w1 : World} {B : Nat} {v' : Value} {l : List (Int × Bt)} {x : Int × Bt} (h : w1.ownsRow B 46 2 v' (l.length + 1) (chVals l ++ [.int .i64 x.1, .string (str x.2)])) : OChs w1 B v' (l ++ [x]) := by
  unfold OChs
  rw [List.length_append, chVals_append]
  exact h

theorem ochs_base {w : World} {B C : Nat} {v : Value} {l : List (Int × Bt)} (h : OChs w B v l) (hc : C ≤ B) : OChs w C v l := by
  refine ⟨h.1, ?_⟩
  rcases h.2 with hn | ⟨g, cap, cur, hv, hb, rest⟩
  · exact .inl hn
  · exact .inr ⟨g, cap, cur, hv, Nat.le_trans hc hb, rest⟩

def okChs (l : List (Int × Bt)) (w : World) (e : Ending) (w' : World) : Prop := ∃ v, e = .returned v ∧ OChs w' w.heap.size v l ∧ Below w.heap.size w w'
theorem OChs.view2 {w : World} {B : Nat} {v : Value} {l : List (Int × Bt)} (h : OChs w B v l) (hz : ∀ x ∈ l, b64 x.1) : ∃ a c, v = .slice a l.length c ∧ ChL w a l ∧ ∀ b o, a = some ⟨b, o, none⟩ → B ≤ b ∧ b < w.heap.size := by
  obtain ⟨a, c, hv, hl⟩ := h.view hz
  refine ⟨a, c, hv, hl, fun b o e => ?_⟩
  rcases h.2 with ⟨rfl, _⟩ | ⟨g, cap, cur, rfl, hg, hh, _⟩
  · simp only [Value.slice.injEq] at hv
    rw [e] at hv
    cases hv.1
  · simp only [Value.slice.injEq] at hv
    rw [e] at hv
    obtain ⟨h1, _⟩ := hv
    simp only [Option.some.injEq, Addr.mk.injEq, and_true] at h1
    obtain ⟨rfl, _⟩ := h1
    exact ⟨hg, (Array.getElem?_eq_some_iff.1 hh).1⟩
end Go.Proofs.YtdpbdkacngaemaaDoor.ch

/- Parts in memory, by value; two changes alike. -/
namespace Go.Proofs.YtdpbdkacngaemaaDoor.st
open Go Go.RowKit Go.Proofs.YtdpbdkacngaemaaDoor.ib Go.Proofs.YtdpbdkacngaemaaDoor.wi Go.Proofs.YtdpbdkacngaemaaDoor.mt
open Go.Proofs.YtdpbdkacngaemaaDoor.ch (ChL OChs chVals infoCh)
set_option maxRecDepth 100000

@[go_sem] theorem eq_chg (a c : Int) (b d : ByteArray) (w : World) : (Op.equalIn 10000 46 (.agg #[.int .i64 a, .string b]) (.agg #[.int .i64 c, .string d])).run Tryd.prog w = .ok (a == c && b.toList == d.toList) w := by
  have u3 := Tryd.underlying3
  have a3 := Tryd.isAgg3
  have z3 := Tryd.sizeOf3
  have u4 := Tryd.underlying9
  have a4 := Tryd.isAgg9
  have z4 := Tryd.sizeOf9
  rw [show (10000 : Nat) = 9999 + 1 from rfl, run_equalIn_agg w 9999 46 _ _ (by kernel_rfl) (by kernel_rfl)]
  simp only [Program.fieldsOf, Tryd.underlying46]
  go_simp
  by_cases h1 : a = c <;> by_cases h2 : b.toList = d.toList <;> simp [h1, h2]
theorem chg_eq (x y : Ch) : (x.1 == y.1 && (str x.2).toList == (str y.2).toList) = decide (x = y) := by
  obtain ⟨a, b⟩ := x
  obtain ⟨c, d⟩ := y
  rw [beq_bl, bl_str, Bool.eq_iff_iff]
  simp

abbrev pt (b : Nat) : Value := .pointer (some ⟨b, 0, none⟩)
def chC (c : Ch) : Array Value := #[.int .i64 c.1, .string (str c.2)]
def paC (p : Pa) (A : Option Addr) (c : Nat) : Array Value := #[.int .u64 (p.base.1 : Int), .int .u64 (p.base.2 : Int), .int .u64 (p.target.1 : Int), .int .u64 (p.target.2 : Int), .int .i64 p.fr, .int .i64 p.all, .slice A p.chs.length c]
structure PaL (w : World) (A : Option Addr) (c : Nat) (p : Pa) : Prop where
  chs : ChL w A p.chs
  base : gdB p.base
  target : gdB p.target
  fr : b64 p.fr
  all : b64 p.all
theorem PaL.below {w w' : World} {A : Option Addr} {c : Nat} {p : Pa} (h : PaL w A c p) (hb : Below w.heap.size w w') : PaL w' A c p := ⟨h.chs.below hb, h.base, h.target, h.fr, h.all⟩
/-- A part by value. -/
def PaAt (w : World) (v : Value) (p : Pa) : Prop := ∃ A c, v = .agg (paC p A c) ∧ PaL w A c p
theorem PaAt.below {w w' : World} {v : Value} {p : Pa} (h : PaAt w v p) (hb : Below w.heap.size w w') : PaAt w' v p := by
  obtain ⟨A, c, h1, h2⟩ := h
  exact ⟨A, c, h1, h2.below hb⟩
/-- Its data are of some size. -/
structure paS (p : Pa) : Prop where
  few : p.chs.length ≤ 1000
  thin : ∀ c ∈ p.chs, c.2.length ≤ 1000000
/-- A part, and an error. -/
def endP (r : Pa × Int) (w : World) (e : Ending) (w' : World) : Prop := ∃ A c, e = .returned (.tuple #[.agg (paC r.1 A c), .int .i64 r.2]) ∧ PaL w' A c r.1 ∧ NewA w w' A ∧ Below w.heap.size w w'
def endS (r : List UInt8 × Int) (w : World) (e : Ending) (w' : World) : Prop := e = .returned (.tuple #[.string (str r.1), .int .i64 r.2]) ∧ Below w.heap.size w w'
theorem gdB0 : gdB ((0, 0) : Gd) := ⟨by decide, by decide⟩
theorem pal0 (w : World) : PaL w none 0 pa0 := ⟨ChL.nil _ _, gdB0, gdB0, by unfold b64 pa0; decide, by unfold b64 pa0; decide⟩
end Go.Proofs.YtdpbdkacngaemaaDoor.st

/- Is a guid above another one: the program's, and the document's. -/
namespace Go.Proofs.YtdpbdkacngaemaaDoor.st
open Go Go.RowKit Go.Sort Go.Proofs.YtdpbdkacngaemaaDoor.ib Go.Proofs.YtdpbdkacngaemaaDoor.wi Go.Proofs.YtdpbdkacngaemaaDoor.mt
open Go.Proofs.YtdpbdkacngaemaaDoor.ch (ChL OChs chVals infoCh)
set_option maxRecDepth 100000

set_option maxHeartbeats 1600000 in
theorem above_any (a b : Gd) (w : World) : Calls Tryd.prog 28 #[gv a, gv b] w (endB (above a b) w) := by
  obtain ⟨a1, a2⟩ := a
  obtain ⟨b1, b2⟩ := b
  have HR : Hid (above (a1, a2) (b1, b2) = (decide ((b1 : Int) < (a1 : Int)) || (decide ((a1 : Int) = (b1 : Int)) && decide ((b2 : Int) < (a2 : Int))))) := by
    unfold Hid above
    simp [Int.ofNat_inj]
  show Calls Tryd.prog 28 #[.agg #[.int .u64 (a1 : Int), .int .u64 (a2 : Int)], .agg #[.int .u64 (b1 : Int), .int .u64 (b2 : Int)]] w _
  obtain ⟨r, hr⟩ : ∃ r, above (a1, a2) (b1, b2) = r := ⟨_, rfl⟩
  rw [hr] at HR ⊢
  generalize (a1 : Int) = x1 at *
  generalize (a2 : Int) = x2 at *
  generalize (b1 : Int) = y1 at *
  generalize (b2 : Int) = y2 at *
  clear hr
  have hB1 := (Below.refl w.heap.size w).alloc (Nat.le_refl _) (.cells #[.int .u64 x1, .int .u64 x2] 24)
  have HB := Lib.hid (hB1.alloc hB1.size (.cells #[.int .u64 y1, .int .u64 y2] 24))
  clear hB1
  by_cases h2 : x1 = y1
  · subst h2
    have hq : (x1 != x1) = false := by simp
    have HT : Hid (decide (y2 < x2) = r) := by unfold Hid; rw [HR.out]; simp
    clear HR
    go_enter Tryd.func28, Tryd.ntmps28
    go_wp2_with fail
    go_ret
    rw [← HT.out]
    exact ⟨rfl, HB.out⟩
  · have hq : (x1 != y1) = true := by simpa using h2
    have HT : Hid (decide (y1 < x1) = r) := by unfold Hid; rw [HR.out]; simp [h2]
    clear HR
    go_enter Tryd.func28, Tryd.ntmps28
    go_wp2_with fail
    go_ret
    rw [← HT.out]
    exact ⟨rfl, HB.out⟩
end Go.Proofs.YtdpbdkacngaemaaDoor.st

/- May changes be: the program's, by its closure, and the document's. -/
namespace Go.Proofs.YtdpbdkacngaemaaDoor.st
open Go Go.RowKit Go.Sort Go.Proofs.YtdpbdkacngaemaaDoor.ib Go.Proofs.YtdpbdkacngaemaaDoor.wi Go.Proofs.YtdpbdkacngaemaaDoor.mt
open Go.Proofs.YtdpbdkacngaemaaDoor.ch (ChL OChs chVals infoCh)
set_option maxRecDepth 100000

def fitB (k : Int) (c : Ch) : Bool := decide (k ≤ c.1) && decide (c.1 < 8) && decide (c.2.length = 32)
def leastF : Int → List Ch → Int
  | k, [] => k
  | _, c :: r => leastF (c.1 + 1) r
theorem mayF_snoc : ∀ (l : List Ch) (k : Int) (x : Ch), mayF k (l ++ [x]) = (mayF k l && fitB (leastF k l) x)
  | [], k, x => by
    show (fitB k x && true) = (true && fitB k x)
    rw [Bool.and_true, Bool.true_and]
  | c :: l, k, x => by
    have ih := mayF_snoc l (c.1 + 1) x
    simp only [List.cons_append, mayF, leastF, ih, Bool.and_assoc]
theorem leastF_snoc : ∀ (l : List Ch) (k : Int) (x : Ch), leastF k (l ++ [x]) = x.1 + 1
  | [], _, _ => rfl
  | c :: l, k, x => leastF_snoc l _ x
theorem mayF_app : ∀ (l r : List Ch) (k : Int), mayF k l = false → mayF k (l ++ r) = false
  | [], r, k, h => by cases h
  | c :: l, r, k, h => by
    simp only [List.cons_append, mayF] at h ⊢
    cases hc : (decide (k ≤ c.1) && decide (c.1 < 8) && decide (c.2.length = 32)) with
    | false => simp
    | true =>
      rw [hc, Bool.true_and] at h
      rw [mayF_app l r _ h]
      simp
theorem may_no {l : List Ch} {k : Nat} (h : may (l.take k) = false) : may l = false := by
  have := mayF_app (l.take k) (l.drop k) 0 h
  rwa [List.take_append_drop] at this
theorem may_snoc {l : List Ch} {k : Nat} (h : k < l.length) : may (l.take (k + 1)) = (may (l.take k) && fitB (leastF 0 (l.take k)) l[k]) := by
  unfold may
  rw [List.take_succ_eq_append_getElem h, mayF_snoc]

def FitPost (g : Nat) (k : Int) (c : Ch) (w : World) (e : Ending) (w' : World) : Prop :=
  e = .returned (.bool (fitB k c)) ∧ But (fun j => j = g) w w' ∧ (fitB k c = true → Blk w' g 3 #[.int .i64 (c.1 + 1)])
set_option maxHeartbeats 1600000 in
theorem fits_any (g : Nat) (k : Int) (c : Ch) (w : World) (hk : b64 k) (hc : b64 c.1) (h : Blk w g 3 #[.int .i64 k]) :
    Calls Tryd.prog 43 #[.agg #[.int .i64 c.1, .string (str c.2)], pt g] w (FitPost g k c w) := by
  obtain ⟨z, d⟩ := c
  have hz := str_size d
  have HPU : Hid (fitB k (z, d) = (decide (k ≤ z) && decide (z < 8) && decide (d.length = 32))) := rfl
  obtain ⟨r, hr⟩ : ∃ r, fitB k (z, d) = r := ⟨_, rfl⟩
  unfold FitPost
  rw [hr] at HPU ⊢
  clear hr
  dsimp only at hc ⊢
  obtain ⟨S, hS⟩ : ∃ S, str d = S := ⟨_, rfl⟩
  rw [hS] at hz ⊢
  clear hS
  unfold b64 at hc hk
  have hb := (Below.refl w.heap.size w).alloc (Nat.le_refl _) (.cells #[.int .i64 z, .string S] 46)
  have hx := Blk.new w 46 #[.int .i64 z, .string S]
  have hgl := h.lt
  have hg2 := h.below hb
  have hbu : But (fun j => j = g) w (w.alloc (.cells #[.int .i64 z, .string S] 46)) := But.of_below hb
  obtain ⟨W, hW⟩ : ∃ x, w.alloc (.cells #[.int .i64 z, .string S] 46) = x := ⟨_, rfl⟩
  rw [hW] at hx hg2 hbu
  have HBU := Lib.hid hbu
  have HG := Lib.hid hg2
  have c0 := hx.cell 0
  have c1 := hx.cell 1
  have hxl := hx.lt
  have g0 := hg2.cell 0
  have gl := hg2.lt
  have gf := hg2.frozen 0
  simp only [List.getElem?_toArray, List.getElem?_cons_zero, List.getElem?_cons_succ] at c0 c1 g0
  have HEND : Hid (∀ u : Int, (r = true → u = z + 1) → (But (fun j => j = g) w (W.setCell ⟨g, 0, none⟩ (.int .i64 u)) ∧ (r = true → Blk (W.setCell ⟨g, 0, none⟩ (.int .i64 u)) g 3 #[.int .i64 (z + 1)]))) := fun u hu =>
    ⟨HBU.out.setCell _ _ (.inl rfl), fun hr => by rw [hu hr]; exact HG.out.set_ 0 (.int .i64 (z + 1))⟩
  clear hb hx hg2 hbu h hgl
  by_cases h1 : k ≤ z
  · by_cases h2 : z < 8
    · by_cases h3 : d.length = 32
      · have hd : ((S.size : Int) == 32) = true := by rw [hz, h3]; rfl
        have HT : Hid (r = true) := by unfold Hid; rw [HPU.out]; simp [h1, h2, h3]
        clear HPU hz h3
        go_enter Tryd.func43, Tryd.ntmps43
        go_upto_region 1 with fail
        try rw [hW]
        clear hW
        go_wp2_with fail
        go_ret
        rw [HT.out]
        exact ⟨rfl, by have := HEND.out (z + 1) (fun _ => rfl); rw [HT.out] at this; exact this⟩
      · have hd : ((S.size : Int) == 32) = false := by rw [hz]; simp; omega
        have HT : Hid (r = false) := by unfold Hid; rw [HPU.out]; simp [h3]
        clear HPU hz h3
        go_enter Tryd.func43, Tryd.ntmps43
        go_upto_region 1 with fail
        try rw [hW]
        clear hW
        go_wp2_with fail
        go_ret
        rw [HT.out]
        exact ⟨rfl, by have := HEND.out (z + 1) (fun _ => rfl); rw [HT.out] at this; exact this⟩
    · have HT : Hid (r = false) := by unfold Hid; rw [HPU.out]; simp [h2]
      clear HPU hz
      go_enter Tryd.func43, Tryd.ntmps43
      go_upto_region 1 with fail
      try rw [hW]
      clear hW
      go_wp2_with fail
      all_goals
        go_ret
        have q := fun u => HEND.out u (fun h => absurd (HT.out.symm.trans h) (by decide))
        rw [HT.out] at q ⊢
        exact ⟨rfl, q _⟩
  · have HT : Hid (r = false) := by unfold Hid; rw [HPU.out]; simp [h1]
    clear HPU hz
    go_enter Tryd.func43, Tryd.ntmps43
    go_upto_region 1 with fail
    try rw [hW]
    clear hW
    go_wp2_with fail
    all_goals
      go_ret
      have q := fun u => HEND.out u (fun h => absurd (HT.out.symm.trans h) (by decide))
      rw [HT.out] at q ⊢
      exact ⟨rfl, q _⟩

def MayRel (l : List Ch) (g : Nat) (w : World) (i : Value) (wr : World) : Prop :=
  ∃ k : Nat, k ≤ l.length ∧ i = .int .i64 (k : Int) ∧ may (l.take k) = true ∧ Blk wr g 3 #[.int .i64 (leastF 0 (l.take k))] ∧ b64 (leastF 0 (l.take k)) ∧ Below w.heap.size w wr
set_option maxHeartbeats 3200000 in
theorem mayBe_any (A : Option Addr) (cp : Nat) (l : List Ch) (w : World) (h : ChL w A l) (hl : l.length ≤ 9223372036854775807) :
    Calls Tryd.prog 29 #[.slice A l.length cp] w (endB (may l) w) := by
  have HC := Lib.hid h
  have hb0 := (Below.refl w.heap.size w).alloc (Nat.le_refl _) (.cells #[.int .i64 0] 3)
  have HG0 := Lib.hid (Blk.new w 3 #[.int .i64 0])
  have HB0 := Lib.hid hb0
  clear h hb0
  obtain ⟨len, hlen⟩ : ∃ k, l.length = k := ⟨_, rfl⟩
  have HLEN := Lib.hid hlen
  rw [hlen] at hl ⊢
  clear hlen
  go_enter Tryd.func29, Tryd.ntmps29
  go_wp2_with fail
  obtain ⟨W0, hW0⟩ : ∃ z, w.alloc (.cells #[.int .i64 0] 3) = z := ⟨_, rfl⟩
  rw [hW0] at HG0 HB0
  try rw [hW0]
  clear hW0
  obtain ⟨g, hg⟩ : ∃ g, w.heap.size = g := ⟨_, rfl⟩
  have HGE := Lib.hid (Nat.le_of_eq hg)
  rw [hg] at HG0
  try rw [hg]
  clear hg
  go_loopw [6, 10] (fun _ i wr => MayRel l g w i wr) (fun _ i _ => len - (intOf i).toNat)
  case atStart => exact ⟨0, Nat.zero_le _, rfl, rfl, HG0.out, by show b64 0; unfold b64; omega, HB0.out⟩
  case round =>
    obtain ⟨k, hk, rfl, hm, hG, hb, hB⟩ := hrel
    have HM := Lib.hid hm
    have HG := Lib.hid hG
    have HBB := Lib.hid hb
    have HB := Lib.hid hB
    rw [HLEN.out] at hk
    clear hm hG hb hB
    by_cases hlt : k < len
    · have hki : (k : Int) < (len : Int) := by omega
      have hkl : k < l.length := by rw [HLEN.out]; exact hlt
      obtain ⟨bb, bo, rfl, hbb, c0, c1, cb⟩ := HC.out k hkl
      have HSN := Lib.hid (may_snoc hkl)
      have HLS : Hid (leastF 0 (l.take (k + 1)) = l[k].1 + 1) := by unfold Hid; rw [List.take_succ_eq_append_getElem hkl, leastF_snoc]
      have HNO : Hid (may (l.take (k + 1)) = false → may l = false) := fun h => may_no h
      obtain ⟨x, hx⟩ : ∃ x, l[k] = x := ⟨_, rfl⟩
      have HXM : Hid (x ∈ l.take (k + 1)) := by unfold Hid; rw [List.take_succ_eq_append_getElem hkl, hx]; simp
      rw [hx] at c0 c1 cb HSN HLS
      have HCB := Lib.hid cb
      have e0 : wr.cell? ⟨bb, bo + k * 2, none⟩ = some (.int .i64 x.1) := by rw [HB.out.cell (p := ⟨bb, bo + k * 2, none⟩) hbb]; exact c0
      have e1 : wr.cell? ⟨bb, bo + k * 2 + 1, none⟩ = some (.string (str x.2)) := by rw [HB.out.cell (p := ⟨bb, bo + k * 2 + 1, none⟩) hbb]; exact c1
      have lb : bb < wr.heap.size := Nat.lt_of_lt_of_le hbb HB.out.size
      clear hx c0 c1 cb
      obtain ⟨W1, hW1⟩ : ∃ z, wr.alloc (.cells #[.int .i64 x.1, .string (str x.2)] 46) = z := ⟨_, rfl⟩
      have hb1 : Below wr.heap.size wr W1 := by rw [← hW1]; exact (Below.refl _ wr).alloc (Nat.le_refl _) _
      have hX : Blk W1 wr.heap.size 46 #[.int .i64 x.1, .string (str x.2)] := by rw [← hW1]; exact Blk.new _ _ _
      have HB1 := Lib.hid (below_step HB.out hb1)
      have HG1 := Lib.hid (HG.out.below hb1)
      have x0 := hX.cell 0
      have x1 := hX.cell 1
      have hxl := hX.lt
      simp only [List.getElem?_toArray, List.getElem?_cons_zero, List.getElem?_cons_succ] at x0 x1
      clear hb1 hX
      go_upto_region 6 with fail
      try rw [hW1]
      clear hW1 e0 e1
      go_wp2_with fail
      refine (fits_any g _ x W1 HBB.out HCB.out HG1.out).mono ?_
      rintro e W2 ⟨rfl, hbu, hG2⟩
      have HB2 : Hid (Below w.heap.size w W2) := HB1.out.trans (hbu.below (fun j hj => by rw [hj]; exact HGE.out) HB1.out.size)
      have HG2 := Lib.hid hG2
      obtain ⟨r, hr⟩ : ∃ r, fitB (leastF 0 (l.take k)) x = r := ⟨_, rfl⟩
      rw [hr] at HSN HG2 ⊢
      clear hbu hG2 x0 x1 hxl hr
      cases r with
      | true =>
        have HTR : Hid (may (l.take (k + 1)) = true) := by unfold Hid; rw [HSN.out, HM.out]; rfl
        have HF : Hid (fitB (leastF 0 (l.take k)) x = true → x.1 < 8) := fun h => by unfold fitB at h; simp only [Bool.and_eq_true, decide_eq_true_eq] at h; exact h.1.2
        have HX8 : Hid (b64 (x.1 + 1)) := by
          have h := HCB.out
          have h2 := mayF_ok HTR.out x HXM.out
          unfold b64 at h
          unfold Hid b64
          omega
        go_wp2_with fail
        go_roundw
        case rel => exact ⟨k + 1, by rw [HLEN.out]; omega, by go_num, HTR.out, by rw [HLS.out]; exact HG2.out (by first | rfl | trivial), by rw [HLS.out]; exact HX8.out, HB2.out⟩
        case measure => simp [intOf]; omega
      | false =>
        have HFL : Hid (may l = false) := HNO.out (by rw [HSN.out, HM.out]; rfl)
        go_wp2_with fail
        go_ret
        rw [HFL.out]
        exact ⟨rfl, HB2.out⟩
    · have hki : ¬ (k : Int) < (len : Int) := by omega
      have HT : Hid (may l = true) := by
        have := HM.out
        rwa [List.take_of_length_le (by rw [HLEN.out]; omega)] at this
      go_wp2_with fail
      go_ret
      rw [HT.out]
      exact ⟨rfl, HB.out⟩
end Go.Proofs.YtdpbdkacngaemaaDoor.st

/- May changes be, as the document tells it. -/
namespace Go.Proofs.YtdpbdkacngaemaaDoor.st
open Go Go.RowKit Go.Sort Go.Proofs.YtdpbdkacngaemaaDoor.ib Go.Proofs.YtdpbdkacngaemaaDoor.wi Go.Proofs.YtdpbdkacngaemaaDoor.mt
open Go.Proofs.YtdpbdkacngaemaaDoor.ch (ChL OChs chVals infoCh)
set_option maxRecDepth 100000

def RMayRel (l : List Ch) (w : World) (i : Value) (wr : World) : Prop :=
  ∃ k : Nat, k ≤ l.length ∧ i = .int .i64 (k : Int) ∧ may (l.take k) = true ∧ Below w.heap.size w wr
/-- One change, by the document: its faults one behind the other. -/
theorem may_zero {l : List Ch} (h : 0 < l.length) : may (l.take (0 + 1)) = (decide (0 ≤ l[0].1) && decide (l[0].1 < 8) && decide (l[0].2.length = 32)) := by
  rw [may_snoc h]
  rfl
theorem may_next {l : List Ch} {j : Nat} (h : j + 1 < l.length) (hm : may (l.take (j + 1)) = true) : may (l.take (j + 1 + 1)) = (decide (l[j].1 < l[j + 1].1) && decide (l[j + 1].1 < 8) && decide (l[j + 1].2.length = 32)) := by
  rw [may_snoc h, hm, Bool.true_and]
  have : leastF 0 (l.take (j + 1)) = l[j].1 + 1 := by rw [List.take_succ_eq_append_getElem (by omega), leastF_snoc]
  unfold fitB
  rw [this]
  congr 2

end Go.Proofs.YtdpbdkacngaemaaDoor.st

/- May a part be: the program's, and the document's. -/
namespace Go.Proofs.YtdpbdkacngaemaaDoor.st
open Go Go.RowKit Go.Sort Go.Proofs.YtdpbdkacngaemaaDoor.ib Go.Proofs.YtdpbdkacngaemaaDoor.wi Go.Proofs.YtdpbdkacngaemaaDoor.mt
open Go.Proofs.YtdpbdkacngaemaaDoor.ch (ChL OChs chVals infoCh)
set_option maxRecDepth 100000

theorem bad_of {p : Pa} (h : above p.target p.base = false ∨ p.all < 0 ∨ 8 < p.all ∨ p.fr < 0 ∨ p.all < p.fr + p.chs.length ∨ 2 < p.chs.length ∨ (p.chs.length = 0 ∧ 0 < p.all) ∨ may p.chs = false) : pCheck p = 2 := by
  unfold pCheck
  rw [if_pos]
  unfold pBad
  simp only [Bool.or_eq_true, Bool.and_eq_true, Bool.not_eq_true', decide_eq_true_eq]
  rcases h with h | h | h | h | h | h | h | h <;> simp only [h, true_or, or_true, and_self]
theorem good_of {p : Pa} (h0 : above p.target p.base = true) (h1 : ¬ p.all < 0) (h2 : ¬ 8 < p.all) (h3 : ¬ p.fr < 0) (h4 : ¬ p.all < p.fr + p.chs.length) (h5 : ¬ 2 < p.chs.length) (h6 : ¬ (p.chs.length = 0 ∧ 0 < p.all)) (h7 : may p.chs = true) : pCheck p = 0 := by
  unfold pCheck
  rw [if_neg]
  unfold pBad
  simp only [Bool.or_eq_true, Bool.and_eq_true, Bool.not_eq_true', decide_eq_true_eq, h0, h7]
  simp only [h1, h2, h3, h4, h5, h6, or_false, Bool.true_eq_false, not_false_eq_true]

set_option maxHeartbeats 6400000 in
theorem check_any (A : Option Addr) (cp : Nat) (p : Pa) (w : World) (h : PaL w A cp p) (hs : p.chs.length ≤ 1000) : Calls Tryd.prog 22 #[.agg (paC p A cp)] w (endI (pCheck p) w) := by
  have hb := (Below.refl w.heap.size w).alloc (Nat.le_refl _) (.cells (paC p A cp) 27)
  have ha := Blk.new w 27 (paC p A cp)
  obtain ⟨W, hW⟩ : ∃ z, w.alloc (.cells (paC p A cp) 27) = z := ⟨_, rfl⟩
  rw [hW] at hb ha
  have HP := Lib.hid (h.below hb)
  have HB := Lib.hid hb
  have HA := Lib.hid ha
  have HAB : Hid (∀ W, Calls Tryd.prog 28 #[gv p.target, gv p.base] W (endB (above p.target p.base) W)) := fun W => above_any _ _ W
  have HBAD := Lib.hid (fun h => bad_of (p := p) h)
  have HGOOD := Lib.hid (fun h0 h1 h2 h3 h4 h5 h6 h7 => good_of (p := p) h0 h1 h2 h3 h4 h5 h6 h7)
  have hal := h.all
  have hfr := h.fr
  unfold b64 at hal hfr
  have HML : Hid (p.chs.length ≤ 1000) := hs
  clear h hb ha
  obtain ⟨⟨b1, b2⟩, ⟨t1, t2⟩, fr, all, chs⟩ := p
  unfold paC gv at *
  dsimp only at *
  obtain ⟨n, hn⟩ : ∃ n, chs.length = n := ⟨_, rfl⟩
  have HN := Lib.hid hn
  rw [hn] at hs hW HA HBAD HGOOD ⊢
  have ha := HA.out
  have a0 := ha.cell 0
  have a1 := ha.cell 1
  have a2 := ha.cell 2
  have a3 := ha.cell 3
  have a4 := ha.cell 4
  have a5 := ha.cell 5
  have a6 := ha.cell 6
  have hla := ha.lt
  simp only [List.getElem?_toArray, List.getElem?_cons_zero, List.getElem?_cons_succ] at a0 a1 a2 a3 a4 a5 a6
  clear ha hn
  obtain ⟨K, hK⟩ : ∃ K, pCheck ⟨(b1, b2), (t1, t2), fr, all, chs⟩ = K := ⟨_, rfl⟩
  rw [hK] at HBAD HGOOD ⊢
  obtain ⟨R, hR⟩ : ∃ R, above (t1, t2) (b1, b2) = R := ⟨_, rfl⟩
  rw [hR] at HAB HBAD HGOOD
  obtain ⟨M, hM⟩ : ∃ M, may chs = M := ⟨_, rfl⟩
  rw [hM] at HBAD HGOOD
  have HM := Lib.hid hM
  clear hK hR hM
  go_enter Tryd.func22, Tryd.ntmps22
  go_upto_region 2 with fail
  try rw [hW]
  clear hW
  go_wp2_with fail
  refine (HAB.out W).mono ?_
  rintro e W1 ⟨rfl, hb1⟩
  have HB1 := Lib.hid (below_step HB.out hb1)
  have HP1 := Lib.hid (HP.out.below hb1)
  have ha := HA.out.below hb1
  clear hb1 a0 a1 a2 a3 a4 a5 a6 hla HA HP HB HAB
  have a4 := ha.cell 4
  have a5 := ha.cell 5
  have a6 := ha.cell 6
  have hla := ha.lt
  simp only [List.getElem?_toArray, List.getElem?_cons_zero, List.getElem?_cons_succ] at a4 a5 a6
  clear ha
  cases R with
  | false =>
    obtain rfl : K = 2 := HBAD.out (.inl rfl)
    go_wp2_with fail
    go_ret
    exact ⟨rfl, HB1.out⟩
  | true =>
    by_cases h1 : all < 0
    · obtain rfl : K = 2 := HBAD.out (.inr (.inl h1))
      go_wp2_with fail
      go_ret
      exact ⟨rfl, HB1.out⟩
    by_cases h2 : 8 < all
    · obtain rfl : K = 2 := HBAD.out (.inr (.inr (.inl h2)))
      go_wp2_with fail
      go_ret
      exact ⟨rfl, HB1.out⟩
    by_cases h3 : fr < 0
    · obtain rfl : K = 2 := HBAD.out (.inr (.inr (.inr (.inl h3))))
      go_wp2_with fail
      go_ret
      exact ⟨rfl, HB1.out⟩
    by_cases h4 : all < fr + n
    · have h4' : all - fr < (n : Int) := by omega
      obtain rfl : K = 2 := HBAD.out (.inr (.inr (.inr (.inr (.inl h4)))))
      go_wp2_with fail
      go_ret
      exact ⟨rfl, HB1.out⟩
    have h4' : ¬ all - fr < (n : Int) := by omega
    by_cases h5 : 2 < n
    · have h5' : (2 : Int) < (n : Int) := by omega
      obtain rfl : K = 2 := HBAD.out (.inr (.inr (.inr (.inr (.inr (.inl h5))))))
      go_wp2_with fail
      go_ret
      exact ⟨rfl, HB1.out⟩
    have h5' : ¬ (2 : Int) < (n : Int) := by omega
    by_cases h6 : n = 0 ∧ 0 < all
    · obtain ⟨h60, h61⟩ := h6
      have h62 : ((n : Int) == 0) = true := by subst h60; rfl
      obtain rfl : K = 2 := HBAD.out (.inr (.inr (.inr (.inr (.inr (.inr (.inl ⟨h60, h61⟩)))))))
      go_wp2_with fail
      go_ret
      exact ⟨rfl, HB1.out⟩
    have HG := Lib.hid (fun q => HGOOD.out rfl (by omega) (by omega) (by omega) (by omega) (by omega) (by omega) q)
    have HMC := Lib.hid (mayBe_any A cp chs W1 HP1.out.chs (by have := HML.out; omega))
    rw [HN.out] at HMC
    clear HGOOD
    by_cases h60 : n = 0
    · have h61 : ¬ 0 < all := fun h => h6 ⟨h60, h⟩
      have h62 : ((n : Int) == 0) = true := by subst h60; rfl
      clear h6 h60
      go_wp2_with fail
      refine HMC.out.mono ?_
      rintro e W2 ⟨rfl, hb2⟩
      have HB2 := Lib.hid (below_step HB1.out hb2)
      rw [HM.out]
      clear hb2 a4 a5 a6 hla
      cases M with
      | false =>
        obtain rfl : K = 2 := HBAD.out (.inr (.inr (.inr (.inr (.inr (.inr (.inr rfl)))))))
        go_wp2_with fail
        go_ret
        exact ⟨rfl, HB2.out⟩
      | true =>
        obtain rfl : K = 0 := HG.out rfl
        go_wp2_with fail
        go_ret
        exact ⟨rfl, HB2.out⟩
    · have h62 : ((n : Int) == 0) = false := by simpa using h60
      clear h6 h60
      go_wp2_with fail
      refine HMC.out.mono ?_
      rintro e W2 ⟨rfl, hb2⟩
      have HB2 := Lib.hid (below_step HB1.out hb2)
      rw [HM.out]
      clear hb2 a4 a5 a6 hla
      cases M with
      | false =>
        obtain rfl : K = 2 := HBAD.out (.inr (.inr (.inr (.inr (.inr (.inr (.inr rfl)))))))
        go_wp2_with fail
        go_ret
        exact ⟨rfl, HB2.out⟩
      | true =>
        obtain rfl : K = 0 := HG.out rfl
        go_wp2_with fail
        go_ret
        exact ⟨rfl, HB2.out⟩

end Go.Proofs.YtdpbdkacngaemaaDoor.st

/- The library's contracts for bits.Len64, laid at this program's numbers. -/
namespace Go.Proofs
open Go.Shelf
set_option maxRecDepth 100000
def Tryd.lays129_ren : Go.Shelf.Ren := ⟨fun | 129 => 57 | n => n, fun | 53 => 22 | 3 => 3 | 4 => 4 | 46 => 87 | 5 => 5 | 9 => 9 | n => n, fun | n => n⟩
theorem Tryd.lays129 : Go.Proofs.Lays.n129 Tryd.prog Tryd.lays129_ren := {
  mixed := by kernel_rfl
  f129 := Tryd.func57.trans (congrArg some (by kernel_rfl))
  t3 := Tryd.underlying3
  a3 := Tryd.isAgg3
  z3 := Tryd.sizeOf3
  v3 := Tryd.zeroValue3
  t4 := Tryd.underlying4
  a4 := Tryd.isAgg4
  z4 := Tryd.sizeOf4
  v4 := Tryd.zeroValue4
  t5 := Tryd.underlying5
  a5 := Tryd.isAgg5
  z5 := Tryd.sizeOf5
  v5 := Tryd.zeroValue5
  t9 := Tryd.underlying9
  a9 := Tryd.isAgg9
  z9 := Tryd.sizeOf9
  v9 := Tryd.zeroValue9
  t46 := Tryd.underlying87
  a46 := Tryd.isAgg87
  z46 := Tryd.sizeOf87
  v46 := Tryd.zeroValue87
  t53 := Tryd.underlying22
  a53 := Tryd.isAgg22
  z53 := Tryd.sizeOf22
  v53 := Tryd.zeroValue22 }
theorem Tryd.bits_Len64 (x : Int) (w : World) (h0 : 0 ≤ x) (h1 : x ≤ 18446744073709551615) :
    Calls Tryd.prog 57 #[.int .u64 x] w fun e w' => e = .returned (.int .i64 (Lib.bitLen x.toNat)) ∧ w' = w := Any.bits_Len64 Tryd.lays129 x w h0 h1
end Go.Proofs

/- The library's contracts for strings.Builder's WriteString and String, laid at this program's numbers. -/
namespace Go.Proofs
open Go.Shelf
set_option maxRecDepth 100000
def Tryd.lays166_ren : Go.Shelf.Ren := ⟨fun | 166 => 32 | 240 => 48 | 276 => 56 | n => n, fun | 0 => 0 | 3 => 3 | 4 => 4 | 9 => 9 | 20 => 20 | 37 => 60 | 70 => 59 | 72 => 62 | 75 => 67 | 164 => 94 | 5 => 5 | 80 => 70 | n => n, fun | n => n⟩
theorem Tryd.lays166 : Go.Proofs.Lays.n166 Tryd.prog Tryd.lays166_ren := {
  mixed := by kernel_rfl
  f166 := Tryd.func32.trans (congrArg some (by kernel_rfl))
  f240 := Tryd.func48.trans (congrArg some (by kernel_rfl))
  f276 := Tryd.func56.trans (congrArg some (by kernel_rfl))
  t0 := Tryd.underlying0
  a0 := Tryd.isAgg0
  z0 := Tryd.sizeOf0
  v0 := Tryd.zeroValue0
  t3 := Tryd.underlying3
  a3 := Tryd.isAgg3
  z3 := Tryd.sizeOf3
  v3 := Tryd.zeroValue3
  t4 := Tryd.underlying4
  a4 := Tryd.isAgg4
  z4 := Tryd.sizeOf4
  v4 := Tryd.zeroValue4
  t9 := Tryd.underlying9
  a9 := Tryd.isAgg9
  z9 := Tryd.sizeOf9
  v9 := Tryd.zeroValue9
  t20 := Tryd.underlying20
  a20 := Tryd.isAgg20
  z20 := Tryd.sizeOf20
  v20 := Tryd.zeroValue20
  t37 := Tryd.underlying60
  a37 := Tryd.isAgg60
  z37 := Tryd.sizeOf60
  v37 := Tryd.zeroValue60
  t70 := Tryd.underlying59
  a70 := Tryd.isAgg59
  z70 := Tryd.sizeOf59
  v70 := Tryd.zeroValue59
  t72 := Tryd.underlying62
  a72 := Tryd.isAgg62
  z72 := Tryd.sizeOf62
  v72 := Tryd.zeroValue62
  t75 := Tryd.underlying67
  a75 := Tryd.isAgg67
  z75 := Tryd.sizeOf67
  v75 := Tryd.zeroValue67
  t164 := Tryd.underlying94
  a164 := Tryd.isAgg94
  z164 := Tryd.sizeOf94
  v164 := Tryd.zeroValue94 }
theorem Tryd.Builder_Extra_166 : Builder.Extra Tryd.prog Tryd.lays166_ren := {
  sizeBuilder := by kernel_rfl
  liesBuilder := by kernel_rfl
  t5 := Tryd.underlying5
  a5 := Tryd.isAgg5
  z5 := Tryd.sizeOf5
  v5 := Tryd.zeroValue5
  infoByte := by kernel_rfl
  cellsByte := by kernel_rfl
  sizeByte := by kernel_rfl
  neB5 := by decide }
open Go.RowKit in
theorem Tryd.Builder_WriteString (B b : Nat) (bs : List Value) (s : ByteArray) (w : World) (h : Lib.IsBuilder 62 5 B b bs w) (hlen : bs.length + s.size ≤ 140737488355328) (hBw : B ≤ w.heap.size) :
    Calls Tryd.prog 32 #[.pointer (some ⟨b, 0, none⟩), .string s] w fun e w' => e = .returned (.tuple #[.int .i64 s.size, .nilIface]) ∧ (Lib.BuilderAt 62 5 B b (.pointer (some ⟨b, 0, none⟩)) (bs ++ Lib.strCells s) w' ∧ Below B w w') := Any.Builder_WriteString Tryd.lays166 Tryd.Builder_Extra_166 B b bs s w h hlen hBw
def Tryd.lays169_ren : Go.Shelf.Ren := ⟨fun | 169 => 33 | n => n, fun | 70 => 59 | 9 => 9 | 0 => 0 | 72 => 62 | 37 => 60 | 127 => 85 | 3 => 3 | 5 => 5 | n => n, fun | n => n⟩
theorem Tryd.lays169 : Go.Proofs.Lays.n169 Tryd.prog Tryd.lays169_ren := {
  mixed := by kernel_rfl
  f169 := Tryd.func33.trans (congrArg some (by kernel_rfl))
  t0 := Tryd.underlying0
  a0 := Tryd.isAgg0
  z0 := Tryd.sizeOf0
  v0 := Tryd.zeroValue0
  t3 := Tryd.underlying3
  a3 := Tryd.isAgg3
  z3 := Tryd.sizeOf3
  v3 := Tryd.zeroValue3
  t9 := Tryd.underlying9
  a9 := Tryd.isAgg9
  z9 := Tryd.sizeOf9
  v9 := Tryd.zeroValue9
  t37 := Tryd.underlying60
  a37 := Tryd.isAgg60
  z37 := Tryd.sizeOf60
  v37 := Tryd.zeroValue60
  t70 := Tryd.underlying59
  a70 := Tryd.isAgg59
  z70 := Tryd.sizeOf59
  v70 := Tryd.zeroValue59
  t72 := Tryd.underlying62
  a72 := Tryd.isAgg62
  z72 := Tryd.sizeOf62
  v72 := Tryd.zeroValue62
  t127 := Tryd.underlying85
  a127 := Tryd.isAgg85
  z127 := Tryd.sizeOf85
  v127 := Tryd.zeroValue85 }
theorem Tryd.Builder_Extra_169 : Builder.Extra Tryd.prog Tryd.lays169_ren := {
  sizeBuilder := by kernel_rfl
  liesBuilder := by kernel_rfl
  t5 := Tryd.underlying5
  a5 := Tryd.isAgg5
  z5 := Tryd.sizeOf5
  v5 := Tryd.zeroValue5
  infoByte := by kernel_rfl
  cellsByte := by kernel_rfl
  sizeByte := by kernel_rfl
  neB5 := by decide }
open Go.RowKit in
theorem Tryd.Builder_String_any (B b : Nat) (l : List UInt8) (w : World) (h : Lib.IsBuilder 62 5 B b (Lib.byteCells l) w) (hBw : B ≤ w.heap.size) :
    Calls Tryd.prog 33 #[.pointer (some ⟨b, 0, none⟩)] w fun e w' => e = .returned (.string ⟨l.toArray⟩) ∧ Below B w w' := Any.Builder_String_any Tryd.lays169 Tryd.Builder_Extra_169 B b l w h hBw
end Go.Proofs

/- What the calls that lay numbers and texts as bytes do: count, size, digits, put, PutNum and PutText of package wire, one contract each. -/
namespace Go.Proofs.YtdpbdkacngaemaaDoor.wi
open Go.RowKit
set_option maxRecDepth 100000


set_option maxHeartbeats 400000 in
theorem count_any (n : Int) (w : World) (h0 : 0 ≤ n) (h1 : n ≤ 18446744073709551615) :
    Calls Tryd.prog 49 #[.int .u64 n] w fun e w' => e = .returned (.int .i64 ((digs n.toNat).length : Nat)) ∧ w = w' := by
  have hc := count_eq n.toNat (by omega)
  have hb : Lib.bitLen n.toNat ≤ 64 := Lib.bitLen_le _ 64 (by omega) (by omega)
  have e1 : ((digs n.toNat).length : Int) = ((Lib.bitLen n.toNat : Nat) + 7 : Int) / 8 := by omega
  have E1 := Lib.hid e1
  clear e1 hc
  go_enter Tryd.func49, Tryd.ntmps49
  go_wp2_with (go_at_call 57; refine (Tryd.bits_Len64 n _ h0 h1).mono ?_; rintro e w' ⟨rfl, rfl⟩)
  go_ret
  exact ⟨by rw [E1.out]; rfl, rfl⟩


def okSize (n : Nat) (w : World) (e : Ending) (w' : World) : Prop :=
  e = .returned (.string (str [UInt8.ofNat (digs n).length])) ∧ Below w.heap.size w w'

theorem conv1 (k : Nat) (hk : k < 256) (w : World) :
    (convert 60 9 (.slice (some ⟨w.heap.size, 0, none⟩) 1 1)).run Tryd.prog (w.alloc (.cells #[.int .u8 (k : Int)] 5)) = .ok (.string (str [UInt8.ofNat k])) (w.alloc (.cells #[.int .u8 (k : Int)] 5)) := by
  refine run_convert_bytes_back (P := Tryd.prog) _ 60 9 5 ⟨w.heap.size, 0, none⟩ 1 [UInt8.ofNat k] Tryd.underlying60 Tryd.underlying5 Tryd.underlying9 ?_
  intro j hj
  have : j = 0 := by simpa using hj
  subst this
  have e : (UInt8.ofNat k).toNat = k := ofNat_small k hk
  simp [Addr.add, e, World.cell?, World.alloc, -World.alloc_eq]

set_option maxHeartbeats 400000 in
theorem size_any (n : Int) (w : World) (h0 : 0 ≤ n) (h1 : n ≤ 18446744073709551615) :
    Calls Tryd.prog 35 #[.int .u64 n] w (okSize n.toNat w) := by
  have hl := digs_len n.toNat
  have hcv := conv1 (digs n.toNat).length (by omega) w
  go_enter Tryd.func35, Tryd.ntmps35
  go_wp2_with (go_at_call 49; refine (count_any n _ h0 h1).mono ?_; rintro e w' ⟨rfl, rfl⟩)
  go_ret
  exact ⟨rfl, (Below.refl _ _).alloc (Nat.le_refl _) _⟩


def digCells (D : List UInt8) (k : Nat) : List Value := List.replicate k (.int .u8 0) ++ Lib.byteCells (D.drop k)

def okDigits (n : Nat) (w : World) (e : Ending) (w' : World) : Prop :=
  e = .returned (.string (str (digs n))) ∧ Below w.heap.size w w'

def DigRel (D : List UInt8) (w : World) (n i : Value) (wr : World) : Prop :=
  ∃ k m : Nat, i = .int .i64 ((k : Int) - 1) ∧ n = .int .u64 (m : Int) ∧ m < 18446744073709551616 ∧ digs m = D.take k ∧ k ≤ D.length ∧
    wr.ownsRow w.heap.size 5 1 (.slice (some ⟨w.heap.size, 0, none⟩) D.length D.length) D.length (digCells D k) ∧ Below w.heap.size w wr

theorem digCells_len (D : List UInt8) (k : Nat) (h : k ≤ D.length) : (digCells D k).length = D.length := by
  simp [digCells, Lib.byteCells_length]; omega

theorem digCells_set (D : List UInt8) (k : Nat) (h : k < D.length) : (digCells D (k + 1)).set k (.int .u8 (D[k].toNat : Int)) = digCells D k := by
  unfold digCells
  rw [List.replicate_succ', List.append_assoc, List.set_append_right _ _ (by simp), List.length_replicate, Nat.sub_self, List.drop_eq_getElem_cons h]
  rfl

theorem dig_last (D : List UInt8) (m k : Nat) (hm : m < 18446744073709551616) (hk : k < D.length) (h : digs m = D.take (k + 1)) :
    m ≠ 0 ∧ digs (m / 256) = D.take k ∧ D[k].toNat = m % 256 := by
  have h0 : m ≠ 0 := by
    intro e
    subst e
    have := congrArg List.length h
    simp [digs_zero] at this
    omega
  have e := digs_pos m h0 hm
  rw [h, List.take_succ_eq_append_getElem hk] at e
  have e' := List.append_inj' e rfl
  refine ⟨h0, e'.1.symm, ?_⟩
  have := e'.2
  simp at this
  rw [this, ofNat_small _ (by omega)]

set_option maxHeartbeats 400000 in
theorem digits_any (n : Int) (w : World) (h0 : 0 ≤ n) (h1 : n ≤ 18446744073709551615) :
    Calls Tryd.prog 36 #[.int .u64 n] w (okDigits n.toNat w) := by
  have hl := digs_len n.toNat
  obtain ⟨i0, hi, hz0, hz1, hz2⟩ := info_parts Tryd.info5
  have hmk := run_make (P := Tryd.prog) w 60 5 i0 (.int .u8 0) Tryd.underlying60 hi hz0 .i64 .i64 ((digs n.toNat).length : Int) ((digs n.toNat).length : Int) (by omega) (by omega) (by rw [hz2]; omega) (by omega)
  have hown0 : (w.alloc (.cells (madeCells #[.int .u8 0] (digs n.toNat).length) 5)).ownsRow w.heap.size 5 1 (.slice (some ⟨w.heap.size, 0, none⟩) (digs n.toNat).length (digs n.toNat).length) (digs n.toNat).length (digCells (digs n.toNat) (digs n.toNat).length) := by
    have := World.ownsRow_lit (e := 5) (size := 1) (base := w.heap.size) w (madeCells #[.int .u8 0] (digs n.toNat).length) (digs n.toNat).length (Nat.le_refl _) (by unfold maxLen; omega) (by simp [size_madeCells])
    have e : (madeCells #[.int .u8 0] (digs n.toNat).length).toList = digCells (digs n.toNat) (digs n.toNat).length := by
      apply List.ext_getElem?
      intro j
      by_cases hj : j < (digs n.toNat).length <;> simp [madeCells, digCells, Lib.byteCells, hj, Nat.mod_one]
    rw [← e]
    exact this
  have hb0 : Below w.heap.size w (w.alloc (.cells (madeCells #[.int .u8 0] (digs n.toNat).length) 5)) := (Below.refl _ _).alloc (Nat.le_refl _) _
  have hn : ((n.toNat : Nat) : Int) = n := by omega
  have Hn := Lib.hid hn
  clear hn
  rw [hz1] at hmk
  clear hi hz0 hz1 hz2
  go_enter Tryd.func36, Tryd.ntmps36
  go_wp2_with (go_at_call 49; refine (count_any n _ h0 h1).mono ?_; rintro e w' ⟨rfl, rfl⟩)
  go_loopw [0, 4] (fun n' i wr => DigRel (digs n.toNat) w n' i wr) (fun _ i _ => (intOf i + 1).toNat)
  case atStart => exact ⟨(digs n.toNat).length, n.toNat, rfl, by rw [Hn.out], by omega, by simp, Nat.le_refl _, hown0, hb0⟩
  case round =>
    obtain ⟨k, m, rfl, rfl, hm, hd, hk, hown, hb⟩ := hrel
    cases k with
    | zero =>
      have hcv := run_convert_bytes_back (P := Tryd.prog) wr 60 9 5 ⟨w.heap.size, 0, none⟩ (digs n.toNat).length (digs n.toNat) Tryd.underlying60 Tryd.underlying5 Tryd.underlying9 (by
        intro j hj
        have := hown.cellAt j (by omega)
        rw [addr_add, Nat.zero_add, this]
        simp [digCells, Lib.byteCells, List.getElem?_eq_getElem hj])
      have hcv' : (convert 60 9 (.slice (some ⟨w.heap.size, 0, none⟩) (digs n.toNat).length (digs n.toNat).length)).run Tryd.prog wr = .ok (.string (str (digs n.toNat))) wr := hcv
      clear hcv
      go_wp2
      go_ret
      exact ⟨rfl, hb⟩
    | succ k =>
      have hx := hown.cellAt k (by omega)
      rw [show (digCells (digs n.toNat) (k + 1))[k]? = some (.int .u8 0) from by simp [digCells, List.getElem?_append]] at hx
      have hf := hown.frozenAt k
      have hs := hown.stored k (.int .u8 (((digs n.toNat)[k]'(by omega)).toNat : Int))
      rw [digCells_set _ _ (by omega)] at hs
      obtain ⟨hs1, hs2⟩ := hs
      obtain ⟨hm0, hd', hlast⟩ := dig_last (digs n.toNat) m k hm (by omega) hd
      have Hs1 := Lib.hid hs1
      have Hs2 := Lib.hid hs2
      have Hd := Lib.hid hd'
      have Hl := Lib.hid hlast
      clear hs1 hs2 hd' hlast hd hown
      go_wp2
      have e : ((m : Int) % 256) = (((digs n.toNat)[k]'(by omega)).toNat : Int) := by rw [Hl.out]; omega
      rw [e]
      exact ⟨⟨k, m / 256, rfl, rfl, by omega, Hd.out, by omega, Hs1.out, hb.grown Hs2.out (by have := hb.size; omega) (fun j hj => by cases hj; exact Nat.le_refl _)⟩, by simp [intOf]⟩

theorem size_nat (n : Nat) (w : World) (h : n < 18446744073709551616) : Calls Tryd.prog 35 #[.int .u64 (n : Int)] w (okSize n w) := by
  have := size_any (n : Int) w (by omega) (by omega)
  rwa [Int.toNat_natCast] at this

theorem digits_nat (n : Nat) (w : World) (h : n < 18446744073709551616) : Calls Tryd.prog 36 #[.int .u64 (n : Int)] w (okDigits n w) := by
  have := digits_any (n : Int) w (by omega) (by omega)
  rwa [Int.toNat_natCast] at this

/-- The cells of a slice of strings. -/
def StrCells (w : World) (b o : Nat) (ps : List ByteArray) : Prop := ∀ i (h : i < ps.length), w.cell? ⟨b, o + i, none⟩ = some (.string ps[i])

def okPut (s : ByteArray) (ps : List ByteArray) (w : World) (e : Ending) (w' : World) : Prop :=
  e = .returned (.string (str (bl s ++ flat ps))) ∧ Below w.heap.size w w'

def PutRel (s : ByteArray) (ps : List ByteArray) (w : World) (i : Value) (wr : World) : Prop :=
  ∃ k : Nat, k ≤ ps.length ∧ i = .int .i64 (k : Int) ∧ Lib.IsBuilder 62 5 w.heap.size w.heap.size (Lib.byteCells (bl s ++ flat (ps.take k))) wr ∧ Below w.heap.size w wr

set_option maxHeartbeats 400000 in
theorem put_any (s : ByteArray) (b o c : Nat) (ps : List ByteArray) (w : World) (hb : b < w.heap.size) (hc : StrCells w b o ps) (hl : ps.length ≤ 1000000) (hs : s.size + (flat ps).length ≤ 140737488355328) :
    Calls Tryd.prog 34 #[.string s, .slice (some ⟨b, o, none⟩) ps.length c] w (okPut s ps w) := by
  have h0 : Lib.IsBuilder 62 5 w.heap.size w.heap.size [] (w.alloc (.cells #[.pointer none, .slice none 0 0] 62)) := Lib.fresh_isBuilder 62 5 w
  have b0 : Below w.heap.size w (w.alloc (.cells #[.pointer none, .slice none 0 0] 62)) := (Below.refl _ w).alloc (Nat.le_refl _) _
  go_enter Tryd.func34, Tryd.ntmps34
  go_wp2_with (go_at_call 32; refine (Tryd.Builder_WriteString w.heap.size w.heap.size [] s _ h0 (by simp; omega) b0.size).mono ?_)
  rintro e W1 ⟨rfl, h1, b1⟩
  have h1' : Lib.IsBuilder 62 5 w.heap.size w.heap.size (Lib.byteCells (bl s)) W1 := by
    rw [List.nil_append, Lib.strCells_eq] at h1
    exact Or.inr h1
  have b1' := b0.trans b1
  clear h1 b1 h0 b0
  go_wp2
  go_loopw [12] (fun i wr => PutRel s ps w i wr) (fun i _ => ps.length - (intOf i).toNat)
  case atStart => exact ⟨0, Nat.zero_le _, rfl, by simpa [flat] using h1', b1'⟩
  case round =>
    obtain ⟨k, hk, rfl, hI, hB⟩ := hrel
    by_cases hlt : k < ps.length
    · have hcell : wr.cell? ⟨b, o + k, none⟩ = some (.string ps[k]) := by
        rw [hB.cell (p := ⟨b, o + k, none⟩) hb]; exact hc k hlt
      have hfl := flat_snoc ps k hlt
      have hfm := flat_take_len ps (k + 1)
      have hbl := bl_len s
      have hbp := bl_len ps[k]
      have hlen : (Lib.byteCells (bl s ++ flat (ps.take k))).length + ps[k].size ≤ 140737488355328 := by
        rw [Lib.byteCells_length]
        rw [hfl] at hfm
        simp at hfm ⊢
        omega
      have Hfl := Lib.hid hfl
      clear hfl hfm hbl hbp
      go_wp2_with (go_at_call 32; refine (Tryd.Builder_WriteString w.heap.size w.heap.size _ ps[k] _ hI hlen hB.size).mono ?_)
      rintro e W2 ⟨rfl, h2, b2⟩
      have h2' : Lib.IsBuilder 62 5 w.heap.size w.heap.size (Lib.byteCells (bl s ++ flat (ps.take (k + 1)))) W2 := by
        rw [Lib.strCells_eq, ← Lib.byteCells_append] at h2
        rw [Hfl.out, ← List.append_assoc]
        exact Or.inr h2
      have b2' := hB.trans b2
      clear h2 b2 hI hB
      go_wp2
      go_roundw
      case rel => exact ⟨k + 1, by omega, by go_num, h2', b2'⟩
      case measure => simp [intOf]; omega
    · have hk' : k = ps.length := by omega
      subst hk'
      rw [List.take_length] at hI
      go_wp2_with (go_at_call 33; refine (Tryd.Builder_String_any w.heap.size w.heap.size _ _ hI hB.size).mono ?_)
      rintro e W2 ⟨rfl, b2⟩
      have b2' := hB.trans b2
      clear b2 hI hB
      go_wp2
      go_ret
      exact ⟨rfl, b2'⟩

theorem strCells_new (ps : List ByteArray) (w : World) : StrCells (w.alloc (.cells (ps.map Value.string).toArray 9)) w.heap.size 0 ps := by
  intro i h
  simp [World.cell?, World.alloc, -World.alloc_eq]

theorem strCells_two (a b : ByteArray) (w : World) : StrCells (w.alloc (.cells #[.string a, .string b] 9)) w.heap.size 0 [a, b] := strCells_new [a, b] w
theorem strCells_three (a b c : ByteArray) (w : World) : StrCells (w.alloc (.cells #[.string a, .string b, .string c] 9)) w.heap.size 0 [a, b, c] := strCells_new [a, b, c] w

def okPutNum (s : ByteArray) (n : Nat) (w : World) (e : Ending) (w' : World) : Prop :=
  e = .returned (.string (str (bl s ++ numB n))) ∧ Below w.heap.size w w'

set_option maxHeartbeats 400000 in
theorem putNum_any (s : ByteArray) (n : Int) (w : World) (h0 : 0 ≤ n) (h1 : n ≤ 18446744073709551615) (hs : s.size ≤ 140737488355000) :
    Calls Tryd.prog 23 #[.string s, .int .u64 n] w (okPutNum s n.toNat w) := by
  have hl := digs_len n.toNat
  go_enter Tryd.func23, Tryd.ntmps23
  go_wp2_with (go_at_call 35; refine (size_any n _ h0 h1).mono ?_)
  rintro e W1 ⟨rfl, b1⟩
  go_wp2_with (go_at_call 36; refine (digits_any n _ h0 h1).mono ?_)
  rintro e W2 ⟨rfl, b2⟩
  go_wp2_with (go_at_call 34; refine (put_any s W2.heap.size 0 2 [str [UInt8.ofNat (digs n.toNat).length], str (digs n.toNat)] _ ?_ (strCells_two _ _ _) (by simp) ?_).mono ?_)
  · simp
  · simp [flat, bl_str]; omega
  · rintro e W3 ⟨rfl, b3⟩
    have b' := below_step (below_new (below_step b1 b2) _) b3
    clear b1 b2 b3
    go_wp2
    go_ret
    exact ⟨by simp [flat, bl_str, numB], b'⟩

theorem putNum_nat (s : ByteArray) (n : Nat) (w : World) (h : n < 18446744073709551616) (hs : s.size ≤ 140737488355000) :
    Calls Tryd.prog 23 #[.string s, .int .u64 (n : Int)] w (okPutNum s n w) := by
  have := putNum_any s (n : Int) w (by omega) (by omega) hs
  rwa [Int.toNat_natCast] at this

end Go.Proofs.YtdpbdkacngaemaaDoor.wi

/- What PutText of package wire does. -/
namespace Go.Proofs.YtdpbdkacngaemaaDoor.wi
open Go.RowKit
set_option maxRecDepth 100000

def okPutText (s t : ByteArray) (w : World) (e : Ending) (w' : World) : Prop :=
  e = .returned (.string (str (bl s ++ textB (bl t)))) ∧ Below w.heap.size w w'

set_option maxHeartbeats 400000 in
theorem putText_any (s t : ByteArray) (w : World) (hs : s.size ≤ 70368744177000) (ht : t.size ≤ 70368744177000) :
    Calls Tryd.prog 47 #[.string s, .string t] w (okPutText s t w) := by
  have hl := digs_len t.size
  have hbl := bl_len t
  have Hbl := Lib.hid hbl
  clear hbl
  go_enter Tryd.func47, Tryd.ntmps47
  go_wp2_with (go_at_call 35; refine (size_nat t.size _ (by omega)).mono ?_)
  rintro e W1 ⟨rfl, b1⟩
  go_wp2_with (go_at_call 36; refine (digits_nat t.size _ (by omega)).mono ?_)
  rintro e W2 ⟨rfl, b2⟩
  go_wp2_with (go_at_call 34; refine (put_any s W2.heap.size 0 3 [str [UInt8.ofNat (digs t.size).length], str (digs t.size), t] _ ?_ (strCells_three _ _ _ _) (by simp) ?_).mono ?_)
  · simp
  · have := Hbl.out
    simp [flat, bl_str]; omega
  · rintro e W3 ⟨rfl, b3⟩
    have b' := below_step (below_new (below_step b1 b2) _) b3
    clear b1 b2 b3
    go_wp2
    go_ret
    exact ⟨by simp [flat, bl_str, textB, numB, Hbl.out], b'⟩

end Go.Proofs.YtdpbdkacngaemaaDoor.wi

/- What a round of the program's iterator keeps; how a number's bytes are handed on. -/
namespace Go.Proofs.YtdpbdkacngaemaaDoor.st
open Go Go.RowKit Go.Shelf Go.Proofs.YtdpbdkacngaemaaDoor.ib Go.Proofs.YtdpbdkacngaemaaDoor.wi Go.Proofs.YtdpbdkacngaemaaDoor.mt
open Go.Proofs.YtdpbdkacngaemaaDoor.ch (ChL OChs chVals infoCh)
set_option maxRecDepth 100000

attribute [local go_sem] Oper.semAt_some

/-- All below g0 lies still, and all blocks but the builder's own and bytes. -/
def KE (g0 nB : Nat) (W W' : World) : Prop :=
  Below g0 W W' ∧ ∀ (k : Nat) (c : Array Value) (t : TypeId) (fz : Nat × Nat), W.heap[k]? = some (.cells c t fz) → k ≠ nB → t ≠ 5 → W'.heap[k]? = some (.cells c t fz)
section
variable {g0 nB : Nat} {W W' W2 : World}
theorem KE.trans (h : KE g0 nB W W') (h2 : KE g0 nB W' W2) : KE g0 nB W W2 :=
  ⟨h.1.trans h2.1, fun k c t fz e n1 n2 => h2.2 k c t fz (h.2 k c t fz e n1 n2) n1 n2⟩
theorem KE.of_below (hg : g0 ≤ W.heap.size) (h : Below W.heap.size W W') : KE g0 nB W W' :=
  ⟨h.mono hg, fun k c t fz e _ _ => (h.block k (Array.getElem?_eq_some_iff.1 e).1).trans e⟩
theorem KE.of_kept (h : Below g0 W W') (h2 : Lib.OthersKept 5 (some nB) W W') : KE g0 nB W W' :=
  ⟨h, fun k c t fz e n1 n2 => h2 k _ e (fun e2 => n1 (Option.some.inj e2)) (fun c' fz' e3 => by
    simp only [Obj.cells.injEq] at e3
    exact n2 e3.2.1)⟩
theorem KE.putObj {l : Nat} {o o' : Obj} (hg : g0 ≤ l) (hl : W.heap[l]? = some o) (ho : o.isCells = false) : KE g0 nB W (W.putObj l o') := by
  refine ⟨(Below.refl g0 W).grown (grownBy_putObj' W l o') ?_ (fun k e => by cases e; exact hg), fun k c t fz e n1 n2 => ?_⟩
  · have := (Array.getElem?_eq_some_iff.1 hl).1
    omega
  · have hk : k ≠ l := by
      intro e2
      rw [e2, hl] at e
      cases e
      cases ho
    exact (World.putObj_heap_other hk).trans e
theorem KE.blk {k : Nat} {t : TypeId} {cs : Array Value} (h : KE g0 nB W W') (hb : Blk W k t cs) (h1 : k ≠ nB) (h2 : t ≠ 5) : Blk W' k t cs := h.2 k cs t (0, 0) hb h1 h2
end
theorem yieldAny {m : Nat} (m' : Nat) {l : Nat} {args : Array Value} {W : World} {R : Ending → World → Prop} (h : YieldAt Fence.wide m Tryd.prog l args W R) : YieldAt Fence.wide m' Tryd.prog l args W R := by
  obtain ⟨fn, tmps, assign, body, hy, hR⟩ := h
  exact ⟨fn, tmps, assign, body, hy, hR.1, fun c cs _ => hR.2 c cs (room_wide _)⟩
/-- How a round ends. -/
def YR (g0 nB : Nat) (J1 Jx : World → Prop) (W : World) (e : Ending) (W' : World) : Prop :=
  ∃ b : Bool, e = .returned (.bool b) ∧ ((b = true ∧ J1 W' ∧ KE g0 nB W W') ∨ (b = false ∧ Jx W'))
theorem YR.from {g0 nB : Nat} {J1 Jx : World → Prop} {W W1 : World} {e : Ending} {W' : World} (hk : KE g0 nB W W1) (h : YR g0 nB J1 Jx W1 e W') : YR g0 nB J1 Jx W e W' := by
  obtain ⟨b, h1, h2 | h2⟩ := h
  · exact ⟨b, h1, .inl ⟨h2.1, h2.2.1, hk.trans h2.2.2⟩⟩
  · exact ⟨b, h1, .inr h2⟩
theorem put0 (n : Nat) (w : World) (h1 : n < 18446744073709551616) : Calls Tryd.prog 23 #[.string { data := #[] }, .int .u64 (n : Int)] w (okStr (str (numB n)) w) := by
  refine (putNum_any { data := #[] } (n : Int) w (by omega) (by omega) (by decide)).mono ?_
  rintro e w' ⟨rfl, hb⟩
  exact ⟨by rw [Int.toNat_natCast]; rfl, hb⟩
theorem putT0 (t : ByteArray) (w : World) (ht : t.size ≤ 1000) : Calls Tryd.prog 47 #[.string { data := #[] }, .string t] w (okStr (str (textB (bl t))) w) := by
  refine (putText_any { data := #[] } t w (by decide) (by omega)).mono ?_
  rintro e w' ⟨rfl, hb⟩
  exact ⟨rfl, hb⟩

theorem putT1 (t : List UInt8) (w : World) (ht : t.length ≤ 1000) : Calls Tryd.prog 47 #[.string { data := #[] }, .string (str t)] w (okStr (str (textB t)) w) := by
  have h := putT0 (str t) w (by rw [str_size]; exact ht)
  rw [bl_str] at h
  exact h

set_option maxHeartbeats 6400000 in
theorem number_in {g0 nB Bx l : Nat} {Jn J1 Jx : World → Prop} {w : World} (n : Nat) (hn : n < 18446744073709551616) (hbx : Blk w Bx 80 #[.func (.yield l) #[] #[]]) (hg : g0 ≤ w.heap.size)
    (hJ : ∀ W, Below w.heap.size w W → Jn W)
    (hY : ∀ W, Jn W → YieldAt Fence.wide 0 Tryd.prog l #[.string (str (numB n))] W (YR g0 nB J1 Jx W)) :
    CallsIn Fence.wide 9 Tryd.prog 46 #[.int .u64 (n : Int), .pointer (some ⟨Bx, 0, none⟩)] w (YR g0 nB J1 Jx w) := by
  have hmx : Tryd.prog.follows .mixedOrders = true := by kernel_rfl
  have hc := hbx.cell 0
  have hlt := hbx.lt
  simp only [List.getElem?_toArray, List.getElem?_cons_zero] at hc
  have HBX := Lib.hid hbx
  have HJ := Lib.hid hJ
  have HY := Lib.hid hY
  clear hbx hJ hY
  refine callsIn_of_wp Tryd.func46 rfl trivial ?_ rfl
  simp only [Tryd.ntmps46, List.size_toArray, List.length_cons, List.length_nil, Nat.reduceAdd, Nat.reduceSub, Array.replicate_succ, Array.replicate_zero, List.push_toArray, List.append_toArray, List.nil_append, List.cons_append]
  gi_wp2
  gi_region_with_o (first
    | (refine ⟨trivial, ?_⟩; gi_at_call 23; refine (callsIn_wide.2 (put0 n _ hn)).mono ?_; rintro e W1 ⟨rfl, b0⟩;
       have b1 : Below w.heap.size w W1 := ((Below.refl _ w).drew).trans b0;
       clear b0;
       have hc1 := (HBX.out.below b1).cell 0;
       simp only [List.getElem?_toArray, List.getElem?_cons_zero] at hc1;
       obtain ⟨fn, tmps, assign, body, hy, hR⟩ := yieldAny 8 (HY.out W1 (HJ.out W1 b1));
       have HR := Lib.hid hR;
       have HK := Lib.hid (KE.of_below (nB := nB) hg b1);
       clear hR)
    | (refine RoundIn.mono HR.out ?_; intro e W2 h0; obtain ⟨b, rfl, h⟩ := YR.from HK.out h0; clear h0))
  all_goals (gi_wp2; refine bodyPost_ret (results_tmp rfl _ _ _) rfl ?_; exact ⟨b, rfl, h⟩)
end Go.Proofs.YtdpbdkacngaemaaDoor.st


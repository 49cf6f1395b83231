/- StAb, StMay, StRMay, StChk, StEq, StSame. -/
import Derived.Test.YtchdamlnbmngbaaDoorQ1
import Derived.Lib.QuietBelow
import Derived.Deep.QuietTactic
import Derived.BigQuiet
import Derived.LoopTactic
import Derived.Deep.DeepCutAuto
set_option linter.unusedVariables false
set_option linter.unusedSimpArgs false
/- Is a guid above another one: the program's, and the document's. -/
namespace Go.Proofs.YtchdamlnbmngbaaDoor.st
open Go Go.RowKit Go.Sort Go.Proofs.YtchdamlnbmngbaaDoor.ib Go.Proofs.YtchdamlnbmngbaaDoor.wi Go.Proofs.YtchdamlnbmngbaaDoor.mt
open Go.Proofs.YtchdamlnbmngbaaDoor.ch (ChL OChs chVals infoCh)
set_option maxRecDepth 100000

set_option maxHeartbeats 1600000 in
theorem rabove_any (a b : Gd) (w : World) : Calls Tryd.prog 42 #[gv a, gv b] w (endB (above a b) w) := by
  obtain ⟨a1, a2⟩ := a
  obtain ⟨b1, b2⟩ := b
  have HR : Hid (above (a1, a2) (b1, b2) = (decide ((b1 : Int) < (a1 : Int)) || (decide ((a1 : Int) = (b1 : Int)) && decide ((b2 : Int) < (a2 : Int))))) := by
    unfold Hid above
    simp [Int.ofNat_inj]
  show Calls Tryd.prog 42 #[.agg #[.int .u64 (a1 : Int), .int .u64 (a2 : Int)], .agg #[.int .u64 (b1 : Int), .int .u64 (b2 : Int)]] w _
  obtain ⟨r, hr⟩ : ∃ r, above (a1, a2) (b1, b2) = r := ⟨_, rfl⟩
  rw [hr] at HR ⊢
  generalize (a1 : Int) = x1 at *
  generalize (a2 : Int) = x2 at *
  generalize (b1 : Int) = y1 at *
  generalize (b2 : Int) = y2 at *
  clear hr
  have hB1 := (Below.refl w.heap.size w).alloc (Nat.le_refl _) (.cells #[.int .u64 x1, .int .u64 x2] 24)
  have HB := Lib.hid (hB1.alloc hB1.size (.cells #[.int .u64 y1, .int .u64 y2] 24))
  clear hB1
  by_cases h1 : y1 < x1
  · have HT : Hid (r = true) := by unfold Hid; rw [HR.out]; simp [h1]
    clear HR
    go_enter Tryd.func42, Tryd.ntmps42
    go_wp2_with fail
    go_ret
    rw [HT.out]
    exact ⟨rfl, HB.out⟩
  · by_cases h2 : x1 = y1
    · subst h2
      by_cases h3 : y2 < x2
      · have HT : Hid (r = true) := by unfold Hid; rw [HR.out]; simp [h3]
        clear HR
        go_enter Tryd.func42, Tryd.ntmps42
        go_wp2_with fail
        go_ret
        rw [HT.out]
        exact ⟨rfl, HB.out⟩
      · have HT : Hid (r = false) := by unfold Hid; rw [HR.out]; simp [h3]
        clear HR
        go_enter Tryd.func42, Tryd.ntmps42
        go_wp2_with fail
        go_ret
        rw [HT.out]
        exact ⟨rfl, HB.out⟩
    · have HT : Hid (r = false) := by unfold Hid; rw [HR.out]; simp [h1, h2]
      have hq : (x1 == y1) = false := by simpa using h2
      clear HR
      go_enter Tryd.func42, Tryd.ntmps42
      go_wp2_with fail
      go_ret
      rw [HT.out]
      exact ⟨rfl, HB.out⟩

set_option maxHeartbeats 1600000 in
theorem above_any (a b : Gd) (w : World) : Calls Tryd.prog 39 #[gv a, gv b] w (endB (above a b) w) := by
  obtain ⟨a1, a2⟩ := a
  obtain ⟨b1, b2⟩ := b
  have HR : Hid (above (a1, a2) (b1, b2) = (decide ((b1 : Int) < (a1 : Int)) || (decide ((a1 : Int) = (b1 : Int)) && decide ((b2 : Int) < (a2 : Int))))) := by
    unfold Hid above
    simp [Int.ofNat_inj]
  show Calls Tryd.prog 39 #[.agg #[.int .u64 (a1 : Int), .int .u64 (a2 : Int)], .agg #[.int .u64 (b1 : Int), .int .u64 (b2 : Int)]] w _
  obtain ⟨r, hr⟩ : ∃ r, above (a1, a2) (b1, b2) = r := ⟨_, rfl⟩
  rw [hr] at HR ⊢
  generalize (a1 : Int) = x1 at *
  generalize (a2 : Int) = x2 at *
  generalize (b1 : Int) = y1 at *
  generalize (b2 : Int) = y2 at *
  clear hr
  have hB1 := (Below.refl w.heap.size w).alloc (Nat.le_refl _) (.cells #[.int .u64 x1, .int .u64 x2] 24)
  have HB := Lib.hid (hB1.alloc hB1.size (.cells #[.int .u64 y1, .int .u64 y2] 24))
  clear hB1
  by_cases h2 : x1 = y1
  · subst h2
    have hq : (x1 != x1) = false := by simp
    have HT : Hid (decide (y2 < x2) = r) := by unfold Hid; rw [HR.out]; simp
    clear HR
    go_enter Tryd.func39, Tryd.ntmps39
    go_wp2_with fail
    go_ret
    rw [← HT.out]
    exact ⟨rfl, HB.out⟩
  · have hq : (x1 != y1) = true := by simpa using h2
    have HT : Hid (decide (y1 < x1) = r) := by unfold Hid; rw [HR.out]; simp [h2]
    clear HR
    go_enter Tryd.func39, Tryd.ntmps39
    go_wp2_with fail
    go_ret
    rw [← HT.out]
    exact ⟨rfl, HB.out⟩
end Go.Proofs.YtchdamlnbmngbaaDoor.st

/- May changes be: the program's, by its closure, and the document's. -/
namespace Go.Proofs.YtchdamlnbmngbaaDoor.st
open Go Go.RowKit Go.Sort Go.Proofs.YtchdamlnbmngbaaDoor.ib Go.Proofs.YtchdamlnbmngbaaDoor.wi Go.Proofs.YtchdamlnbmngbaaDoor.mt
open Go.Proofs.YtchdamlnbmngbaaDoor.ch (ChL OChs chVals infoCh)
set_option maxRecDepth 100000

def fitB (k : Int) (c : Ch) : Bool := decide (k ≤ c.1) && decide (c.1 < 8) && decide (c.2.length = 32)
def leastF : Int → List Ch → Int
  | k, [] => k
  | _, c :: r => leastF (c.1 + 1) r
theorem mayF_snoc : ∀ (l : List Ch) (k : Int) (x : Ch), mayF k (l ++ [x]) = (mayF k l && fitB (leastF k l) x)
  | [], k, x => by
    show (fitB k x && true) = (true && fitB k x)
    rw [Bool.and_true, Bool.true_and]
  | c :: l, k, x => by
    have ih := mayF_snoc l (c.1 + 1) x
    simp only [List.cons_append, mayF, leastF, ih, Bool.and_assoc]
theorem leastF_snoc : ∀ (l : List Ch) (k : Int) (x : Ch), leastF k (l ++ [x]) = x.1 + 1
  | [], _, _ => rfl
  | c :: l, k, x => leastF_snoc l _ x
theorem mayF_app : ∀ (l r : List Ch) (k : Int), mayF k l = false → mayF k (l ++ r) = false
  | [], r, k, h => by cases h
  | c :: l, r, k, h => by
    simp only [List.cons_append, mayF] at h ⊢
    cases hc : (decide (k ≤ c.1) && decide (c.1 < 8) && decide (c.2.length = 32)) with
    | false => simp
    | true =>
      rw [hc, Bool.true_and] at h
      rw [mayF_app l r _ h]
      simp
theorem may_no {l : List Ch} {k : Nat} (h : may (l.take k) = false) : may l = false := by
  have := mayF_app (l.take k) (l.drop k) 0 h
  rwa [List.take_append_drop] at this
theorem may_snoc {l : List Ch} {k : Nat} (h : k < l.length) : may (l.take (k + 1)) = (may (l.take k) && fitB (leastF 0 (l.take k)) l[k]) := by
  unfold may
  rw [List.take_succ_eq_append_getElem h, mayF_snoc]

def FitPost (g : Nat) (k : Int) (c : Ch) (w : World) (e : Ending) (w' : World) : Prop :=
  e = .returned (.bool (fitB k c)) ∧ But (fun j => j = g) w w' ∧ (fitB k c = true → Blk w' g 3 #[.int .i64 (c.1 + 1)])
set_option maxHeartbeats 1600000 in
theorem fits_any (g : Nat) (k : Int) (c : Ch) (w : World) (hk : b64 k) (hc : b64 c.1) (h : Blk w g 3 #[.int .i64 k]) :
    Calls Tryd.prog 62 #[.agg #[.int .i64 c.1, .string (str c.2)], pt g] w (FitPost g k c w) := by
  obtain ⟨z, d⟩ := c
  have hz := str_size d
  have HPU : Hid (fitB k (z, d) = (decide (k ≤ z) && decide (z < 8) && decide (d.length = 32))) := rfl
  obtain ⟨r, hr⟩ : ∃ r, fitB k (z, d) = r := ⟨_, rfl⟩
  unfold FitPost
  rw [hr] at HPU ⊢
  clear hr
  dsimp only at hc ⊢
  obtain ⟨S, hS⟩ : ∃ S, str d = S := ⟨_, rfl⟩
  rw [hS] at hz ⊢
  clear hS
  unfold b64 at hc hk
  have hb := (Below.refl w.heap.size w).alloc (Nat.le_refl _) (.cells #[.int .i64 z, .string S] 36)
  have hx := Blk.new w 36 #[.int .i64 z, .string S]
  have hgl := h.lt
  have hg2 := h.below hb
  have hbu : But (fun j => j = g) w (w.alloc (.cells #[.int .i64 z, .string S] 36)) := But.of_below hb
  obtain ⟨W, hW⟩ : ∃ x, w.alloc (.cells #[.int .i64 z, .string S] 36) = x := ⟨_, rfl⟩
  rw [hW] at hx hg2 hbu
  have HBU := Lib.hid hbu
  have HG := Lib.hid hg2
  have c0 := hx.cell 0
  have c1 := hx.cell 1
  have hxl := hx.lt
  have g0 := hg2.cell 0
  have gl := hg2.lt
  have gf := hg2.frozen 0
  simp only [List.getElem?_toArray, List.getElem?_cons_zero, List.getElem?_cons_succ] at c0 c1 g0
  have HEND : Hid (∀ u : Int, (r = true → u = z + 1) → (But (fun j => j = g) w (W.setCell ⟨g, 0, none⟩ (.int .i64 u)) ∧ (r = true → Blk (W.setCell ⟨g, 0, none⟩ (.int .i64 u)) g 3 #[.int .i64 (z + 1)]))) := fun u hu =>
    ⟨HBU.out.setCell _ _ (.inl rfl), fun hr => by rw [hu hr]; exact HG.out.set_ 0 (.int .i64 (z + 1))⟩
  clear hb hx hg2 hbu h hgl
  by_cases h1 : k ≤ z
  · by_cases h2 : z < 8
    · by_cases h3 : d.length = 32
      · have hd : ((S.size : Int) == 32) = true := by rw [hz, h3]; rfl
        have HT : Hid (r = true) := by unfold Hid; rw [HPU.out]; simp [h1, h2, h3]
        clear HPU hz h3
        go_enter Tryd.func62, Tryd.ntmps62
        go_upto_region 1 with fail
        try rw [hW]
        clear hW
        go_wp2_with fail
        go_ret
        rw [HT.out]
        exact ⟨rfl, by have := HEND.out (z + 1) (fun _ => rfl); rw [HT.out] at this; exact this⟩
      · have hd : ((S.size : Int) == 32) = false := by rw [hz]; simp; omega
        have HT : Hid (r = false) := by unfold Hid; rw [HPU.out]; simp [h3]
        clear HPU hz h3
        go_enter Tryd.func62, Tryd.ntmps62
        go_upto_region 1 with fail
        try rw [hW]
        clear hW
        go_wp2_with fail
        go_ret
        rw [HT.out]
        exact ⟨rfl, by have := HEND.out (z + 1) (fun _ => rfl); rw [HT.out] at this; exact this⟩
    · have HT : Hid (r = false) := by unfold Hid; rw [HPU.out]; simp [h2]
      clear HPU hz
      go_enter Tryd.func62, Tryd.ntmps62
      go_upto_region 1 with fail
      try rw [hW]
      clear hW
      go_wp2_with fail
      all_goals
        go_ret
        have q := fun u => HEND.out u (fun h => absurd (HT.out.symm.trans h) (by decide))
        rw [HT.out] at q ⊢
        exact ⟨rfl, q _⟩
  · have HT : Hid (r = false) := by unfold Hid; rw [HPU.out]; simp [h1]
    clear HPU hz
    go_enter Tryd.func62, Tryd.ntmps62
    go_upto_region 1 with fail
    try rw [hW]
    clear hW
    go_wp2_with fail
    all_goals
      go_ret
      have q := fun u => HEND.out u (fun h => absurd (HT.out.symm.trans h) (by decide))
      rw [HT.out] at q ⊢
      exact ⟨rfl, q _⟩

def MayRel (l : List Ch) (g : Nat) (w : World) (i : Value) (wr : World) : Prop :=
  ∃ k : Nat, k ≤ l.length ∧ i = .int .i64 (k : Int) ∧ may (l.take k) = true ∧ Blk wr g 3 #[.int .i64 (leastF 0 (l.take k))] ∧ b64 (leastF 0 (l.take k)) ∧ Below w.heap.size w wr
set_option maxHeartbeats 3200000 in
theorem mayBe_any (A : Option Addr) (cp : Nat) (l : List Ch) (w : World) (h : ChL w A l) (hl : l.length ≤ 9223372036854775807) :
    Calls Tryd.prog 40 #[.slice A l.length cp] w (endB (may l) w) := by
  have HC := Lib.hid h
  have hb0 := (Below.refl w.heap.size w).alloc (Nat.le_refl _) (.cells #[.int .i64 0] 3)
  have HG0 := Lib.hid (Blk.new w 3 #[.int .i64 0])
  have HB0 := Lib.hid hb0
  clear h hb0
  obtain ⟨len, hlen⟩ : ∃ k, l.length = k := ⟨_, rfl⟩
  have HLEN := Lib.hid hlen
  rw [hlen] at hl ⊢
  clear hlen
  go_enter Tryd.func40, Tryd.ntmps40
  go_wp2_with fail
  obtain ⟨W0, hW0⟩ : ∃ z, w.alloc (.cells #[.int .i64 0] 3) = z := ⟨_, rfl⟩
  rw [hW0] at HG0 HB0
  try rw [hW0]
  clear hW0
  obtain ⟨g, hg⟩ : ∃ g, w.heap.size = g := ⟨_, rfl⟩
  have HGE := Lib.hid (Nat.le_of_eq hg)
  rw [hg] at HG0
  try rw [hg]
  clear hg
  go_loopw [6, 10] (fun _ i wr => MayRel l g w i wr) (fun _ i _ => len - (intOf i).toNat)
  case atStart => exact ⟨0, Nat.zero_le _, rfl, rfl, HG0.out, by show b64 0; unfold b64; omega, HB0.out⟩
  case round =>
    obtain ⟨k, hk, rfl, hm, hG, hb, hB⟩ := hrel
    have HM := Lib.hid hm
    have HG := Lib.hid hG
    have HBB := Lib.hid hb
    have HB := Lib.hid hB
    rw [HLEN.out] at hk
    clear hm hG hb hB
    by_cases hlt : k < len
    · have hki : (k : Int) < (len : Int) := by omega
      have hkl : k < l.length := by rw [HLEN.out]; exact hlt
      obtain ⟨bb, bo, rfl, hbb, c0, c1, cb⟩ := HC.out k hkl
      have HSN := Lib.hid (may_snoc hkl)
      have HLS : Hid (leastF 0 (l.take (k + 1)) = l[k].1 + 1) := by unfold Hid; rw [List.take_succ_eq_append_getElem hkl, leastF_snoc]
      have HNO : Hid (may (l.take (k + 1)) = false → may l = false) := fun h => may_no h
      obtain ⟨x, hx⟩ : ∃ x, l[k] = x := ⟨_, rfl⟩
      have HXM : Hid (x ∈ l.take (k + 1)) := by unfold Hid; rw [List.take_succ_eq_append_getElem hkl, hx]; simp
      rw [hx] at c0 c1 cb HSN HLS
      have HCB := Lib.hid cb
      have e0 : wr.cell? ⟨bb, bo + k * 2, none⟩ = some (.int .i64 x.1) := by rw [HB.out.cell (p := ⟨bb, bo + k * 2, none⟩) hbb]; exact c0
      have e1 : wr.cell? ⟨bb, bo + k * 2 + 1, none⟩ = some (.string (str x.2)) := by rw [HB.out.cell (p := ⟨bb, bo + k * 2 + 1, none⟩) hbb]; exact c1
      have lb : bb < wr.heap.size := Nat.lt_of_lt_of_le hbb HB.out.size
      clear hx c0 c1 cb
      obtain ⟨W1, hW1⟩ : ∃ z, wr.alloc (.cells #[.int .i64 x.1, .string (str x.2)] 36) = z := ⟨_, rfl⟩
      have hb1 : Below wr.heap.size wr W1 := by rw [← hW1]; exact (Below.refl _ wr).alloc (Nat.le_refl _) _
      have hX : Blk W1 wr.heap.size 36 #[.int .i64 x.1, .string (str x.2)] := by rw [← hW1]; exact Blk.new _ _ _
      have HB1 := Lib.hid (below_step HB.out hb1)
      have HG1 := Lib.hid (HG.out.below hb1)
      have x0 := hX.cell 0
      have x1 := hX.cell 1
      have hxl := hX.lt
      simp only [List.getElem?_toArray, List.getElem?_cons_zero, List.getElem?_cons_succ] at x0 x1
      clear hb1 hX
      go_upto_region 6 with fail
      try rw [hW1]
      clear hW1 e0 e1
      go_wp2_with fail
      refine (fits_any g _ x W1 HBB.out HCB.out HG1.out).mono ?_
      rintro e W2 ⟨rfl, hbu, hG2⟩
      have HB2 : Hid (Below w.heap.size w W2) := HB1.out.trans (hbu.below (fun j hj => by rw [hj]; exact HGE.out) HB1.out.size)
      have HG2 := Lib.hid hG2
      obtain ⟨r, hr⟩ : ∃ r, fitB (leastF 0 (l.take k)) x = r := ⟨_, rfl⟩
      rw [hr] at HSN HG2 ⊢
      clear hbu hG2 x0 x1 hxl hr
      cases r with
      | true =>
        have HTR : Hid (may (l.take (k + 1)) = true) := by unfold Hid; rw [HSN.out, HM.out]; rfl
        have HF : Hid (fitB (leastF 0 (l.take k)) x = true → x.1 < 8) := fun h => by unfold fitB at h; simp only [Bool.and_eq_true, decide_eq_true_eq] at h; exact h.1.2
        have HX8 : Hid (b64 (x.1 + 1)) := by
          have h := HCB.out
          have h2 := mayF_ok HTR.out x HXM.out
          unfold b64 at h
          unfold Hid b64
          omega
        go_wp2_with fail
        go_roundw
        case rel => exact ⟨k + 1, by rw [HLEN.out]; omega, by go_num, HTR.out, by rw [HLS.out]; exact HG2.out (by first | rfl | trivial), by rw [HLS.out]; exact HX8.out, HB2.out⟩
        case measure => simp [intOf]; omega
      | false =>
        have HFL : Hid (may l = false) := HNO.out (by rw [HSN.out, HM.out]; rfl)
        go_wp2_with fail
        go_ret
        rw [HFL.out]
        exact ⟨rfl, HB2.out⟩
    · have hki : ¬ (k : Int) < (len : Int) := by omega
      have HT : Hid (may l = true) := by
        have := HM.out
        rwa [List.take_of_length_le (by rw [HLEN.out]; omega)] at this
      go_wp2_with fail
      go_ret
      rw [HT.out]
      exact ⟨rfl, HB.out⟩
end Go.Proofs.YtchdamlnbmngbaaDoor.st

/- May changes be, as the document tells it. -/
namespace Go.Proofs.YtchdamlnbmngbaaDoor.st
open Go Go.RowKit Go.Sort Go.Proofs.YtchdamlnbmngbaaDoor.ib Go.Proofs.YtchdamlnbmngbaaDoor.wi Go.Proofs.YtchdamlnbmngbaaDoor.mt
open Go.Proofs.YtchdamlnbmngbaaDoor.ch (ChL OChs chVals infoCh)
set_option maxRecDepth 100000

def RMayRel (l : List Ch) (w : World) (i : Value) (wr : World) : Prop :=
  ∃ k : Nat, k ≤ l.length ∧ i = .int .i64 (k : Int) ∧ may (l.take k) = true ∧ Below w.heap.size w wr
/-- One change, by the document: its faults one behind the other. -/
theorem may_zero {l : List Ch} (h : 0 < l.length) : may (l.take (0 + 1)) = (decide (0 ≤ l[0].1) && decide (l[0].1 < 8) && decide (l[0].2.length = 32)) := by
  rw [may_snoc h]
  rfl
theorem may_next {l : List Ch} {j : Nat} (h : j + 1 < l.length) (hm : may (l.take (j + 1)) = true) : may (l.take (j + 1 + 1)) = (decide (l[j].1 < l[j + 1].1) && decide (l[j + 1].1 < 8) && decide (l[j + 1].2.length = 32)) := by
  rw [may_snoc h, hm, Bool.true_and]
  have : leastF 0 (l.take (j + 1)) = l[j].1 + 1 := by rw [List.take_succ_eq_append_getElem (by omega), leastF_snoc]
  unfold fitB
  rw [this]
  congr 2

set_option maxHeartbeats 6400000 in
theorem rmay_any (A : Option Addr) (cp : Nat) (l : List Ch) (w : World) (h : ChL w A l) (hl : l.length ≤ 9223372036854775807) :
    Calls Tryd.prog 43 #[.slice A l.length cp] w (endB (may l) w) := by
  have HC := Lib.hid h
  clear h
  obtain ⟨len, hlen⟩ : ∃ k, l.length = k := ⟨_, rfl⟩
  have HLEN := Lib.hid hlen
  rw [hlen] at hl ⊢
  clear hlen
  go_enter Tryd.func43, Tryd.ntmps43
  go_wp2_with fail
  go_loopw [3, 4] (fun i _ wr => RMayRel l w i wr) (fun i _ _ => len - (intOf i).toNat)
  case atStart => exact ⟨0, Nat.zero_le _, rfl, rfl, Below.refl _ _⟩
  case round =>
    obtain ⟨k, hk, rfl, hm, hB⟩ := hrel
    have HM := Lib.hid hm
    have HB := Lib.hid hB
    rw [HLEN.out] at hk
    clear hm hB
    by_cases hlt : k < len
    · have hki : (k : Int) < (len : Int) := by omega
      have hkl : k < l.length := by rw [HLEN.out]; exact hlt
      obtain ⟨bb, bo, rfl, hbb, c0, c1, cb⟩ := HC.out k hkl
      have HNO : Hid (may (l.take (k + 1)) = false → may l = false) := fun h => may_no h
      have HZ : Hid (k = 0 → may (l.take (k + 1)) = (decide (0 ≤ l[k].1) && decide (l[k].1 < 8) && decide (l[k].2.length = 32))) := fun h => by subst h; exact may_zero hkl
      have HN : Hid (∀ j, (hj : k = j + 1) → may (l.take (k + 1)) = (decide ((l[j]'(by omega)).1 < l[k].1) && decide (l[k].1 < 8) && decide (l[k].2.length = 32))) := fun j h => by subst h; exact may_next hkl HM.out
      have HLO : Hid (l[k].1 < 0 → may (l.take (k + 1)) = false) := fun h0 => by
        cases hq : may (l.take (k + 1)) with
        | false => rfl
        | true =>
          exfalso
          have := mayF_ok hq l[k] (by rw [List.take_succ_eq_append_getElem hkl]; exact List.mem_append_right _ (List.mem_singleton.2 rfl))
          omega
      obtain ⟨x, hx⟩ : ∃ x, l[k] = x := ⟨_, rfl⟩
      rw [hx] at c0 c1 cb HZ HN HLO
      have HCB := Lib.hid cb
      have e0 : wr.cell? ⟨bb, bo + k * 2, none⟩ = some (.int .i64 x.1) := by rw [HB.out.cell (p := ⟨bb, bo + k * 2, none⟩) hbb]; exact c0
      have e1 : wr.cell? ⟨bb, bo + k * 2 + 1, none⟩ = some (.string (str x.2)) := by rw [HB.out.cell (p := ⟨bb, bo + k * 2 + 1, none⟩) hbb]; exact c1
      have lb : bb < wr.heap.size := Nat.lt_of_lt_of_le hbb HB.out.size
      clear hx c0 c1 cb
      obtain ⟨z, d⟩ := x
      dsimp only at e0 e1 HZ HN HLO HCB
      have hz := str_size d
      obtain ⟨S, hS⟩ : ∃ S, str d = S := ⟨_, rfl⟩
      rw [hS] at hz e1
      clear hS
      obtain ⟨W1, hW1⟩ : ∃ q, wr.alloc (.cells #[.int .i64 z, .string S] 36) = q := ⟨_, rfl⟩
      have hb1 : Below wr.heap.size wr W1 := by rw [← hW1]; exact (Below.refl _ wr).alloc (Nat.le_refl _) _
      have hX : Blk W1 wr.heap.size 36 #[.int .i64 z, .string S] := by rw [← hW1]; exact Blk.new _ _ _
      have HB1 := Lib.hid (below_step HB.out hb1)
      have x0 := hX.cell 0
      have x1 := hX.cell 1
      have hxl := hX.lt
      simp only [List.getElem?_toArray, List.getElem?_cons_zero, List.getElem?_cons_succ] at x0 x1
      have hsz1 : bb < W1.heap.size := Nat.lt_of_lt_of_le lb hb1.size
      clear hb1 hX
      go_upto_region 5 with fail
      try rw [hW1]
      clear hW1 e0 e1
      have HZ0 := Lib.hid hz
      have HQ : Hid (∀ n, Below w.heap.size w (W1.drewN n)) := fun n => ⟨HB1.out.os, HB1.out.tape, HB1.out.output, HB1.out.size, HB1.out.block⟩
      clear hz
      by_cases h1 : z < 0
      · have HFL : Hid (may l = false) := HNO.out (HLO.out h1)
        have d1 : decide (z < 0) = true := decide_eq_true h1
        clear HZ HN HLO
        go_quiet (fail)
        go_wp2_with fail
        go_ret
        rw [HFL.out]
        exact ⟨rfl, HQ.out _⟩
      have d1 : decide (z < 0) = false := decide_eq_false h1
      by_cases h2 : 8 ≤ z
      · have HFL : Hid (may l = false) := HNO.out (by
          by_cases h0 : k = 0
          · rw [HZ.out h0, decide_eq_false (show ¬ z < 8 by omega)]; simp
          · rw [HN.out (k - 1) (by omega), decide_eq_false (show ¬ z < 8 by omega)]; simp)
        have d2 : decide (8 ≤ z) = true := decide_eq_true h2
        clear HZ HN HLO
        go_quiet (fail)
        go_wp2_with fail
        go_ret
        rw [HFL.out]
        exact ⟨rfl, HQ.out _⟩
      have d2 : decide (8 ≤ z) = false := decide_eq_false h2
      by_cases h3 : d.length = 32
      · have HD3 : Hid (((S.size : Int) != 32) = false) := by unfold Hid; rw [HZ0.out, h3]; rfl
        by_cases h0 : k = 0
        · have HT : Hid (may (l.take (k + 1)) = true) := by
            unfold Hid
            rw [HZ.out h0, decide_eq_true (show (0 : Int) ≤ z by omega), decide_eq_true (show z < 8 by omega), decide_eq_true h3]
            rfl
          have hk0 : ¬ (0 : Int) < (k : Int) := by omega
          have HK0 : Hid (decide ((0 : Int) < (k : Int)) = false ∧ decide (0 < k) = false ∧ ¬ 0 < k) := ⟨decide_eq_false hk0, decide_eq_false (by omega), by omega⟩
          clear HZ HN HLO h0 hk0 h3
          have d3 := HD3.out
          obtain ⟨d4, d5, d6⟩ := HK0.out
          go_quiet (fail)
          go_wp2_with fail
          go_roundw
          case rel => exact ⟨k + 1, by rw [HLEN.out]; omega, by go_num, HT.out, HQ.out _⟩
          case measure => simp [intOf]; omega
        · obtain ⟨q, hq⟩ : ∃ q, k = q + 1 := ⟨k - 1, by omega⟩
          have hql : q < l.length := by omega
          obtain ⟨b2, o2, hA2, hbb2, c0, -, -⟩ := HC.out q hql
          simp only [Option.some.injEq, Addr.mk.injEq, and_true] at hA2
          obtain ⟨rfl, rfl⟩ := hA2
          have HNQ := Lib.hid (HN.out q hq)
          have e0 : W1.cell? ⟨bb, bo + q * 2, none⟩ = some (.int .i64 (l[q]'hql).1) := by rw [HB1.out.cell (p := ⟨bb, bo + q * 2, none⟩) hbb]; exact c0
          obtain ⟨y, hy⟩ : ∃ y, (l[q]'hql).1 = y := ⟨_, rfl⟩
          rw [hy] at HNQ e0
          have hsub : (k : Int) - 1 = (q : Int) := by omega
          have hqm : (q : Int) < (len : Int) := by omega
          have hqm2 : q < len := by omega
          have hk0 : (0 : Int) < (k : Int) := by omega
          have HK0 : Hid (decide ((0 : Int) < (k : Int)) = true ∧ decide (0 < k) = true ∧ 0 < k ∧ (0 : Int) < (k : Int)) := ⟨decide_eq_true hk0, decide_eq_true (by omega), by omega, hk0⟩
          clear HZ HN HLO h0 hk0 c0 hy hq hql
          by_cases h4 : y < z
          · have HT : Hid (may (l.take (k + 1)) = true) := by
              unfold Hid
              rw [HNQ.out, decide_eq_true h4, decide_eq_true (show z < 8 by omega), decide_eq_true h3]
              rfl
            have d7 : decide (z ≤ y) = false := decide_eq_false (by omega)
            clear HNQ h3
            have d3 := HD3.out
            obtain ⟨d4, d5, d6, d8⟩ := HK0.out
            go_quiet (fail)
            go_wp2_with fail
            go_roundw
            case rel => exact ⟨k + 1, by rw [HLEN.out]; omega, by go_num, HT.out, HQ.out _⟩
            case measure => simp [intOf]; omega
          · have HFL : Hid (may l = false) := HNO.out (by rw [HNQ.out, decide_eq_false h4]; simp)
            have d7 : decide (z ≤ y) = true := decide_eq_true (by omega)
            clear HNQ h3
            have d3 := HD3.out
            obtain ⟨d4, d5, d6, d8⟩ := HK0.out
            go_quiet (fail)
            go_wp2_with fail
            go_ret
            rw [HFL.out]
            exact ⟨rfl, HQ.out _⟩
      · have HFL : Hid (may l = false) := HNO.out (by
          by_cases h0 : k = 0
          · rw [HZ.out h0, decide_eq_false h3]; simp
          · rw [HN.out (k - 1) (by omega), decide_eq_false h3]; simp)
        have d3 : ((S.size : Int) != 32) = true := by rw [HZ0.out]; simp; omega
        clear HZ HN HLO h3
        go_quiet (fail)
        go_wp2_with fail
        go_ret
        rw [HFL.out]
        exact ⟨rfl, HQ.out _⟩
    · have hki : ¬ (k : Int) < (len : Int) := by omega
      have HT : Hid (may l = true) := by
        have := HM.out
        rwa [List.take_of_length_le (by rw [HLEN.out]; omega)] at this
      go_wp2_with fail
      go_ret
      rw [HT.out]
      exact ⟨rfl, HB.out⟩
end Go.Proofs.YtchdamlnbmngbaaDoor.st

/- May a part be: the program's, and the document's. -/
namespace Go.Proofs.YtchdamlnbmngbaaDoor.st
open Go Go.RowKit Go.Sort Go.Proofs.YtchdamlnbmngbaaDoor.ib Go.Proofs.YtchdamlnbmngbaaDoor.wi Go.Proofs.YtchdamlnbmngbaaDoor.mt
open Go.Proofs.YtchdamlnbmngbaaDoor.ch (ChL OChs chVals infoCh)
set_option maxRecDepth 100000

theorem bad_of {p : Pa} (h : above p.target p.base = false ∨ p.all < 0 ∨ 8 < p.all ∨ p.fr < 0 ∨ p.all < p.fr + p.chs.length ∨ 2 < p.chs.length ∨ (p.chs.length = 0 ∧ 0 < p.all) ∨ may p.chs = false) : pCheck p = 2 := by
  unfold pCheck
  rw [if_pos]
  unfold pBad
  simp only [Bool.or_eq_true, Bool.and_eq_true, Bool.not_eq_true', decide_eq_true_eq]
  rcases h with h | h | h | h | h | h | h | h <;> simp only [h, true_or, or_true, and_self]
theorem good_of {p : Pa} (h0 : above p.target p.base = true) (h1 : ¬ p.all < 0) (h2 : ¬ 8 < p.all) (h3 : ¬ p.fr < 0) (h4 : ¬ p.all < p.fr + p.chs.length) (h5 : ¬ 2 < p.chs.length) (h6 : ¬ (p.chs.length = 0 ∧ 0 < p.all)) (h7 : may p.chs = true) : pCheck p = 0 := by
  unfold pCheck
  rw [if_neg]
  unfold pBad
  simp only [Bool.or_eq_true, Bool.and_eq_true, Bool.not_eq_true', decide_eq_true_eq, h0, h7]
  simp only [h1, h2, h3, h4, h5, h6, or_false, Bool.true_eq_false, not_false_eq_true]

set_option maxHeartbeats 6400000 in
theorem check_any (A : Option Addr) (cp : Nat) (p : Pa) (w : World) (h : PaL w A cp p) (hs : p.chs.length ≤ 1000) : Calls Tryd.prog 17 #[.agg (paC p A cp)] w (endI (pCheck p) w) := by
  have hb := (Below.refl w.heap.size w).alloc (Nat.le_refl _) (.cells (paC p A cp) 30)
  have ha := Blk.new w 30 (paC p A cp)
  obtain ⟨W, hW⟩ : ∃ z, w.alloc (.cells (paC p A cp) 30) = z := ⟨_, rfl⟩
  rw [hW] at hb ha
  have HP := Lib.hid (h.below hb)
  have HB := Lib.hid hb
  have HA := Lib.hid ha
  have HAB : Hid (∀ W, Calls Tryd.prog 39 #[gv p.target, gv p.base] W (endB (above p.target p.base) W)) := fun W => above_any _ _ W
  have HBAD := Lib.hid (fun h => bad_of (p := p) h)
  have HGOOD := Lib.hid (fun h0 h1 h2 h3 h4 h5 h6 h7 => good_of (p := p) h0 h1 h2 h3 h4 h5 h6 h7)
  have hal := h.all
  have hfr := h.fr
  unfold b64 at hal hfr
  have HML : Hid (p.chs.length ≤ 1000) := hs
  clear h hb ha
  obtain ⟨⟨b1, b2⟩, ⟨t1, t2⟩, fr, all, chs⟩ := p
  unfold paC gv at *
  dsimp only at *
  obtain ⟨n, hn⟩ : ∃ n, chs.length = n := ⟨_, rfl⟩
  have HN := Lib.hid hn
  rw [hn] at hs hW HA HBAD HGOOD ⊢
  have ha := HA.out
  have a0 := ha.cell 0
  have a1 := ha.cell 1
  have a2 := ha.cell 2
  have a3 := ha.cell 3
  have a4 := ha.cell 4
  have a5 := ha.cell 5
  have a6 := ha.cell 6
  have hla := ha.lt
  simp only [List.getElem?_toArray, List.getElem?_cons_zero, List.getElem?_cons_succ] at a0 a1 a2 a3 a4 a5 a6
  clear ha hn
  obtain ⟨K, hK⟩ : ∃ K, pCheck ⟨(b1, b2), (t1, t2), fr, all, chs⟩ = K := ⟨_, rfl⟩
  rw [hK] at HBAD HGOOD ⊢
  obtain ⟨R, hR⟩ : ∃ R, above (t1, t2) (b1, b2) = R := ⟨_, rfl⟩
  rw [hR] at HAB HBAD HGOOD
  obtain ⟨M, hM⟩ : ∃ M, may chs = M := ⟨_, rfl⟩
  rw [hM] at HBAD HGOOD
  have HM := Lib.hid hM
  clear hK hR hM
  go_enter Tryd.func17, Tryd.ntmps17
  go_upto_region 2 with fail
  try rw [hW]
  clear hW
  go_wp2_with fail
  refine (HAB.out W).mono ?_
  rintro e W1 ⟨rfl, hb1⟩
  have HB1 := Lib.hid (below_step HB.out hb1)
  have HP1 := Lib.hid (HP.out.below hb1)
  have ha := HA.out.below hb1
  clear hb1 a0 a1 a2 a3 a4 a5 a6 hla HA HP HB HAB
  have a4 := ha.cell 4
  have a5 := ha.cell 5
  have a6 := ha.cell 6
  have hla := ha.lt
  simp only [List.getElem?_toArray, List.getElem?_cons_zero, List.getElem?_cons_succ] at a4 a5 a6
  clear ha
  cases R with
  | false =>
    obtain rfl : K = 2 := HBAD.out (.inl rfl)
    go_wp2_with fail
    go_ret
    exact ⟨rfl, HB1.out⟩
  | true =>
    by_cases h1 : all < 0
    · obtain rfl : K = 2 := HBAD.out (.inr (.inl h1))
      go_wp2_with fail
      go_ret
      exact ⟨rfl, HB1.out⟩
    by_cases h2 : 8 < all
    · obtain rfl : K = 2 := HBAD.out (.inr (.inr (.inl h2)))
      go_wp2_with fail
      go_ret
      exact ⟨rfl, HB1.out⟩
    by_cases h3 : fr < 0
    · obtain rfl : K = 2 := HBAD.out (.inr (.inr (.inr (.inl h3))))
      go_wp2_with fail
      go_ret
      exact ⟨rfl, HB1.out⟩
    by_cases h4 : all < fr + n
    · have h4' : all - fr < (n : Int) := by omega
      obtain rfl : K = 2 := HBAD.out (.inr (.inr (.inr (.inr (.inl h4)))))
      go_wp2_with fail
      go_ret
      exact ⟨rfl, HB1.out⟩
    have h4' : ¬ all - fr < (n : Int) := by omega
    by_cases h5 : 2 < n
    · have h5' : (2 : Int) < (n : Int) := by omega
      obtain rfl : K = 2 := HBAD.out (.inr (.inr (.inr (.inr (.inr (.inl h5))))))
      go_wp2_with fail
      go_ret
      exact ⟨rfl, HB1.out⟩
    have h5' : ¬ (2 : Int) < (n : Int) := by omega
    by_cases h6 : n = 0 ∧ 0 < all
    · obtain ⟨h60, h61⟩ := h6
      have h62 : ((n : Int) == 0) = true := by subst h60; rfl
      obtain rfl : K = 2 := HBAD.out (.inr (.inr (.inr (.inr (.inr (.inr (.inl ⟨h60, h61⟩)))))))
      go_wp2_with fail
      go_ret
      exact ⟨rfl, HB1.out⟩
    have HG := Lib.hid (fun q => HGOOD.out rfl (by omega) (by omega) (by omega) (by omega) (by omega) (by omega) q)
    have HMC := Lib.hid (mayBe_any A cp chs W1 HP1.out.chs (by have := HML.out; omega))
    rw [HN.out] at HMC
    clear HGOOD
    by_cases h60 : n = 0
    · have h61 : ¬ 0 < all := fun h => h6 ⟨h60, h⟩
      have h62 : ((n : Int) == 0) = true := by subst h60; rfl
      clear h6 h60
      go_wp2_with fail
      refine HMC.out.mono ?_
      rintro e W2 ⟨rfl, hb2⟩
      have HB2 := Lib.hid (below_step HB1.out hb2)
      rw [HM.out]
      clear hb2 a4 a5 a6 hla
      cases M with
      | false =>
        obtain rfl : K = 2 := HBAD.out (.inr (.inr (.inr (.inr (.inr (.inr (.inr rfl)))))))
        go_wp2_with fail
        go_ret
        exact ⟨rfl, HB2.out⟩
      | true =>
        obtain rfl : K = 0 := HG.out rfl
        go_wp2_with fail
        go_ret
        exact ⟨rfl, HB2.out⟩
    · have h62 : ((n : Int) == 0) = false := by simpa using h60
      clear h6 h60
      go_wp2_with fail
      refine HMC.out.mono ?_
      rintro e W2 ⟨rfl, hb2⟩
      have HB2 := Lib.hid (below_step HB1.out hb2)
      rw [HM.out]
      clear hb2 a4 a5 a6 hla
      cases M with
      | false =>
        obtain rfl : K = 2 := HBAD.out (.inr (.inr (.inr (.inr (.inr (.inr (.inr rfl)))))))
        go_wp2_with fail
        go_ret
        exact ⟨rfl, HB2.out⟩
      | true =>
        obtain rfl : K = 0 := HG.out rfl
        go_wp2_with fail
        go_ret
        exact ⟨rfl, HB2.out⟩

set_option maxHeartbeats 6400000 in
theorem rcheck_any (A : Option Addr) (cp : Nat) (p : Pa) (w : World) (h : PaL w A cp p) (hs : p.chs.length ≤ 1000) : Calls Tryd.prog 18 #[.agg (paC p A cp)] w (endI (pCheck p) w) := by
  have hb := (Below.refl w.heap.size w).alloc (Nat.le_refl _) (.cells (paC p A cp) 30)
  have ha := Blk.new w 30 (paC p A cp)
  obtain ⟨W, hW⟩ : ∃ z, w.alloc (.cells (paC p A cp) 30) = z := ⟨_, rfl⟩
  rw [hW] at hb ha
  have HP := Lib.hid (h.below hb)
  have HB := Lib.hid hb
  have HA := Lib.hid ha
  have HAB : Hid (∀ W, Calls Tryd.prog 42 #[gv p.target, gv p.base] W (endB (above p.target p.base) W)) := fun W => rabove_any _ _ W
  have HBAD := Lib.hid (fun h => bad_of (p := p) h)
  have HGOOD := Lib.hid (fun h0 h1 h2 h3 h4 h5 h6 h7 => good_of (p := p) h0 h1 h2 h3 h4 h5 h6 h7)
  have hal := h.all
  have hfr := h.fr
  unfold b64 at hal hfr
  have HML : Hid (p.chs.length ≤ 1000) := hs
  clear h hb ha
  obtain ⟨⟨b1, b2⟩, ⟨t1, t2⟩, fr, all, chs⟩ := p
  unfold paC gv at *
  dsimp only at *
  obtain ⟨n, hn⟩ : ∃ n, chs.length = n := ⟨_, rfl⟩
  have HN := Lib.hid hn
  rw [hn] at hs hW HA HBAD HGOOD ⊢
  have ha := HA.out
  have a0 := ha.cell 0
  have a1 := ha.cell 1
  have a2 := ha.cell 2
  have a3 := ha.cell 3
  have a4 := ha.cell 4
  have a5 := ha.cell 5
  have a6 := ha.cell 6
  have hla := ha.lt
  simp only [List.getElem?_toArray, List.getElem?_cons_zero, List.getElem?_cons_succ] at a0 a1 a2 a3 a4 a5 a6
  clear ha hn
  obtain ⟨K, hK⟩ : ∃ K, pCheck ⟨(b1, b2), (t1, t2), fr, all, chs⟩ = K := ⟨_, rfl⟩
  rw [hK] at HBAD HGOOD ⊢
  obtain ⟨R, hR⟩ : ∃ R, above (t1, t2) (b1, b2) = R := ⟨_, rfl⟩
  rw [hR] at HAB HBAD HGOOD
  obtain ⟨M, hM⟩ : ∃ M, may chs = M := ⟨_, rfl⟩
  rw [hM] at HBAD HGOOD
  have HM := Lib.hid hM
  clear hK hR hM
  go_enter Tryd.func18, Tryd.ntmps18
  go_upto_region 2 with fail
  try rw [hW]
  clear hW
  go_wp2_with fail
  refine (HAB.out W).mono ?_
  rintro e W1 ⟨rfl, hb1⟩
  have HB1 := Lib.hid (below_step HB.out hb1)
  have HP1 := Lib.hid (HP.out.below hb1)
  have ha := HA.out.below hb1
  clear hb1 a0 a1 a2 a3 a4 a5 a6 hla HA HP HB HAB
  have a4 := ha.cell 4
  have a5 := ha.cell 5
  have a6 := ha.cell 6
  have hla := ha.lt
  simp only [List.getElem?_toArray, List.getElem?_cons_zero, List.getElem?_cons_succ] at a4 a5 a6
  clear ha
  cases R with
  | false =>
    obtain rfl : K = 2 := HBAD.out (.inl rfl)
    go_wp2_with fail
    go_ret
    exact ⟨rfl, HB1.out⟩
  | true =>
    by_cases h1 : all < 0
    · obtain rfl : K = 2 := HBAD.out (.inr (.inl h1))
      go_wp2_with fail
      go_ret
      exact ⟨rfl, HB1.out⟩
    by_cases h2 : 8 < all
    · obtain rfl : K = 2 := HBAD.out (.inr (.inr (.inl h2)))
      go_wp2_with fail
      go_ret
      exact ⟨rfl, HB1.out⟩
    by_cases h3 : fr < 0
    · obtain rfl : K = 2 := HBAD.out (.inr (.inr (.inr (.inl h3))))
      go_wp2_with fail
      go_ret
      exact ⟨rfl, HB1.out⟩
    by_cases h40 : all < fr
    · obtain rfl : K = 2 := HBAD.out (.inr (.inr (.inr (.inr (.inl (show all < fr + (n : Int) by omega))))))
      go_wp2_with fail
      go_ret
      exact ⟨rfl, HB1.out⟩
    by_cases h4 : all < fr + n
    · obtain rfl : K = 2 := HBAD.out (.inr (.inr (.inr (.inr (.inl h4)))))
      go_wp2_with fail
      go_ret
      exact ⟨rfl, HB1.out⟩
    by_cases h5 : 2 < n
    · have h5' : (2 : Int) < (n : Int) := by omega
      obtain rfl : K = 2 := HBAD.out (.inr (.inr (.inr (.inr (.inr (.inl h5))))))
      go_wp2_with fail
      go_ret
      exact ⟨rfl, HB1.out⟩
    have h5' : ¬ (2 : Int) < (n : Int) := by omega
    by_cases h6 : n = 0 ∧ 0 < all
    · obtain ⟨h60, h61⟩ := h6
      have h62 : ((n : Int) == 0) = true := by subst h60; rfl
      have h63 : (all != 0) = true := by simp; omega
      obtain rfl : K = 2 := HBAD.out (.inr (.inr (.inr (.inr (.inr (.inr (.inl ⟨h60, h61⟩)))))))
      go_wp2_with fail
      go_ret
      exact ⟨rfl, HB1.out⟩
    have HG := Lib.hid (fun q => HGOOD.out rfl (by omega) (by omega) (by omega) (by omega) (by omega) (by omega) q)
    have HMC := Lib.hid (rmay_any A cp chs W1 HP1.out.chs (by have := HML.out; omega))
    rw [HN.out] at HMC
    clear HGOOD
    by_cases h60 : n = 0
    · have h61 : (all != 0) = false := by simp; omega
      have h62 : ((n : Int) == 0) = true := by subst h60; rfl
      clear h6 h60
      go_wp2_with fail
      refine HMC.out.mono ?_
      rintro e W2 ⟨rfl, hb2⟩
      have HB2 := Lib.hid (below_step HB1.out hb2)
      rw [HM.out]
      clear hb2 a4 a5 a6 hla
      cases M with
      | false =>
        obtain rfl : K = 2 := HBAD.out (.inr (.inr (.inr (.inr (.inr (.inr (.inr rfl)))))))
        go_wp2_with fail
        go_ret
        exact ⟨rfl, HB2.out⟩
      | true =>
        obtain rfl : K = 0 := HG.out rfl
        go_wp2_with fail
        go_ret
        exact ⟨rfl, HB2.out⟩
    · have h62 : ((n : Int) == 0) = false := by simpa using h60
      clear h6 h60
      go_wp2_with fail
      refine HMC.out.mono ?_
      rintro e W2 ⟨rfl, hb2⟩
      have HB2 := Lib.hid (below_step HB1.out hb2)
      rw [HM.out]
      clear hb2 a4 a5 a6 hla
      cases M with
      | false =>
        obtain rfl : K = 2 := HBAD.out (.inr (.inr (.inr (.inr (.inr (.inr (.inr rfl)))))))
        go_wp2_with fail
        go_ret
        exact ⟨rfl, HB2.out⟩
      | true =>
        obtain rfl : K = 0 := HG.out rfl
        go_wp2_with fail
        go_ret
        exact ⟨rfl, HB2.out⟩
end Go.Proofs.YtchdamlnbmngbaaDoor.st

/- Are two lists of changes alike. -/
namespace Go.Proofs.YtchdamlnbmngbaaDoor.st
open Go Go.RowKit Go.Sort Go.Proofs.YtchdamlnbmngbaaDoor.ib Go.Proofs.YtchdamlnbmngbaaDoor.wi Go.Proofs.YtchdamlnbmngbaaDoor.mt
open Go.Proofs.YtchdamlnbmngbaaDoor.ch (ChL OChs chVals infoCh)
set_option maxRecDepth 100000

/-- As far as k both lists are alike. -/
def SaRel (l m : List Ch) (w : World) (i : Value) (wr : World) : Prop :=
  ∃ k : Nat, k ≤ l.length ∧ i = .int .i64 (k : Int) ∧ l.take k = m.take k ∧ Below w.heap.size w wr
theorem take_snoc {l m : List Ch} {k : Nat} (h1 : k < l.length) (h2 : k < m.length) (h : l.take k = m.take k) (he : l[k] = m[k]) : l.take (k + 1) = m.take (k + 1) := by
  rw [List.take_succ_eq_append_getElem h1, List.take_succ_eq_append_getElem h2, h, he]

set_option maxHeartbeats 6400000 in
theorem equal_any (A B : Option Addr) (c d : Nat) (l m : List Ch) (w : World) (hA : ChL w A l) (hB : ChL w B m) (hl : l.length ≤ 1000000) (hm : m.length ≤ 1000000) :
    Calls Tryd.prog 50 #[.slice A l.length c, .slice B m.length d] w (endB (decide (l = m)) w) := by
  have HA := Lib.hid hA
  have HB := Lib.hid hB
  clear hA hB
  by_cases hlen : l.length = m.length
  · obtain ⟨len, hln⟩ : ∃ k, l.length = k := ⟨_, rfl⟩
    have HLL := Lib.hid hln
    have HLM : Hid (m.length = len) := by unfold Hid; rw [← hln, hlen]
    rw [hln] at hl
    rw [← hlen, hln]
    have hne : ((len : Int) != (len : Int)) = false := by simp
    clear hln hlen hm
    go_enter Tryd.func50, Tryd.ntmps50
    go_wp2_with fail
    go_loopw [5, 13] (fun _ i wr => SaRel l m w i wr) (fun _ i _ => len - (intOf i).toNat)
    case atStart => exact ⟨0, Nat.zero_le _, rfl, by rw [List.take_zero, List.take_zero], Below.refl _ _⟩
    case round =>
      obtain ⟨k, hk, rfl, ht, hB⟩ := hrel
      have HT := Lib.hid ht
      have HBW := Lib.hid hB
      rw [HLL.out] at hk
      clear ht hB
      by_cases hlt : k < len
      · have hki : (k : Int) < (len : Int) := by omega
        have hkl : k < l.length := by rw [HLL.out]; exact hlt
        have hkm : k < m.length := by rw [HLM.out]; exact hlt
        obtain ⟨b1, o1, rfl, hb1, c0, c1, -⟩ := HA.out k hkl
        obtain ⟨b2, o2, rfl, hb2, d0, d1, -⟩ := HB.out k hkm
        have HNE : Hid (l[k] ≠ m[k] → l ≠ m) := fun h e => h (by subst e; rfl)
        have HTS : Hid (l[k] = m[k] → l.take (k + 1) = m.take (k + 1)) := fun e => take_snoc hkl hkm HT.out e
        obtain ⟨x, hx⟩ : ∃ x, l[k] = x := ⟨_, rfl⟩
        obtain ⟨y, hy⟩ : ∃ y, m[k] = y := ⟨_, rfl⟩
        rw [hx] at c0 c1 HNE HTS
        rw [hy] at d0 d1 HNE HTS
        have e0 : wr.cell? ⟨b1, o1 + k * 2, none⟩ = some (.int .i64 x.1) := by rw [HBW.out.cell (p := ⟨b1, o1 + k * 2, none⟩) hb1]; exact c0
        have e1 : wr.cell? ⟨b1, o1 + k * 2 + 1, none⟩ = some (.string (str x.2)) := by rw [HBW.out.cell (p := ⟨b1, o1 + k * 2 + 1, none⟩) hb1]; exact c1
        have f0 : wr.cell? ⟨b2, o2 + k * 2, none⟩ = some (.int .i64 y.1) := by rw [HBW.out.cell (p := ⟨b2, o2 + k * 2, none⟩) hb2]; exact d0
        have f1 : wr.cell? ⟨b2, o2 + k * 2 + 1, none⟩ = some (.string (str y.2)) := by rw [HBW.out.cell (p := ⟨b2, o2 + k * 2 + 1, none⟩) hb2]; exact d1
        have l1 : b1 < wr.heap.size := Nat.lt_of_lt_of_le hb1 HBW.out.size
        have l2 : b2 < wr.heap.size := Nat.lt_of_lt_of_le hb2 HBW.out.size
        have HXY := Lib.hid (chg_eq x y)
        clear c0 c1 d0 d1 hx hy hb1 hb2
        generalize x.1 = x1 at *
        generalize str x.2 = x2 at *
        generalize y.1 = y1 at *
        generalize str y.2 = y2 at *
        obtain ⟨q1, hq1⟩ : ∃ q, (x1 == y1) = q := ⟨_, rfl⟩
        obtain ⟨q2, hq2⟩ : ∃ q, (x2.toList == y2.toList) = q := ⟨_, rfl⟩
        have HQ1 : Hid (q1 = true → q2 = true → x = y) := fun h1 h2 => by
          have := HXY.out
          rw [hq1, hq2, h1, h2] at this
          simpa using this.symm
        have HQ2 : Hid ((q1 && q2) = false → x ≠ y) := fun h => by
          have := HXY.out
          rw [hq1, hq2, h] at this
          simpa using this.symm
        clear HXY
        have HQ : Hid (∀ n, Below w.heap.size w (wr.drewN n)) := fun n => ⟨HBW.out.os, HBW.out.tape, HBW.out.output, HBW.out.size, HBW.out.block⟩
        by_cases hqq : q1 = true ∧ q2 = true
        · obtain ⟨rfl, rfl⟩ := hqq
          have HTT := Lib.hid (HTS.out (HQ1.out rfl rfl))
          clear HTS HNE HQ1 HQ2
          go_wp2_with fail
          go_quiet (fail)
          go_wp2_with fail
          go_roundw
          case rel => exact ⟨k + 1, by rw [HLL.out]; omega, by go_num, HTT.out, HQ.out _⟩
          case measure => simp [intOf]; omega
        · have hqb : (q1 && q2) = false := by cases q1 <;> cases q2 <;> simp at hqq ⊢
          have HFL : Hid (decide (l = m) = false) := decide_eq_false (HNE.out (HQ2.out hqb))
          have hqs : (q1 = false) ∨ (q1 = true ∧ q2 = false) := by cases q1 <;> cases q2 <;> simp at hqq ⊢
          clear hqq hqb HQ1 HQ2 HTS HNE
          rcases hqs with rfl | ⟨rfl, rfl⟩
          all_goals
            go_wp2_with fail
            go_quiet (fail)
            go_wp2_with fail
            go_ret
            rw [HFL.out]
            exact ⟨rfl, HQ.out _⟩
      · have hki : ¬ (k : Int) < (len : Int) := by omega
        have HTR : Hid (decide (l = m) = true) := decide_eq_true (by
          have := HT.out
          rwa [List.take_of_length_le (by rw [HLL.out]; omega), List.take_of_length_le (by rw [HLM.out]; omega)] at this)
        go_wp2_with fail
        go_ret
        rw [HTR.out]
        exact ⟨rfl, HBW.out⟩
  · have HFL : Hid (decide (l = m) = false) := decide_eq_false (fun e => hlen (by rw [e]))
    have hne : ((l.length : Int) != (m.length : Int)) = true := by simp; omega
    obtain ⟨x, hx⟩ : ∃ k, l.length = k := ⟨_, rfl⟩
    obtain ⟨y, hy⟩ : ∃ k, m.length = k := ⟨_, rfl⟩
    rw [hx, hy] at hne
    rw [hx, hy]
    clear hlen hx hy hl hm
    go_enter Tryd.func50, Tryd.ntmps50
    go_wp2_with fail
    go_ret
    rw [HFL.out]
    exact ⟨rfl, Below.refl _ _⟩
end Go.Proofs.YtchdamlnbmngbaaDoor.st

/- Are two parts alike: the program's, and the document's. -/
namespace Go.Proofs.YtchdamlnbmngbaaDoor.st
open Go Go.RowKit Go.Sort Go.Proofs.YtchdamlnbmngbaaDoor.ib Go.Proofs.YtchdamlnbmngbaaDoor.wi Go.Proofs.YtchdamlnbmngbaaDoor.mt
open Go.Proofs.YtchdamlnbmngbaaDoor.ch (ChL OChs chVals infoCh)
set_option maxRecDepth 100000

set_option maxHeartbeats 6400000 in
theorem same_any (A B : Option Addr) (c d : Nat) (p q : Pa) (w : World) (h : PaL w A c p) (h' : PaL w B d q) (hs : p.chs.length ≤ 1000000) (hs' : q.chs.length ≤ 1000000) :
    Calls Tryd.prog 19 #[.agg (paC p A c), .agg (paC q B d)] w (endB (decide (p = q)) w) := by
  have hb1 := (Below.refl w.heap.size w).alloc (Nat.le_refl _) (.cells (paC p A c) 30)
  have ha1 := Blk.new w 30 (paC p A c)
  obtain ⟨W1, hW1⟩ : ∃ z, w.alloc (.cells (paC p A c) 30) = z := ⟨_, rfl⟩
  rw [hW1] at hb1 ha1
  have hbb := (Below.refl _ W1).alloc (Nat.le_refl _) (.cells (paC q B d) 30)
  have HB := Lib.hid (below_step hb1 hbb)
  have HA0 := Lib.hid (ha1.below hbb)
  have HB0 := Lib.hid (Blk.new W1 30 (paC q B d))
  have HCA := Lib.hid ((h.chs.below hb1).below hbb)
  have HCB := Lib.hid ((h'.chs.below hb1).below hbb)
  obtain ⟨w0, hw0⟩ : ∃ z, W1.alloc (.cells (paC q B d) 30) = z := ⟨_, rfl⟩
  rw [hw0] at HB HA0 HB0 HCA HCB
  obtain ⟨g0, hg0⟩ : ∃ g, w.heap.size = g := ⟨_, rfl⟩
  obtain ⟨g1, hg1⟩ : ∃ g, W1.heap.size = g := ⟨_, rfl⟩
  clear hb1 ha1 hbb
  have HEQ : Hid (decide (p = q) = true ↔ (p.base.1 : Int) = q.base.1 ∧ (p.base.2 : Int) = q.base.2 ∧ (p.target.1 : Int) = q.target.1 ∧ (p.target.2 : Int) = q.target.2 ∧ p.fr = q.fr ∧ p.all = q.all ∧ p.chs = q.chs) := by
    unfold Hid
    obtain ⟨⟨a1, a2⟩, ⟨a3, a4⟩, a5, a6, a7⟩ := p
    obtain ⟨⟨b1, b2⟩, ⟨b3, b4⟩, b5, b6, b7⟩ := q
    simp [Int.ofNat_inj, and_assoc]
  obtain ⟨R, hR⟩ : ∃ R, decide (p = q) = R := ⟨_, rfl⟩
  rw [hR] at HEQ ⊢
  clear hR h h'
  obtain ⟨⟨a1, a2⟩, ⟨a3, a4⟩, a5, a6, l⟩ := p
  obtain ⟨⟨b1, b2⟩, ⟨b3, b4⟩, b5, b6, m⟩ := q
  unfold paC at *
  dsimp only at *
  generalize (a1 : Int) = x1 at *
  generalize (a2 : Int) = x2 at *
  generalize (a3 : Int) = x3 at *
  generalize (a4 : Int) = x4 at *
  generalize (b1 : Int) = y1 at *
  generalize (b2 : Int) = y2 at *
  generalize (b3 : Int) = y3 at *
  generalize (b4 : Int) = y4 at *
  rw [hg0] at HA0
  rw [hg1] at HB0
  have hA := HA0.out
  have hB := HB0.out
  have p0 := hA.cell 0
  have p1 := hA.cell 1
  have p2 := hA.cell 2
  have p3 := hA.cell 3
  have p4 := hA.cell 4
  have p5 := hA.cell 5
  have p6 := hA.cell 6
  have q0 := hB.cell 0
  have q1 := hB.cell 1
  have q2 := hB.cell 2
  have q3 := hB.cell 3
  have q4 := hB.cell 4
  have q5 := hB.cell 5
  have q6 := hB.cell 6
  have hla := hA.lt
  have hlb := hB.lt
  simp only [List.getElem?_toArray, List.getElem?_cons_zero, List.getElem?_cons_succ] at p0 p1 p2 p3 p4 p5 p6 q0 q1 q2 q3 q4 q5 q6
  clear hA hB
  have HFL : Hid (¬ (x1 = y1 ∧ x2 = y2 ∧ x3 = y3 ∧ x4 = y4 ∧ a5 = b5 ∧ a6 = b6 ∧ l = m) → R = false) := fun h => by
    cases R with
    | false => rfl
    | true => exact absurd (HEQ.out.1 rfl) h
  have HTR : Hid (x1 = y1 ∧ x2 = y2 ∧ x3 = y3 ∧ x4 = y4 ∧ a5 = b5 ∧ a6 = b6 ∧ l = m → R = true) := fun h => HEQ.out.2 h
  have HHB : Hid (Below w.heap.size w w0) := HB.out
  clear HEQ HB
  go_enter Tryd.func19, Tryd.ntmps19
  go_upto_region 1 with fail
  try rw [hw0]
  try rw [hg0]
  try rw [hg1]
  clear hw0 hW1 hg0 hg1
  by_cases hx1 : x1 = y1
  case neg =>
    have HR : Hid (R = false) := HFL.out (fun h => hx1 (by have := h; simp_all))
    have hq : (x1 == y1) = false := by simpa using hx1
    have hq2 : (x1 != y1) = true := by simpa using hx1
    clear HFL HTR hx1
    go_wp2_with fail
    go_ret
    rw [HR.out]
    exact ⟨rfl, HHB.out⟩
  subst hx1
  by_cases hx2 : x2 = y2
  case neg =>
    have HR : Hid (R = false) := HFL.out (fun h => hx2 (by have := h; simp_all))
    have hq : (x2 == y2) = false := by simpa using hx2
    have hq2 : (x2 != y2) = true := by simpa using hx2
    clear HFL HTR hx2
    go_wp2_with fail
    go_ret
    rw [HR.out]
    exact ⟨rfl, HHB.out⟩
  subst hx2
  by_cases hx3 : x3 = y3
  case neg =>
    have HR : Hid (R = false) := HFL.out (fun h => hx3 (by have := h; simp_all))
    have hq : (x3 == y3) = false := by simpa using hx3
    have hq2 : (x3 != y3) = true := by simpa using hx3
    clear HFL HTR hx3
    go_wp2_with fail
    go_ret
    rw [HR.out]
    exact ⟨rfl, HHB.out⟩
  subst hx3
  by_cases hx4 : x4 = y4
  case neg =>
    have HR : Hid (R = false) := HFL.out (fun h => hx4 (by have := h; simp_all))
    have hq : (x4 == y4) = false := by simpa using hx4
    have hq2 : (x4 != y4) = true := by simpa using hx4
    clear HFL HTR hx4
    go_wp2_with fail
    go_ret
    rw [HR.out]
    exact ⟨rfl, HHB.out⟩
  subst hx4
  by_cases ha5 : a5 = b5
  case neg =>
    have HR : Hid (R = false) := HFL.out (fun h => ha5 (by have := h; simp_all))
    have hq : (a5 == b5) = false := by simpa using ha5
    have hq2 : (a5 != b5) = true := by simpa using ha5
    clear HFL HTR ha5
    go_wp2_with fail
    go_ret
    rw [HR.out]
    exact ⟨rfl, HHB.out⟩
  subst ha5
  by_cases ha6 : a6 = b6
  case neg =>
    have HR : Hid (R = false) := HFL.out (fun h => ha6 (by have := h; simp_all))
    have hq : (a6 == b6) = false := by simpa using ha6
    have hq2 : (a6 != b6) = true := by simpa using ha6
    clear HFL HTR ha6
    go_wp2_with fail
    go_ret
    rw [HR.out]
    exact ⟨rfl, HHB.out⟩
  subst ha6
  have HE := Lib.hid (equal_any A B c d l m w0 HCA.out HCB.out hs hs')
  have HRR : Hid (decide (l = m) = R) := by
    by_cases h : l = m
    · rw [decide_eq_true h]; exact (HTR.out ⟨rfl, rfl, rfl, rfl, rfl, rfl, h⟩).symm
    · rw [decide_eq_false h]; exact (HFL.out (fun k => h k.2.2.2.2.2.2)).symm
  rw [HRR.out] at HE
  clear HFL HTR HRR HCA HCB
  go_wp2_with fail
  refine HE.out.mono ?_
  rintro e W2 ⟨rfl, hb2⟩
  have HB2 : Hid (Below w.heap.size w W2) := HHB.out.trans (hb2.mono HHB.out.size)
  clear hb2 p0 p1 p2 p3 p4 p5 p6 q0 q1 q2 q3 q4 q5 q6 HE
  go_wp2_with fail
  go_ret
  exact ⟨rfl, HB2.out⟩

set_option maxHeartbeats 6400000 in
theorem rsame_any (A B : Option Addr) (c d : Nat) (p q : Pa) (w : World) (h : PaL w A c p) (h' : PaL w B d q) (hs : p.chs.length ≤ 1000000) (hs' : q.chs.length ≤ 1000000) :
    Calls Tryd.prog 12 #[.agg (paC p A c), .agg (paC q B d)] w (endB (decide (p = q)) w) := by
  have hb1 := (Below.refl w.heap.size w).alloc (Nat.le_refl _) (.cells (paC p A c) 30)
  have ha1 := Blk.new w 30 (paC p A c)
  obtain ⟨W1, hW1⟩ : ∃ z, w.alloc (.cells (paC p A c) 30) = z := ⟨_, rfl⟩
  rw [hW1] at hb1 ha1
  have hbb := (Below.refl _ W1).alloc (Nat.le_refl _) (.cells (paC q B d) 30)
  have HB := Lib.hid (below_step hb1 hbb)
  have HA0 := Lib.hid (ha1.below hbb)
  have HB0 := Lib.hid (Blk.new W1 30 (paC q B d))
  have HCA := Lib.hid ((h.chs.below hb1).below hbb)
  have HCB := Lib.hid ((h'.chs.below hb1).below hbb)
  obtain ⟨w0, hw0⟩ : ∃ z, W1.alloc (.cells (paC q B d) 30) = z := ⟨_, rfl⟩
  rw [hw0] at HB HA0 HB0 HCA HCB
  obtain ⟨g0, hg0⟩ : ∃ g, w.heap.size = g := ⟨_, rfl⟩
  obtain ⟨g1, hg1⟩ : ∃ g, W1.heap.size = g := ⟨_, rfl⟩
  clear hb1 ha1 hbb
  have HEQ : Hid (decide (p = q) = true ↔ (p.base.1 : Int) = q.base.1 ∧ (p.base.2 : Int) = q.base.2 ∧ (p.target.1 : Int) = q.target.1 ∧ (p.target.2 : Int) = q.target.2 ∧ p.fr = q.fr ∧ p.all = q.all ∧ p.chs = q.chs) := by
    unfold Hid
    obtain ⟨⟨a1, a2⟩, ⟨a3, a4⟩, a5, a6, a7⟩ := p
    obtain ⟨⟨b1, b2⟩, ⟨b3, b4⟩, b5, b6, b7⟩ := q
    simp [Int.ofNat_inj, and_assoc]
  obtain ⟨R, hR⟩ : ∃ R, decide (p = q) = R := ⟨_, rfl⟩
  rw [hR] at HEQ ⊢
  clear hR h h'
  obtain ⟨⟨a1, a2⟩, ⟨a3, a4⟩, a5, a6, l⟩ := p
  obtain ⟨⟨b1, b2⟩, ⟨b3, b4⟩, b5, b6, m⟩ := q
  unfold paC at *
  dsimp only at *
  generalize (a1 : Int) = x1 at *
  generalize (a2 : Int) = x2 at *
  generalize (a3 : Int) = x3 at *
  generalize (a4 : Int) = x4 at *
  generalize (b1 : Int) = y1 at *
  generalize (b2 : Int) = y2 at *
  generalize (b3 : Int) = y3 at *
  generalize (b4 : Int) = y4 at *
  rw [hg0] at HA0
  rw [hg1] at HB0
  have hA := HA0.out
  have hB := HB0.out
  have p0 := hA.cell 0
  have p1 := hA.cell 1
  have p2 := hA.cell 2
  have p3 := hA.cell 3
  have p4 := hA.cell 4
  have p5 := hA.cell 5
  have p6 := hA.cell 6
  have q0 := hB.cell 0
  have q1 := hB.cell 1
  have q2 := hB.cell 2
  have q3 := hB.cell 3
  have q4 := hB.cell 4
  have q5 := hB.cell 5
  have q6 := hB.cell 6
  have hla := hA.lt
  have hlb := hB.lt
  simp only [List.getElem?_toArray, List.getElem?_cons_zero, List.getElem?_cons_succ] at p0 p1 p2 p3 p4 p5 p6 q0 q1 q2 q3 q4 q5 q6
  clear hA hB
  have HFL : Hid (¬ (x1 = y1 ∧ x2 = y2 ∧ x3 = y3 ∧ x4 = y4 ∧ a5 = b5 ∧ a6 = b6 ∧ l = m) → R = false) := fun h => by
    cases R with
    | false => rfl
    | true => exact absurd (HEQ.out.1 rfl) h
  have HTR : Hid (x1 = y1 ∧ x2 = y2 ∧ x3 = y3 ∧ x4 = y4 ∧ a5 = b5 ∧ a6 = b6 ∧ l = m → R = true) := fun h => HEQ.out.2 h
  have HHB : Hid (Below w.heap.size w w0) := HB.out
  clear HEQ HB
  go_enter Tryd.func12, Tryd.ntmps12
  go_upto_region 1 with fail
  try rw [hw0]
  try rw [hg0]
  try rw [hg1]
  clear hw0 hW1 hg0 hg1
  by_cases hx1 : x1 = y1
  case neg =>
    have HR : Hid (R = false) := HFL.out (fun h => hx1 (by have := h; simp_all))
    have hq : (x1 == y1) = false := by simpa using hx1
    have hq2 : (x1 != y1) = true := by simpa using hx1
    clear HFL HTR hx1
    go_wp2_with fail
    go_ret
    rw [HR.out]
    exact ⟨rfl, HHB.out⟩
  subst hx1
  by_cases hx2 : x2 = y2
  case neg =>
    have HR : Hid (R = false) := HFL.out (fun h => hx2 (by have := h; simp_all))
    have hq : (x2 == y2) = false := by simpa using hx2
    have hq2 : (x2 != y2) = true := by simpa using hx2
    clear HFL HTR hx2
    go_wp2_with fail
    go_ret
    rw [HR.out]
    exact ⟨rfl, HHB.out⟩
  subst hx2
  by_cases hx3 : x3 = y3
  case neg =>
    have HR : Hid (R = false) := HFL.out (fun h => hx3 (by have := h; simp_all))
    have hq : (x3 == y3) = false := by simpa using hx3
    have hq2 : (x3 != y3) = true := by simpa using hx3
    clear HFL HTR hx3
    go_wp2_with fail
    go_ret
    rw [HR.out]
    exact ⟨rfl, HHB.out⟩
  subst hx3
  by_cases hx4 : x4 = y4
  case neg =>
    have HR : Hid (R = false) := HFL.out (fun h => hx4 (by have := h; simp_all))
    have hq : (x4 == y4) = false := by simpa using hx4
    have hq2 : (x4 != y4) = true := by simpa using hx4
    clear HFL HTR hx4
    go_wp2_with fail
    go_ret
    rw [HR.out]
    exact ⟨rfl, HHB.out⟩
  subst hx4
  by_cases ha5 : a5 = b5
  case neg =>
    have HR : Hid (R = false) := HFL.out (fun h => ha5 (by have := h; simp_all))
    have hq : (a5 == b5) = false := by simpa using ha5
    have hq2 : (a5 != b5) = true := by simpa using ha5
    clear HFL HTR ha5
    go_wp2_with fail
    go_ret
    rw [HR.out]
    exact ⟨rfl, HHB.out⟩
  subst ha5
  by_cases ha6 : a6 = b6
  case neg =>
    have HR : Hid (R = false) := HFL.out (fun h => ha6 (by have := h; simp_all))
    have hq : (a6 == b6) = false := by simpa using ha6
    have hq2 : (a6 != b6) = true := by simpa using ha6
    clear HFL HTR ha6
    go_wp2_with fail
    go_ret
    rw [HR.out]
    exact ⟨rfl, HHB.out⟩
  subst ha6
  by_cases hlen : l.length = m.length
  case neg =>
    have HR : Hid (R = false) := HFL.out (fun h => hlen (by rw [h.2.2.2.2.2.2]))
    have hne : ((l.length : Int) != (m.length : Int)) = true := by simp; omega
    obtain ⟨x, hx⟩ : ∃ k, l.length = k := ⟨_, rfl⟩
    obtain ⟨y, hy⟩ : ∃ k, m.length = k := ⟨_, rfl⟩
    rw [hx] at hne p6
    rw [hy] at hne q6
    clear HFL HTR hlen hx hy hs hs' HA0 HB0 HCA HCB
    go_wp2_with fail
    go_ret
    rw [HR.out]
    exact ⟨rfl, HHB.out⟩
  obtain ⟨len, hln⟩ : ∃ k, l.length = k := ⟨_, rfl⟩
  have HLL := Lib.hid hln
  have HLM : Hid (m.length = len) := by unfold Hid; rw [← hln, hlen]
  rw [hln] at hs p6
  rw [← hlen, hln] at q6
  rw [hln] at HA0
  rw [← hlen, hln] at HB0
  have hne : ((len : Int) != (len : Int)) = false := by simp
  clear hln hlen hs'
  go_wp2_with fail
  clear p0 p1 p2 p3 p4 p5 p6 q0 q1 q2 q3 q4 q5 q6 hla hlb
  go_loopw [5] (fun i wr => ∃ k : Nat, k ≤ l.length ∧ i = .int .i64 (k : Int) ∧ l.take k = m.take k ∧ Below w0.heap.size w0 wr) (fun i _ => len - (intOf i).toNat)
  case atStart => exact ⟨0, Nat.zero_le _, rfl, by rw [List.take_zero, List.take_zero], Below.refl _ _⟩
  case round =>
    obtain ⟨k, hk, rfl, ht, hB⟩ := hrel
    have HT := Lib.hid ht
    have HBW := Lib.hid hB
    rw [HLL.out] at hk
    have hA := HA0.out.below hB
    have hB := HB0.out.below hB
    have p6 := hA.cell 6
    have q6 := hB.cell 6
    have hla := hA.lt
    have hlb := hB.lt
    simp only [List.getElem?_toArray, List.getElem?_cons_zero, List.getElem?_cons_succ] at p6 q6
    have HQ : Hid (∀ n, Below w.heap.size w (wr.drewN n)) := fun n => by
      have := HHB.out.trans (HBW.out.mono HHB.out.size)
      exact ⟨this.os, this.tape, this.output, this.size, this.block⟩
    have HQ2 : Hid (∀ n, Below w0.heap.size w0 (wr.drewN n)) := fun n => ⟨HBW.out.os, HBW.out.tape, HBW.out.output, HBW.out.size, HBW.out.block⟩
    clear ht hA hB
    by_cases hlt : k < len
    · have hki : (k : Int) < (len : Int) := by omega
      have hkl : k < l.length := by rw [HLL.out]; exact hlt
      have hkm : k < m.length := by rw [HLM.out]; exact hlt
      obtain ⟨c1, o1, rfl, hb1, c0, c2, -⟩ := HCA.out k hkl
      obtain ⟨c3, o2, rfl, hb2, d0, d1, -⟩ := HCB.out k hkm
      have HNE : Hid (l[k] ≠ m[k] → l ≠ m) := fun h e => h (by subst e; rfl)
      have HTS : Hid (l[k] = m[k] → l.take (k + 1) = m.take (k + 1)) := fun e => take_snoc hkl hkm HT.out e
      obtain ⟨x, hx⟩ : ∃ x, l[k] = x := ⟨_, rfl⟩
      obtain ⟨y, hy⟩ : ∃ y, m[k] = y := ⟨_, rfl⟩
      rw [hx] at c0 c2 HNE HTS
      rw [hy] at d0 d1 HNE HTS
      have e0 : wr.cell? ⟨c1, o1 + k * 2, none⟩ = some (.int .i64 x.1) := by rw [HBW.out.cell (p := ⟨c1, o1 + k * 2, none⟩) hb1]; exact c0
      have e1 : wr.cell? ⟨c1, o1 + k * 2 + 1, none⟩ = some (.string (str x.2)) := by rw [HBW.out.cell (p := ⟨c1, o1 + k * 2 + 1, none⟩) hb1]; exact c2
      have f0 : wr.cell? ⟨c3, o2 + k * 2, none⟩ = some (.int .i64 y.1) := by rw [HBW.out.cell (p := ⟨c3, o2 + k * 2, none⟩) hb2]; exact d0
      have f1 : wr.cell? ⟨c3, o2 + k * 2 + 1, none⟩ = some (.string (str y.2)) := by rw [HBW.out.cell (p := ⟨c3, o2 + k * 2 + 1, none⟩) hb2]; exact d1
      have l1 : c1 < wr.heap.size := Nat.lt_of_lt_of_le hb1 HBW.out.size
      have l2 : c3 < wr.heap.size := Nat.lt_of_lt_of_le hb2 HBW.out.size
      have HXY := Lib.hid (chg_eq x y)
      clear c0 c2 d0 d1 hx hy hb1 hb2
      generalize x.1 = z1 at *
      generalize str x.2 = z2 at *
      generalize y.1 = v1 at *
      generalize str y.2 = v2 at *
      obtain ⟨r1, hq1⟩ : ∃ q, (z1 == v1) = q := ⟨_, rfl⟩
      obtain ⟨r2, hq2⟩ : ∃ q, (z2.toList == v2.toList) = q := ⟨_, rfl⟩
      have HQ1 : Hid (r1 = true → r2 = true → x = y) := fun h1 h2 => by
        have := HXY.out
        rw [hq1, hq2, h1, h2] at this
        simpa using this.symm
      have HQ3 : Hid ((r1 && r2) = false → x ≠ y) := fun h => by
        have := HXY.out
        rw [hq1, hq2, h] at this
        simpa using this.symm
      clear HXY
      by_cases hqq : r1 = true ∧ r2 = true
      · obtain ⟨rfl, rfl⟩ := hqq
        have HTT := Lib.hid (HTS.out (HQ1.out rfl rfl))
        clear HTS HNE HQ1 HQ3 HFL HTR
        go_wp2_with fail
        go_quiet (fail)
        go_wp2_with fail
        go_roundw
        case rel => exact ⟨k + 1, by rw [HLL.out]; omega, by go_num, HTT.out, HQ2.out _⟩
        case measure => simp [intOf]; omega
      · have hqb : (r1 && r2) = false := by cases r1 <;> cases r2 <;> simp at hqq ⊢
        have HR : Hid (R = false) := HFL.out (fun h => HNE.out (HQ3.out hqb) h.2.2.2.2.2.2)
        have hqs : (r1 = false) ∨ (r1 = true ∧ r2 = false) := by cases r1 <;> cases r2 <;> simp at hqq ⊢
        clear hqq hqb HQ1 HQ3 HTS HNE HFL HTR
        rcases hqs with rfl | ⟨rfl, rfl⟩
        all_goals
          go_wp2_with fail
          go_quiet (fail)
          go_wp2_with fail
          go_ret
          rw [HR.out]
          exact ⟨rfl, HQ.out _⟩
    · have hki : ¬ (k : Int) < (len : Int) := by omega
      have hlm : l = m := by
        have := HT.out
        rwa [List.take_of_length_le (by rw [HLL.out]; omega), List.take_of_length_le (by rw [HLM.out]; omega)] at this
      have HR : Hid (R = true) := HTR.out (by refine ⟨?_, ?_, ?_, ?_, ?_, ?_, hlm⟩ <;> first | rfl | trivial)
      clear hlm
      clear HFL HTR
      go_wp2_with fail
      go_ret
      rw [HR.out]
      exact ⟨rfl, HQ.out 0⟩
end Go.Proofs.YtchdamlnbmngbaaDoor.st


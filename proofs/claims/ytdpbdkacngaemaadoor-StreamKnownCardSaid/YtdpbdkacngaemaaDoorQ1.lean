/- StPure, StPureW, Ints, Blk, ICells, Info, StillW, Dat, Lists, MtMem, MtEq, ChPure, Chgs. -/
import Derived.Test.YtdpbdkacngaemaaDoorQ0
import Derived.Test.YtdpbdkacngaemaaDoorProg
import Derived.OpenShut
import Derived.Deep.Slices
import Derived.Deep.SlicePairs
import Derived.Deep.Fields
import Derived.ChangeSlices
import Derived.ChangeSame
import Derived.Maps.AppendAt
import Derived.WalkKit
import Derived.OwnWalk
import Derived.Deep.Draws
import Derived.StillTailTactics
import Derived.BigCall
import Derived.LoopTactic
import Derived.WalkSpells
import Derived.WalkLawsBesides
import Derived.Deep.WholeRow
import Derived.Deep.AppendSrc
import Derived.Carry
import Derived.Laws.StructEq
import Derived.Laws.Cover2
import Derived.KernelRfl
set_option linter.unusedVariables false
set_option linter.unusedSimpArgs false
/- Parts of a stream as plain data: whether one may be, its bytes, how they are read; a part comes back from its bytes, and what is read is laid again just so. -/
namespace Go.Proofs.YtdpbdkacngaemaaDoor.st
open Go Go.RowKit Go.Proofs.YtdpbdkacngaemaaDoor.wi Go.Proofs.YtdpbdkacngaemaaDoor.mt
set_option maxRecDepth 100000

abbrev Ch := Int × List UInt8
structure Pa where
  base : Gd
  target : Gd
  fr : Int
  all : Int
  chs : List Ch
  deriving DecidableEq
def pa0 : Pa := ⟨(0, 0), (0, 0), 0, 0, []⟩
/-- Changes may be, of which the first is from least on. -/
def mayF : Int → List Ch → Bool
  | _, [] => true
  | least, c :: r => decide (least ≤ c.1) && decide (c.1 < 8) && decide (c.2.length = 32) && mayF (c.1 + 1) r
def may (l : List Ch) : Bool := mayF 0 l
def pBad (p : Pa) : Bool := !above p.target p.base || decide (p.all < 0) || decide (8 < p.all) || decide (p.fr < 0) || decide (p.all < p.fr + p.chs.length) || decide (2 < p.chs.length) || (decide (p.chs.length = 0) && decide (0 < p.all)) || !may p.chs
def pCheck (p : Pa) : Int := if pBad p = true then 2 else 0
def cutBad (b t : Gd) (l : List Ch) (fr : Int) : Bool := !above t b || !may l || decide (fr < 0) || decide (max (l.length : Int) 1 ≤ fr)
def pCut (b t : Gd) (l : List Ch) (fr : Int) : Pa × Int := if cutBad b t l fr = true then (pa0, 2) else (⟨b, t, fr, l.length, (l.drop fr.toNat).take 2⟩, 0)
def chB (c : Ch) : List UInt8 := intB c.1 ++ textB c.2
def chsB (l : List Ch) : List UInt8 := l.flatMap chB
def headB (p : Pa) : List UInt8 := gdBs p.base ++ (gdBs p.target ++ (intB p.fr ++ (intB p.all ++ numB p.chs.length)))
def pBytes (p : Pa) : List UInt8 := headB p ++ chsB p.chs
def pEnc (p : Pa) : List UInt8 × Int := if pCheck p ≠ 0 then ([], 2) else (sealB (pBytes p), 0)

def textS (s : St) : List UInt8 × St := match s with
  | none => ([], none)
  | some l => match rdText l with
    | none => ([], none)
    | some (t, r) => (t, some r)
/-- The document's reading. -/
def rCh (s : St) : Ch × St := ((((min (numS s).1 99 : Nat) : Int), (textS (numS s).2).1), (textS (numS s).2).2)
def rChs : Nat → St → List Ch × St
  | 0, s => ([], s)
  | n + 1, s => ((rCh s).1 :: (rChs n (rCh s).2).1, (rChs n (rCh s).2).2)
def rP (s : St) : Pa × St :=
  let b := gdS s; let t := gdS b.2; let f := numS t.2; let a := numS f.2; let n := numS a.2; let c := rChs (min n.1 9) n.2
  (⟨b.1, t.1, ((min f.1 99 : Nat) : Int), ((min a.1 99 : Nat) : Int), c.1⟩, c.2)
def pDec (s : List UInt8) : Pa × Int := match openB s with
  | none => (pa0, 4)
  | some l => if pEnc (rP (some l)).1 = (s, 0) then ((rP (some l)).1, 0) else (pa0, 4)
/-- The program's. -/
def uS (k : Nat) (s : St) : Nat × St := (min (numS s).1 (k + 1), (numS s).2)
def gCh (s : St) : Ch × St := ((((uS 8 s).1 : Int), (textS (uS 8 s).2).1), (textS (uS 8 s).2).2)
def gChs : Nat → St → List Ch × St
  | 0, s => ([], s)
  | n + 1, s => ((gCh s).1 :: (gChs n (gCh s).2).1, (gChs n (gCh s).2).2)
def gP (s : St) : Pa × St :=
  let b := gdS s; let t := gdS b.2; let f := uS 8 t.2; let a := uS 8 f.2; let n := uS 2 a.2; let c := gChs n.1 n.2
  (⟨b.1, t.1, (f.1 : Int), (a.1 : Int), c.1⟩, c.2)
def gDec (s : List UInt8) : Pa × Int := match openB s with
  | none => (pa0, 4)
  | some l => if (gP (some l)).2 = some [] ∧ pCheck (gP (some l)).1 = 0 then ((gP (some l)).1, 0) else (pa0, 4)

/-! ### What may be -/
theorem mayF_ok : ∀ {l : List Ch} {k : Int}, mayF k l = true → ∀ c ∈ l, k ≤ c.1 ∧ c.1 < 8 ∧ c.2.length = 32
  | [], _, _, c, hc => absurd hc (by simp)
  | x :: r, k, h, c, hc => by
    unfold mayF at h
    simp only [Bool.and_eq_true, decide_eq_true_eq] at h
    obtain ⟨⟨⟨h1, h2⟩, h3⟩, h4⟩ := h
    rcases List.mem_cons.1 hc with rfl | hc
    · exact ⟨h1, h2, h3⟩
    · have := mayF_ok h4 c hc
      omega
structure Ok (p : Pa) : Prop where
  all : 0 ≤ p.all ∧ p.all ≤ 8
  fr : 0 ≤ p.fr ∧ p.fr + p.chs.length ≤ p.all
  few : p.chs.length ≤ 2
  chs : ∀ c ∈ p.chs, 0 ≤ c.1 ∧ c.1 < 8 ∧ c.2.length = 32
theorem check_two (p : Pa) : pCheck p = 0 ∨ pCheck p = 2 := by
  unfold pCheck
  split
  · exact .inr rfl
  · exact .inl rfl
theorem check_ok {p : Pa} (h : pCheck p = 0) : Ok p := by
  unfold pCheck at h
  split at h
  · cases h
  · rename_i h1
    unfold pBad at h1
    simp only [Bool.or_eq_true, not_or, Bool.not_eq_true, decide_eq_true_eq] at h1
    obtain ⟨⟨⟨⟨⟨⟨⟨_, e1⟩, e2⟩, e3⟩, e4⟩, e5⟩, _⟩, e7⟩ := h1
    simp only [decide_eq_false_iff_not, Bool.not_eq_false'] at *
    exact ⟨by omega, by omega, by omega, mayF_ok e7⟩

/-! ### What is put is read -/
theorem textS_put (t : List UInt8) (h : t.length < 18446744073709551616) (r : List UInt8) : textS (some (textB t ++ r)) = (t, some r) := by
  unfold textS
  simp only [rdText_put t h]
theorem rCh_put (c : Ch) (h : 0 ≤ c.1 ∧ c.1 < 8 ∧ c.2.length = 32) (r : List UInt8) : rCh (some (chB c ++ r)) = (c, some r) := by
  obtain ⟨z, t⟩ := c
  dsimp only at h
  unfold rCh chB intB
  dsimp only
  rw [List.append_assoc, numS_put _ (by omega)]
  simp only
  rw [textS_put _ (by omega), Nat.min_eq_left (by omega), Int.toNat_of_nonneg h.1]
theorem rChs_put : ∀ (l : List Ch) (_ : ∀ c ∈ l, 0 ≤ c.1 ∧ c.1 < 8 ∧ c.2.length = 32) (r : List UInt8), rChs l.length (some (chsB l ++ r)) = (l, some r)
  | [], _, r => rfl
  | c :: l, h, r => by
    have e : chsB (c :: l) ++ r = chB c ++ (chsB l ++ r) := by simp [chsB]
    show rChs (l.length + 1) (some (chsB (c :: l) ++ r)) = _
    rw [e]
    unfold rChs
    rw [rCh_put c (h c (by simp))]
    simp only
    rw [rChs_put l (fun x hx => h x (by simp [hx])) r]
theorem gCh_put (c : Ch) (h : 0 ≤ c.1 ∧ c.1 < 8 ∧ c.2.length = 32) (r : List UInt8) : gCh (some (chB c ++ r)) = (c, some r) := by
  obtain ⟨z, t⟩ := c
  dsimp only at h
  unfold gCh uS chB intB
  dsimp only
  rw [List.append_assoc, numS_put _ (by omega)]
  simp only
  rw [textS_put _ (by omega), Nat.min_eq_left (by omega), Int.toNat_of_nonneg h.1]
theorem gChs_put : ∀ (l : List Ch) (_ : ∀ c ∈ l, 0 ≤ c.1 ∧ c.1 < 8 ∧ c.2.length = 32) (r : List UInt8), gChs l.length (some (chsB l ++ r)) = (l, some r)
  | [], _, r => rfl
  | c :: l, h, r => by
    have e : chsB (c :: l) ++ r = chB c ++ (chsB l ++ r) := by simp [chsB]
    show gChs (l.length + 1) (some (chsB (c :: l) ++ r)) = _
    rw [e]
    unfold gChs
    rw [gCh_put c (h c (by simp))]
    simp only
    rw [gChs_put l (fun x hx => h x (by simp [hx])) r]
theorem rP_put (p : Pa) (hb : gdB p.base) (ht : gdB p.target) (h : Ok p) : rP (some (pBytes p)) = (p, some []) := by
  obtain ⟨h1, h2, h3, h4⟩ := h
  unfold rP pBytes headB
  simp only [List.append_assoc]
  rw [gdS_put _ hb]
  simp only
  rw [gdS_put _ ht]
  simp only
  unfold intB
  rw [numS_put _ (by omega)]
  simp only
  rw [numS_put _ (by omega)]
  simp only
  rw [numS_put _ (by omega)]
  simp only
  have hc := rChs_put p.chs h4 []
  rw [List.append_nil] at hc
  rw [Nat.min_eq_left (show p.chs.length ≤ 9 by omega), hc, Nat.min_eq_left (show p.fr.toNat ≤ 99 by omega), Nat.min_eq_left (show p.all.toNat ≤ 99 by omega), Int.toNat_of_nonneg h2.1, Int.toNat_of_nonneg h1.1]
theorem gP_put (p : Pa) (hb : gdB p.base) (ht : gdB p.target) (h : Ok p) : gP (some (pBytes p)) = (p, some []) := by
  obtain ⟨h1, h2, h3, h4⟩ := h
  unfold gP uS pBytes headB
  simp only [List.append_assoc]
  rw [gdS_put _ hb]
  simp only
  rw [gdS_put _ ht]
  simp only
  unfold intB
  rw [numS_put _ (by omega)]
  simp only
  rw [numS_put _ (by omega)]
  simp only
  rw [numS_put _ (by omega)]
  simp only
  have hc := gChs_put p.chs h4 []
  rw [List.append_nil] at hc
  rw [Nat.min_eq_left (show p.chs.length ≤ 2 + 1 by omega), hc, Nat.min_eq_left (show p.fr.toNat ≤ 8 + 1 by omega), Nat.min_eq_left (show p.all.toNat ≤ 8 + 1 by omega), Int.toNat_of_nonneg h2.1, Int.toNat_of_nonneg h1.1]

/-! ### What is read was put -/
theorem numS_is {s : St} {n : Nat} {r : List UInt8} (h : numS s = (n, some r)) : s = some (numB n ++ r) ∧ n < 18446744073709551616 := by
  unfold numS at h
  split at h
  · simp at h
  · split at h
    · simp at h
    · rename_i l n' r' hr
      simp only [Prod.mk.injEq, Option.some.injEq] at h
      obtain ⟨rfl, rfl⟩ := h
      have := rdNum_is _ _ _ hr
      exact ⟨by rw [← this.1], this.2⟩
theorem textS_is {s : St} {t r : List UInt8} (h : textS s = (t, some r)) : s = some (textB t ++ r) := by
  unfold textS at h
  split at h
  · simp at h
  · split at h
    · simp at h
    · rename_i l t' r' hr
      simp only [Prod.mk.injEq, Option.some.injEq] at h
      obtain ⟨rfl, rfl⟩ := h
      rw [← rdText_is _ _ _ hr]
theorem gdS_is {s : St} {g : Gd} {r : List UInt8} (h : gdS s = (g, some r)) : s = some (gdBs g ++ r) := by
  unfold gdS at h
  simp only [Prod.mk.injEq] at h
  obtain ⟨rfl, h2⟩ := h
  have h3 := (numS_is (show numS (numS s).2 = ((numS (numS s).2).1, some r) from Prod.ext rfl h2)).1
  have h4 := (numS_is (show numS s = ((numS s).1, some _) from Prod.ext rfl h3)).1
  unfold gdBs
  rw [List.append_assoc]
  exact h4
theorem gCh_is {s : St} {c : Ch} {r : List UInt8} (h : gCh s = (c, some r)) (hc : c.1 < 8) : s = some (chB c ++ r) := by
  unfold gCh at h
  simp only [Prod.mk.injEq] at h
  obtain ⟨rfl, h2⟩ := h
  dsimp only at hc
  have h3 := textS_is (show textS (uS 8 s).2 = ((textS (uS 8 s).2).1, some r) from Prod.ext rfl h2)
  have h4 := (numS_is (show numS s = ((numS s).1, some _) from Prod.ext rfl h3)).1
  unfold chB intB
  dsimp only
  rw [List.append_assoc]
  have h5 : (uS 8 s).1 = (numS s).1 := by unfold uS at hc ⊢; dsimp only at hc ⊢; omega
  rw [Int.toNat_natCast, h5]
  exact h4
theorem gChs_len : ∀ (n : Nat) (s : St), (gChs n s).1.length = n
  | 0, _ => rfl
  | n + 1, s => by simp [gChs, gChs_len n]
theorem gChs_is : ∀ {n : Nat} {s : St} {l : List Ch} {r : List UInt8}, gChs n s = (l, some r) → (∀ c ∈ l, c.1 < 8) → s = some (chsB l ++ r)
  | 0, s, l, r, h, _ => by
    unfold gChs at h
    simp only [Prod.mk.injEq] at h
    obtain ⟨rfl, rfl⟩ := h
    rfl
  | n + 1, s, l, r, h, hl => by
    unfold gChs at h
    simp only [Prod.mk.injEq] at h
    obtain ⟨rfl, h2⟩ := h
    have h3 := gChs_is (show gChs n (gCh s).2 = ((gChs n (gCh s).2).1, some r) from Prod.ext rfl h2) (fun c hc => hl c (by simp [hc]))
    have h4 := gCh_is (show gCh s = ((gCh s).1, some _) from Prod.ext rfl h3) (hl _ (by simp))
    refine h4.trans ?_
    unfold chsB
    rw [List.flatMap_cons, List.append_assoc]
theorem gP_is {s : St} {p : Pa} {r : List UInt8} (h : gP s = (p, some r)) (hk : Ok p) : s = some (pBytes p ++ r) := by
  unfold gP at h
  simp only [Prod.mk.injEq] at h
  obtain ⟨hp, h2⟩ := h
  obtain ⟨b, hb⟩ : ∃ x, gdS s = x := ⟨_, rfl⟩
  rw [hb] at hp h2
  obtain ⟨t, ht⟩ : ∃ x, gdS b.2 = x := ⟨_, rfl⟩
  rw [ht] at hp h2
  obtain ⟨f, hf⟩ : ∃ x, uS 8 t.2 = x := ⟨_, rfl⟩
  rw [hf] at hp h2
  obtain ⟨a, ha⟩ : ∃ x, uS 8 f.2 = x := ⟨_, rfl⟩
  rw [ha] at hp h2
  obtain ⟨n, hn⟩ : ∃ x, uS 2 a.2 = x := ⟨_, rfl⟩
  rw [hn] at hp h2
  obtain ⟨c, hc⟩ : ∃ x, gChs n.1 n.2 = x := ⟨_, rfl⟩
  rw [hc] at hp h2
  subst hp
  obtain ⟨h1, h2', h3, h4⟩ := hk
  dsimp only at h1 h2' h3 h4
  have hln : c.1.length = n.1 := by rw [← hc]; exact gChs_len _ _
  have e6 := gChs_is (show gChs n.1 n.2 = (c.1, some r) from by rw [hc]; exact Prod.ext rfl h2) (fun x hx => (h4 x hx).2.1)
  unfold uS at hn ha hf
  have q5 : (numS a.2).1 = n.1 := by rw [← hn] at hln ⊢; dsimp only at hln ⊢; omega
  have q4 : (numS f.2).1 = a.1 := by rw [← ha] at h1 ⊢; dsimp only at h1 ⊢; omega
  have q3 : (numS t.2).1 = f.1 := by
    have : f.1 ≤ 8 := by omega
    rw [← hf] at this ⊢
    dsimp only at this ⊢
    omega
  have e5 := (numS_is (show numS a.2 = (n.1, some _) from Prod.ext q5 (by rw [← hn] at e6; exact e6))).1
  have e4 := (numS_is (show numS f.2 = (a.1, some _) from Prod.ext q4 (by rw [← ha] at e5; exact e5))).1
  have e3 := (numS_is (show numS t.2 = (f.1, some _) from Prod.ext q3 (by rw [← hf] at e4; exact e4))).1
  have e2 := gdS_is (show gdS b.2 = (t.1, some _) from by rw [ht]; exact Prod.ext rfl e3)
  have e1 := gdS_is (show gdS s = (b.1, some _) from by rw [hb]; exact Prod.ext rfl e2)
  rw [e1]
  unfold pBytes headB intB
  dsimp only
  rw [hln]
  simp only [List.append_assoc, Int.toNat_natCast]
theorem rChs_len : ∀ (n : Nat) (s : St), (rChs n s).1.length = n
  | 0, _ => rfl
  | n + 1, s => by simp [rChs, rChs_len n]
theorem rP_B (s : St) : gdB (rP s).1.base ∧ gdB (rP s).1.target := ⟨gdS_B _, gdS_B _⟩
theorem gP_B (s : St) : gdB (gP s).1.base ∧ gdB (gP s).1.target := ⟨gdS_B _, gdS_B _⟩
theorem enc_ok {p : Pa} {s : List UInt8} (h : pEnc p = (s, 0)) : pCheck p = 0 ∧ s = sealB (pBytes p) := by
  unfold pEnc at h
  split at h
  · simp at h
  · rename_i h1
    simp only [Prod.mk.injEq, and_true] at h
    exact ⟨Classical.byContradiction h1, h.symm⟩
theorem enc_of {p : Pa} (h : pCheck p = 0) : pEnc p = (sealB (pBytes p), 0) := by
  unfold pEnc
  rw [if_neg (by rw [h]; decide)]
/-- What is answered: both read the same. -/
theorem dec_is (s : List UInt8) : gDec s = pDec s := by
  unfold gDec pDec
  split
  · rfl
  · rename_i l hl
    by_cases h : (gP (some l)).2 = some [] ∧ pCheck (gP (some l)).1 = 0
    · rw [if_pos h]
      have hk := check_ok h.2
      have e := gP_is (show gP (some l) = ((gP (some l)).1, some []) from Prod.ext rfl h.1) hk
      rw [List.append_nil, Option.some.injEq] at e
      have hB := gP_B (some l)
      have hr : rP (some l) = ((gP (some l)).1, some []) := by
        conv => lhs; rw [e]
        exact rP_put _ hB.1 hB.2 hk
      rw [hr]
      dsimp only
      rw [if_pos]
      rw [enc_of h.2, ← e, ← openB_is s l hl]
    · rw [if_neg h]
      by_cases h2 : pEnc (rP (some l)).1 = (s, 0)
      · exfalso
        obtain ⟨h3, h4⟩ := enc_ok h2
        have h5 := openB_sealB (pBytes (rP (some l)).1)
        rw [← h4, hl, Option.some.injEq] at h5
        have hB := rP_B (some l)
        have h6 := gP_put _ hB.1 hB.2 (check_ok h3)
        rw [← h5] at h6
        apply h
        rw [h6]
        exact ⟨rfl, h3⟩
      · rw [if_neg h2]
theorem dec_two (s : List UInt8) : (∃ p, pDec s = (p, 0) ∧ pEnc p = (s, 0) ∧ gdB p.base ∧ gdB p.target) ∨ pDec s = (pa0, 4) := by
  unfold pDec
  split
  · exact .inr rfl
  · split
    · rename_i h
      exact .inl ⟨_, rfl, h, rP_B _⟩
    · exact .inr rfl
theorem dec_enc {p : Pa} (hb : gdB p.base) (ht : gdB p.target) (h : pCheck p = 0) : pDec (sealB (pBytes p)) = (p, 0) := by
  unfold pDec
  rw [openB_sealB]
  dsimp only
  rw [rP_put p hb ht (check_ok h)]
  dsimp only
  rw [if_pos (enc_of h)]
end Go.Proofs.YtdpbdkacngaemaaDoor.st

/- Parts that are cut one behind the other, as plain data. -/
namespace Go.Proofs.YtdpbdkacngaemaaDoor.st
open Go Go.RowKit Go.Proofs.YtdpbdkacngaemaaDoor.wi Go.Proofs.YtdpbdkacngaemaaDoor.mt
set_option maxRecDepth 100000

theorem mayF_len : ∀ {l : List Ch} {k : Int}, mayF k l = true → k ≤ 8 → (l.length : Int) ≤ 8 - k
  | [], k, _, hk => by simp; omega
  | x :: r, k, h, hk => by
    unfold mayF at h
    simp only [Bool.and_eq_true, decide_eq_true_eq] at h
    obtain ⟨⟨⟨h1, h2⟩, _⟩, h4⟩ := h
    have := mayF_len h4 (by omega)
    rw [List.length_cons]
    omega
theorem mayF_mono {l : List Ch} {j k : Int} (hj : j ≤ k) (h : mayF k l = true) : mayF j l = true := by
  cases l with
  | nil => rfl
  | cons x r =>
    unfold mayF at h ⊢
    simp only [Bool.and_eq_true, decide_eq_true_eq] at h ⊢
    exact ⟨⟨⟨by omega, h.1.1.2⟩, h.1.2⟩, h.2⟩
theorem mayF_drop : ∀ (n : Nat) {l : List Ch} {k : Int}, mayF k l = true → mayF k (l.drop n) = true
  | 0, _, _, h => h
  | _ + 1, [], _, _ => rfl
  | n + 1, x :: r, k, h => by
    have h2 := h
    unfold mayF at h2
    simp only [Bool.and_eq_true, decide_eq_true_eq] at h2
    exact mayF_drop n (mayF_mono (by omega) h2.2)
theorem mayF_take : ∀ (n : Nat) {l : List Ch} {k : Int}, mayF k l = true → mayF k (l.take n) = true
  | 0, _, _, _ => rfl
  | _ + 1, [], _, _ => rfl
  | n + 1, x :: r, k, h => by
    have h2 := h
    unfold mayF at h2
    simp only [Bool.and_eq_true, decide_eq_true_eq] at h2
    rw [List.take_succ_cons]
    unfold mayF
    simp only [Bool.and_eq_true, decide_eq_true_eq]
    exact ⟨h2.1, mayF_take n h2.2⟩
structure CutOk (b t : Gd) (l : List Ch) (fr : Int) : Prop where
  up : above t b = true
  may : may l = true
  lo : 0 ≤ fr
  hi : fr < max (l.length : Int) 1
theorem cut_is {b t : Gd} {l : List Ch} {fr : Int} : cutBad b t l fr = false ↔ CutOk b t l fr := by
  unfold cutBad
  constructor
  · intro h
    simp only [Bool.or_eq_false_iff, Bool.not_eq_false', decide_eq_false_iff_not] at h
    exact ⟨h.1.1.1, h.1.1.2, by omega, by omega⟩
  · intro h
    have h1 := h.lo
    have h2 := h.hi
    simp only [h.up, h.may, Bool.not_true, Bool.or_eq_false_iff, decide_eq_false_iff_not]
    exact ⟨⟨⟨trivial, trivial⟩, by omega⟩, by omega⟩
def ptAt (b t : Gd) (l : List Ch) (k : Nat) : Pa := ⟨b, t, k, l.length, (l.drop k).take 2⟩
theorem cut_at {b t : Gd} {l : List Ch} {k : Nat} (h : CutOk b t l k) : pCut b t l k = (ptAt b t l k, 0) := by
  unfold pCut
  rw [cut_is.2 h]
  rfl
theorem cut_no {b t : Gd} {l : List Ch} {k : Int} (h : cutBad b t l k = true) : pCut b t l k = (pa0, 2) := by
  unfold pCut
  rw [if_pos h]
theorem ptAt_len (b t : Gd) (l : List Ch) (k : Nat) : (ptAt b t l k).chs.length = min 2 (l.length - k) := by
  show ((l.drop k).take 2).length = _
  rw [List.length_take, List.length_drop]
theorem ptAt_check {b t : Gd} {l : List Ch} {k : Nat} (h : CutOk b t l k) : pCheck (ptAt b t l k) = 0 := by
  have hl := ptAt_len b t l k
  have h8 := mayF_len (k := 0) h.may (by omega)
  have h2 := h.hi
  have hm : may (ptAt b t l k).chs = true := mayF_take 2 (mayF_drop k h.may)
  have e1 : (ptAt b t l k).all = (l.length : Int) := rfl
  have e2 : (ptAt b t l k).fr = (k : Int) := rfl
  unfold pCheck pBad
  rw [show above (ptAt b t l k).target (ptAt b t l k).base = true from h.up, hm, e1, e2, hl]
  rw [if_neg]
  simp only [Bool.not_true, Bool.false_or, Bool.or_false, Bool.or_eq_true, Bool.and_eq_true, decide_eq_true_eq, not_or]
  omega
theorem cut_next {b t : Gd} {l : List Ch} {k n : Nat} (h : CutOk b t l k) (hn : k + n < l.length) : CutOk b t l ((k + n : Nat) : Int) :=
  ⟨h.up, h.may, by omega, by omega⟩
theorem take_next (l : List Ch) (k n : Nat) (hn : n = min 2 (l.length - k)) : l.take k ++ (l.drop k).take 2 = l.take (k + n) := by
  rw [List.take_add]
  congr 1
  by_cases h : 2 ≤ l.length - k
  · rw [show n = 2 by omega]
  · rw [List.take_of_length_le (by rw [List.length_drop]; omega), List.take_of_length_le (by rw [List.length_drop]; omega)]
end Go.Proofs.YtdpbdkacngaemaaDoor.st

/- Lists of numbers in memory: that came in, that the call made; what comes in. -/
namespace Go.Proofs.YtdpbdkacngaemaaDoor.ib
open Go Go.RowKit Go.ChangeShapes Go.WideShapes Go.Deep
set_option maxRecDepth 100000

def i64B (x : Int) : Prop := -9223372036854775808 ≤ x ∧ x ≤ 9223372036854775807

/-- A slice of numbers. -/
def IntsAt (w : World) (a : Option Addr) (zs : List Int) : Prop :=
  ∀ i (h : i < zs.length), ∃ b o, a = some ⟨b, o, none⟩ ∧ b < w.heap.size ∧ w.cell? ⟨b, o + i, none⟩ = some (.int .i64 zs[i]) ∧ i64B zs[i]

theorem IntsAt.below {w w' : World} {a : Option Addr} {zs : List Int} (h : IntsAt w a zs) (hb : Below w.heap.size w w') : IntsAt w' a zs := by
  intro i hi
  obtain ⟨b, o, h1, h2, h3, h4⟩ := h i hi
  exact ⟨b, o, h1, Nat.lt_of_lt_of_le h2 hb.size, by rw [hb.cell (p := ⟨b, o + i, none⟩) h2]; exact h3, h4⟩
theorem IntsAt.nil (w : World) (a : Option Addr) : IntsAt w a [] := fun i h => absurd h (by simp)
theorem IntsAt.mem {w : World} {a : Option Addr} {zs : List Int} (h : IntsAt w a zs) : ∀ z ∈ zs, i64B z := by
  intro z hz
  obtain ⟨i, hi, rfl⟩ := List.getElem_of_mem hz
  obtain ⟨_, _, _, _, _, h4⟩ := h i hi
  exact h4
theorem IntsAt.take {w : World} {a : Option Addr} {zs : List Int} (h : IntsAt w a zs) (n : Nat) : IntsAt w a (zs.take n) := fun i hi => by
  have := h i (by simp at hi; omega)
  simpa using this

/-- A slice of numbers that the call made. -/
def OInts (w : World) (B : Nat) (v : Value) (zs : List Int) : Prop := w.ownsRow B 3 1 v zs.length (zs.map (Value.int .i64))
theorem int_one (z : Int) : ∀ u ∈ ([Value.int .i64 z] : List Value), u.oneCell' = true := by
  intro u hu
  simp at hu
  subst hu
  rfl
theorem infoInt : (Tryd.prog.info? 3).map (fun i => (i.zero, i.size, i.bytes)) = some (some (.int .i64 0), 1, 8) := by kernel_rfl

theorem OInts.view {w : World} {B : Nat} {v : Value} {zs : List Int} (h : OInts w B v zs) (hz : ∀ z ∈ zs, i64B z) : ∃ a c, v = .slice a zs.length c ∧ IntsAt w a zs ∧ ∀ b o, a = some ⟨b, o, none⟩ → B ≤ b ∧ b < w.heap.size := by
  rcases h.2 with ⟨rfl, h0⟩ | ⟨g, cap, cur, rfl, hg, hh, hcc, hm, hcs, hcur⟩
  · obtain rfl : zs = [] := List.length_eq_zero_iff.1 h0
    exact ⟨none, 0, rfl, (fun i h => by simp at h), fun b o h => by cases h⟩
  · refine ⟨some ⟨g, 0, none⟩, cap, rfl, fun i hi => ⟨g, 0, rfl, (Array.getElem?_eq_some_iff.1 hh).1, ?_, hz _ (List.getElem_mem hi)⟩, fun b o h => ?_⟩
    · rw [Nat.zero_add, cell_of_row w g i cur 3 (0, 0) hh]
      have h3 : (cur.toList.take (zs.length * 1))[i]? = some (.int .i64 zs[i]) := by rw [hcur]; simp [hi]
      rw [List.getElem?_take] at h3
      split at h3
      · simpa using h3
      · cases h3
    · simp only [Option.some.injEq, Addr.mk.injEq, and_true] at h
      obtain ⟨rfl, _⟩ := h
      exact ⟨hg, (Array.getElem?_eq_some_iff.1 hh).1⟩

/-! ### What comes in -/
theorem spot0 {w : World} {a : Addr} {v : Value} (h : w.cell? (a.add 0) = some v) : ∃ b o, a = ⟨b, o, none⟩ ∧ b < w.heap.size := by
  have hs := World.cell?_spot h
  obtain ⟨b, o, s⟩ := a
  have hs0 : s = none := by simpa [Addr.add] using hs
  subst hs0
  exact ⟨b, o, rfl, World.block_lt_of_cell? w _ h⟩

theorem choose_list {α : Type} {p : Nat → α → Prop} : ∀ (n : Nat), (∀ i, i < n → ∃ x, p i x) → ∃ l : List α, l.length = n ∧ ∀ i (h : i < l.length), p i l[i]
  | 0, _ => ⟨[], rfl, fun i h => absurd h (by simp)⟩
  | n + 1, h => by
    obtain ⟨l, hl, hp⟩ := choose_list n (fun i hi => h i (by omega))
    obtain ⟨x, hx⟩ := h n (by omega)
    refine ⟨l ++ [x], by simp [hl], fun i hi => ?_⟩
    by_cases hin : i < l.length
    · rw [List.getElem_append_left hin]
      exact hp i hin
    · have : i = l.length := by simp at hi; omega
      subst this
      rw [List.getElem_append_right (Nat.le_refl _)]
      simpa [hl] using hx

section
variable {H : Type} {enc : TypeId × Value → H} {w : World} {held : Bool} {a : Option Addr} {l c : Nat} {d : DataW H} {pl : List MemPlace}

theorem ints_cells {n : Nat} {v : Value} {y : DataW H × List MemPlace} (h : DataW.trod enc Tryd.prog w 0 (fun _ => true) held n 83 [v] = some y) : ∃ (A : Option Addr) (zs : List Int) (c : Nat), v = .slice A zs.length c ∧ IntsAt w A zs ∧ zs.length ≤ 9223372036854775807 ∧ zs.length ≤ c := by
  rcases open_ints Tryd.underlying83 Tryd.underlying3 (by kernel_rfl) h with ⟨hcs, _⟩ | ⟨x, l', c', zs, hcs, _, hl, hm, hz, _, hcell, hwf⟩
  · simp at hcs
    subst hcs
    exact ⟨none, [], 0, rfl, fun i h => absurd h (by simp), by simp, by simp⟩
  · simp at hcs
    subst hcs
    have hzc : zs.length = c' := by simpa using hz
    unfold maxLen at hm
    have hl2 : (zs.take l').length = l' := by simp; omega
    refine ⟨some x, zs.take l', c', by rw [hl2], fun i hi => ?_, by rw [hl2]; omega, by rw [hl2]; omega⟩
    have hil : i < zs.length := by simp at hi; omega
    obtain ⟨b, o, rfl, hb⟩ := spot0 (hcell 0 (by omega))
    have hc := hcell i hil
    rw [addr_add] at hc
    have hw := bounds_i64 (hwf zs[i] (List.getElem_mem hil))
    refine ⟨b, o, rfl, hb, ?_, by simpa using hw.1, by simpa using hw.2⟩
    rw [hc]
    simp [List.getD, hil]

/-- .. and how long its datum is. -/
theorem ints_sz (h : DataW.Trod enc Tryd.prog w 0 (fun _ => true) held 83 (.slice a l c) d pl) : d = .nil ∧ l = 0 ∨ ∃ el sp, d = .slice el sp ∧ l ≤ el.length + sp.length := by
  obtain ⟨fuel, hf⟩ := h
  rcases open_slice1 Tryd.underlying83 (by kernel_rfl) hf with ⟨hcs, hd⟩ | ⟨x, l', c', m, n, V, D, Pl, hcs, _, hl, hm, hmm, hd, hi⟩
  · simp [Value.cells] at hcs
    exact .inl ⟨congrArg Prod.fst hd, hcs.2.1⟩
  · simp [Value.cells] at hcs
    obtain ⟨rfl, rfl, rfl⟩ := hcs
    exact .inr ⟨_, _, congrArg Prod.fst hd, by simp⟩

theorem ints_of (h : DataW.Trod enc Tryd.prog w 0 (fun _ => true) held 83 (.slice a l c) d pl) : ∃ zs : List Int, zs.length = l ∧ (l ≤ 9223372036854775807 ∧ l ≤ c) ∧ IntsAt w a zs := by
  obtain ⟨fuel, hf⟩ := h
  have hf' : DataW.trod enc Tryd.prog w 0 (fun _ => true) held fuel 83 [.slice a l c] = some (d, pl) := hf
  obtain ⟨A, zs, c', h1, h2, h3, h4⟩ := ints_cells hf'
  simp only [Value.slice.injEq] at h1
  obtain ⟨rfl, rfl, rfl⟩ := h1
  exact ⟨zs, rfl, ⟨h3, h4⟩, h2⟩
end
end Go.Proofs.YtdpbdkacngaemaaDoor.ib

/- A block that is known whole; all but some blocks as it was. -/
namespace Go.Proofs.YtdpbdkacngaemaaDoor.ib
open Go Go.RowKit
set_option maxRecDepth 100000

/-- A block that is known whole. -/
def Blk (w : World) (g : Nat) (t : TypeId) (cs : Array Value) : Prop := w.heap[g]? = some (.cells cs t (0, 0))
section
variable {w w' : World} {g : Nat} {t : TypeId} {cs : Array Value}
theorem Blk.lt (h : Blk w g t cs) : g < w.heap.size := by
  unfold Blk at h
  exact (Array.getElem?_eq_some_iff.1 h).1
theorem Blk.cell (h : Blk w g t cs) (i : Nat) : w.cell? ⟨g, i, none⟩ = cs[i]? := cell_of_row w g i cs t (0, 0) h
theorem Blk.frozen (h : Blk w g t cs) (i : Nat) : w.frozen? ⟨g, i, none⟩ = false := by
  unfold Blk at h
  simp [World.frozen?, h]
theorem Blk.new (w : World) (t : TypeId) (cs : Array Value) : Blk (w.alloc (.cells cs t)) w.heap.size t cs := heap_alloc_new w _
theorem Blk.of_block (h : Blk w g t cs) (hb : w'.heap[g]? = w.heap[g]?) : Blk w' g t cs := hb.trans h
theorem Blk.below (h : Blk w g t cs) (hb : Below w.heap.size w w') : Blk w' g t cs := h.of_block (hb.block _ h.lt)
theorem Blk.set_ (h : Blk w g t cs) (i : Nat) (u : Value) : Blk (w.setCell ⟨g, i, none⟩ u) g t (cs.setIfInBounds i u) := heap_setCell_same w g i cs t u h
end

/-- w' is w but for the blocks of S, and new ones. -/
structure But (S : Nat → Prop) (w w' : World) : Prop where
  os : w'.os = w.os
  tape : w'.tape = w.tape
  output : w'.output = w.output
  size : w.heap.size ≤ w'.heap.size
  block : ∀ k, k < w.heap.size → ¬ S k → w'.heap[k]? = w.heap[k]?

section
variable {S S' : Nat → Prop} {a b c w w' : World}
theorem But.refl (S : Nat → Prop) (w : World) : But S w w := ⟨rfl, rfl, rfl, Nat.le_refl _, fun _ _ _ => rfl⟩
theorem But.trans (h : But S a b) (k : But S' b c) (hs : ∀ i, S' i → S i ∨ a.heap.size ≤ i) : But S a c :=
  ⟨k.os.trans h.os, k.tape.trans h.tape, k.output.trans h.output, Nat.le_trans h.size k.size, fun i hi hn => by
    refine (k.block i (Nat.lt_of_lt_of_le hi h.size) (fun e => ?_)).trans (h.block i hi hn)
    rcases hs i e with h1 | h1
    · exact hn h1
    · omega⟩
theorem But.mono (h : But S w w') (hs : ∀ i, S i → S' i) : But S' w w' := ⟨h.os, h.tape, h.output, h.size, fun k hk hn => h.block k hk (fun e => hn (hs k e))⟩
theorem But.of_below (h : Below w.heap.size w w') : But S w w' := ⟨h.os, h.tape, h.output, h.size, fun k hk _ => h.block k hk⟩
theorem But.drew (h : But S a w) : But S a w.drew := ⟨h.os, h.tape, h.output, h.size, h.block⟩
theorem But.drewN (h : But S a w) (n : Nat) : But S a (w.drewN n) := ⟨h.os, h.tape, h.output, h.size, h.block⟩
theorem But.alloc (h : But S a w) (o : Obj) : But S a (w.alloc o) :=
  h.trans (S' := fun _ => False) ⟨rfl, rfl, rfl, by simp, fun k hk _ => Below.heap_alloc _ _ _ hk⟩ (fun _ e => e.elim)
theorem But.setCell (h : But S a w) (p : Addr) (u : Value) (hp : S p.block ∨ a.heap.size ≤ p.block) : But S a (w.setCell p u) :=
  h.trans (S' := fun k => k = p.block) ⟨rfl, rfl, rfl, by simp [World.setCell], fun k _ hn => Below.heap_setCell _ _ _ _ hn⟩ (fun i e => by rw [e]; exact hp)
theorem But.below {B : Nat} (h : But S a w) (hs : ∀ i, S i → B ≤ i) (hB : B ≤ a.heap.size) : Below B a w :=
  ⟨h.os, h.tape, h.output, h.size, fun k hk => h.block k (by omega) (fun e => by have := hs k e; omega)⟩
end
end Go.Proofs.YtdpbdkacngaemaaDoor.ib

/- Lists of numbers in memory: literals, what is new, what is kept. -/
namespace Go.Proofs.YtdpbdkacngaemaaDoor.ib
open Go Go.RowKit
set_option maxRecDepth 100000

def ncells (cs : List Int) : Array Value := (cs.map (Value.int .i64)).toArray
theorem ncells_at (cs : List Int) (i : Nat) (h : i < cs.length) : (ncells cs)[i]? = some (.int .i64 cs[i]) := by simp [ncells, h]
theorem ncells_size (cs : List Int) : (ncells cs).size = cs.length := by simp [ncells]
theorem ncells_set (cs : List Int) (i : Nat) (v : Int) : (ncells cs).setIfInBounds i (.int .i64 v) = ncells (cs.set i v) := by
  unfold ncells
  rw [List.setIfInBounds_toArray, List.map_set]
theorem ncells_new (n : Nat) : madeCells #[.int .i64 0] n = ncells (List.replicate n 0) := by
  apply Array.ext
  · simp [size_madeCells, ncells]
  · intro j h1 h2
    have e : (ncells (List.replicate n 0))[j]? = some (.int .i64 0) := by
      have hj : j < n := by simpa [ncells] using h2
      rw [ncells_at _ _ (by simpa using hj), List.getElem_replicate]
    rw [Array.getElem?_eq_getElem h2] at e
    rw [Option.some.inj e]
    simp [madeCells, Nat.mod_one]
theorem Blk.nums {w : World} {g : Nat} {cs : List Int} (h : Blk w g 3 (ncells cs)) (hz : ∀ z ∈ cs, i64B z) : IntsAt w (some ⟨g, 0, none⟩) cs := fun i hi =>
  ⟨g, 0, rfl, h.lt, by rw [Nat.zero_add, h.cell i]; exact ncells_at cs i hi, hz _ (List.getElem_mem hi)⟩
theorem nums_new (W : World) (zs : List Int) (hz : ∀ z ∈ zs, i64B z) : IntsAt (W.alloc (.cells (ncells zs) 3)) (some ⟨W.heap.size, 0, none⟩) zs := Blk.nums (Blk.new W 3 (ncells zs)) hz
theorem make_nums (n : Int) (h0 : 0 ≤ n) (h : n * 8 ≤ 140737488355328) (W : World) : (Instr.makeSlice 83 (.int .i64 n) (.int .i64 n)).run Tryd.prog W = .ok (.slice (some ⟨W.heap.size, 0, none⟩) n.toNat n.toNat) (W.alloc (.cells (ncells (List.replicate n.toNat 0)) 3)) := by
  obtain ⟨i0, hi, hz0, hz1, hz2⟩ := info_parts infoInt
  have hmk := run_make (P := Tryd.prog) W 83 3 i0 (.int .i64 0) Tryd.underlying83 hi hz0 .i64 .i64 n n h0 (Int.le_refl _) (by rw [hz2]; omega) (by omega)
  rw [hz1] at hmk
  rw [← ncells_new]
  simpa [Value.cells] using hmk

/-- A bool; a number; nothing that was there is changed. -/
def endB (r : Bool) (w : World) (e : Ending) (w' : World) : Prop := e = .returned (.bool r) ∧ Below w.heap.size w w'
def endI (r : Int) (w : World) (e : Ending) (w' : World) : Prop := e = .returned (.int .i64 r) ∧ Below w.heap.size w w'
/-- A list that is new, and may be written. -/
structure New (w w' : World) (A : Option Addr) (r : List Int) (cc : Nat) : Prop where
  ints : IntsAt w' A r
  free : ∀ i, i < r.length → ∀ b o, A = some ⟨b, o, none⟩ → w'.frozen? ⟨b, o + i, none⟩ = false
  new : ∀ b o, A = some ⟨b, o, none⟩ → w.heap.size ≤ b ∧ b < w'.heap.size
  cap : r.length ≤ cc
  nil : A = none → r.length = 0 ∧ cc = 0
/-- A list, with its room. -/
structure SlAt (w : World) (A : Option Addr) (l : List Int) (c : Nat) : Prop where
  ints : IntsAt w A l
  cap : l.length ≤ c
  nil : A = none → l.length = 0 ∧ c = 0
theorem SlAt.below {w w' : World} {A : Option Addr} {l : List Int} {c : Nat} (h : SlAt w A l c) (hb : Below w.heap.size w w') : SlAt w' A l c := ⟨h.ints.below hb, h.cap, h.nil⟩
theorem New.sl {w w' : World} {A : Option Addr} {r : List Int} {cc : Nat} (h : New w w' A r cc) : SlAt w' A r cc := ⟨h.ints, h.cap, h.nil⟩
theorem SlAt.none (w : World) : SlAt w none [] 0 := ⟨IntsAt.nil _ _, Nat.le_refl _, fun _ => ⟨rfl, rfl⟩⟩
theorem sl_new (W : World) (zs : List Int) (hz : ∀ z ∈ zs, i64B z) : SlAt (W.alloc (.cells (ncells zs) 3)) (some ⟨W.heap.size, 0, Option.none⟩) zs zs.length := ⟨nums_new W zs hz, Nat.le_refl _, fun h => by cases h⟩
def endL (r : List Int) (w : World) (e : Ending) (w' : World) : Prop := ∃ A cc, e = .returned (.slice A r.length cc) ∧ New w w' A r cc ∧ Below w.heap.size w w'
def endP (r : List Int × Int) (w : World) (e : Ending) (w' : World) : Prop := ∃ A cc, e = .returned (.tuple #[.slice A r.1.length cc, .int .i64 r.2]) ∧ New w w' A r.1 cc ∧ Below w.heap.size w w'
theorem New.empty (w w' : World) : New w w' none [] 0 := ⟨IntsAt.nil _ _, fun _ h => absurd h (by simp), (fun _ _ h => by cases h), Nat.le_refl _, fun _ => ⟨rfl, rfl⟩⟩
theorem endP_nil {c : Int} {w w' : World} (h : Below w.heap.size w w') : endP ([], c) w (.returned (.tuple #[.slice none 0 0, .int .i64 c])) w' :=
  ⟨none, 0, rfl, New.empty _ _, h⟩
theorem OInts.new {w w' : World} {v : Value} {zs : List Int} (h : OInts w' w.heap.size v zs) (hz : ∀ z ∈ zs, i64B z) : ∃ A cc, v = .slice A zs.length cc ∧ New w w' A zs cc := by
  rcases h.2 with ⟨rfl, h0⟩ | ⟨g, cap, cur, rfl, hg, hh, hcc, hm, hcs, hcur⟩
  · obtain rfl : zs = [] := List.length_eq_zero_iff.1 h0
    exact ⟨none, 0, rfl, New.empty _ _⟩
  · obtain ⟨A, cc, hv, hi, hb⟩ := h.view hz
    simp only [Value.slice.injEq] at hv
    obtain ⟨rfl, _, rfl⟩ := hv
    refine ⟨_, _, rfl, hi, fun i _ b o hA => ?_, hb, by omega, fun h => by cases h⟩
    simp only [Option.some.injEq, Addr.mk.injEq, and_true] at hA
    obtain ⟨rfl, _⟩ := hA
    simp [World.frozen?, hh]
theorem endP_owned {w w' : World} {v : Value} {zs : List Int} {c : Int} {r : List Int × Int} (ho : OInts w' w.heap.size v zs) (hz : ∀ z ∈ zs, i64B z) (hb : Below w.heap.size w w') (hr : r = (zs, c)) :
    endP r w (.returned (.tuple #[v, .int .i64 c])) w' := by
  subst hr
  obtain ⟨A, cc, rfl, hn⟩ := ho.new hz
  exact ⟨A, cc, rfl, hn, hb⟩
theorem endL_owned {w w' : World} {v : Value} {zs r : List Int} (ho : OInts w' w.heap.size v zs) (hz : ∀ z ∈ zs, i64B z) (hb : Below w.heap.size w w') (hr : r = zs) :
    endL r w (.returned v) w' := by
  subst hr
  obtain ⟨A, cc, rfl, hn⟩ := ho.new hz
  exact ⟨A, cc, rfl, hn, hb⟩
end Go.Proofs.YtdpbdkacngaemaaDoor.ib

/- Rows of the table of types that walks on slices ask. -/
namespace Go.Proofs.YtdpbdkacngaemaaDoor
open Go.RowKit
set_option maxRecDepth 100000

theorem Tryd.info9 : (Tryd.prog.info? 9).map (fun i => (i.zero, i.size, i.bytes)) = some (some (.string ByteArray.empty), 1, 16) := by kernel_rfl
theorem Tryd.info5 : (Tryd.prog.info? 5).map (fun i => (i.zero, i.size, i.bytes)) = some (some (.int .u8 0), 1, 1) := by kernel_rfl

end Go.Proofs.YtdpbdkacngaemaaDoor

/- A region that draws its order, reads, and ends in one forced tail: walked in the text's order, the world behind the draw folded; big loads by a law. -/
namespace Go.Proofs.YtdpbdkacngaemaaDoor
open Go Go.RowKit
set_option maxRecDepth 100000

theorem wp_region_still_w {P : Program} {id : Nat} {Q : Exit → Act → World → Prop} {a : Act} {w : World} {l : List Oper} (n : Nat) (hm : P.follows .mixedOrders = true) (hB : Region.lexTailB .any l.toArray n = true)
    (h : wpStill P l.toArray w.drew (fun a' => wpList P l.toArray Q (l.drop n) a' w.drew) (l.take n) a) : (Code.region id l.toArray true).wp P Q a w :=
  wp_region_still_tail n hm hB h

theorem still_value {P : Program} {ops : Array Oper} {w : World} {Q : Act → Prop} {o : Oper} {rest : List Oper} {a : Act} {v : Value} (hg : o.guard = none) (h : (execOp a.eval o).run P w = .ok (.value v) w)
    (hn : wpStill P ops w Q rest (a.put o.dst v)) : wpStill P ops w Q (o :: rest) a := by
  have hw : Region.wanted o (yielded ops a.tmps) = true := by simp [Region.wanted, hg]
  unfold wpStill
  rw [if_pos hw]
  unfold Oper.still
  rw [h]
  exact ⟨rfl, hn⟩

theorem wp_value {P : Program} {o : Oper} {a : Act} {w w' : World} {v : Value} {K : Act → World → Prop} {Q : Exit → Act → World → Prop} (h : (execOp a.eval o).run P w = .ok (.value v) w') (hn : K (a.put o.dst v) w') : o.wp P a w K Q := by
  unfold Oper.wp
  rw [h]
  exact hn

theorem wpList_value {P : Program} {ops : Array Oper} {rest : List Oper} {o : Oper} {a : Act} {w w' : World} {v : Value} {Q : Exit → Act → World → Prop} (hg : o.guard = none) (h : (execOp a.eval o).run P w = .ok (.value v) w')
    (hn : wpList P ops Q rest (a.put o.dst v) w') : wpList P ops Q (o :: rest) a w :=
  wpList_plain hg fun _ hK => wp_value h (hK _ _ hn)

theorem wp_skip {P : Program} {o : Oper} {a : Act} {w w' : World} {K : Act → World → Prop} {Q : Exit → Act → World → Prop} (h : (execOp a.eval o).run P w = .ok .skip w') (hn : K (a.put o.dst undef) w') : o.wp P a w K Q := by
  unfold Oper.wp
  rw [h]
  exact hn

theorem wpList_skip {P : Program} {ops : Array Oper} {rest : List Oper} {o : Oper} {a : Act} {w w' : World} {Q : Exit → Act → World → Prop} (hg : o.guard = none) (h : (execOp a.eval o).run P w = .ok .skip w')
    (hn : wpList P ops Q rest (a.put o.dst undef) w') : wpList P ops Q (o :: rest) a w :=
  wpList_plain hg fun _ hK => wp_skip h (hK _ _ hn)

theorem wpList_value_w {P : Program} {ops : Array Oper} {rest : List Oper} {o : Oper} {a : Act} {w w' : World} {v : Value} {Q : Exit → Act → World → Prop} (hw : Region.wanted o (yielded ops a.tmps) = true) (h : (execOp a.eval o).run P w = .ok (.value v) w')
    (hn : wpList P ops Q rest (a.put o.dst v) w') : wpList P ops Q (o :: rest) a w :=
  wpList_step fun K hK => by
    rw [if_pos hw]
    exact wp_value h (hK _ _ hn)

end Go.Proofs.YtdpbdkacngaemaaDoor

/- A letter, so often, as a string: what the statements' data makes. -/
namespace Go.Proofs.YtdpbdkacngaemaaDoor.ib
open Go Go.RowKit
set_option maxRecDepth 100000

abbrev Bt := List UInt8
/-- 32 zeros. -/
def zz : Bt := List.replicate 32 0
/-- A letter, so often. -/
def rep (c : UInt8) (n : Nat) : Bt := List.replicate n c
def dat (c : UInt8) : Bt := if c.toNat ≤ 250 then rep c 32 else rep c (c.toNat % 31)
theorem zz_length : zz.length = 32 := by simp [zz]
theorem dat_length {c : UInt8} (h : c.toNat ≤ 250) : (dat c).length = 32 := by unfold dat; rw [if_pos h]; simp [rep]

theorem zeros_cells (z : Nat) : madeCells #[Value.int .u8 0] z = (Lib.byteCells (List.replicate z 0)).toArray := by
  apply Array.ext'
  apply List.ext_getElem?
  intro j
  by_cases hj : j < z <;> simp [madeCells, Lib.byteCells, hj, Nat.mod_one]

theorem make_zeros (e : Int) (z : Nat) (w : World) (he : e = (z : Int)) (hz : z ≤ 1000000) :
    (Instr.makeSlice 60 (.int .i64 e) (.int .i64 e)).run Tryd.prog w = .ok (.slice (some ⟨w.heap.size, 0, none⟩) z z) (w.alloc (.cells (Lib.byteCells (List.replicate z 0)).toArray 5)) := by
  subst he
  obtain ⟨i0, hi, hz0, hz1, hz2⟩ := info_parts Tryd.info5
  have hmk := run_make (P := Tryd.prog) w 60 5 i0 (.int .u8 0) Tryd.underlying60 hi hz0 .i64 .i64 (z : Int) (z : Int) (by omega) (by omega) (by rw [hz2]; omega) (by omega)
  rw [hz1] at hmk
  rw [← zeros_cells]
  simpa [Value.cells] using hmk

theorem exec_make32 {ρ : Operand → Value} {o : Oper} {w : World} (x y : Operand) (z : Nat) (ho : o.op = .makeSlice 60 x y) (hx : ρ x = .int .i64 (z : Int)) (hy : ρ y = .int .i64 (z : Int)) (hz : z ≤ 1000000) :
    (execOp ρ o).run Tryd.prog w = .ok (.value (.slice (some ⟨w.heap.size, 0, none⟩) z z)) (w.alloc (.cells (Lib.byteCells (List.replicate z 0)).toArray 5)) := by
  have hr := make_zeros (z : Int) z w rfl hz
  simp [execOp, ho, hx, hy, hr, Result.andThen]

theorem conv_block (P : Bt) (b k : Nat) (t : TypeId) (w : World) (hk : P.length = k) (h : w.heap[b]? = some (.cells (Lib.byteCells P).toArray t (0, 0))) :
    (convert 60 9 (.slice (some ⟨b, 0, none⟩) k k)).run Tryd.prog w = .ok (.string (str P)) w := by
  subst hk
  refine run_convert_bytes_back (P := Tryd.prog) w 60 9 5 ⟨b, 0, none⟩ P.length P Tryd.underlying60 Tryd.underlying5 Tryd.underlying9 ?_
  intro j hj
  rw [addr_add, Nat.zero_add, cell_of_row w b j _ _ _ h]
  simp [Lib.byteCells, hj]

theorem conv_part (P : Bt) (cs : Array Value) (b cap : Nat) (t : TypeId) (w : World) (h : w.heap[b]? = some (.cells cs t (0, 0))) (hc : ∀ (j : Nat) (u : Value), (Lib.byteCells P)[j]? = some u → cs[j]? = some u) :
    (convert 60 9 (.slice (some ⟨b, 0, none⟩) P.length cap)).run Tryd.prog w = .ok (.string (str P)) w := by
  refine run_convert_bytes_back (P := Tryd.prog) w 60 9 5 ⟨b, 0, none⟩ cap P Tryd.underlying60 Tryd.underlying5 Tryd.underlying9 ?_
  intro j hj
  rw [addr_add, Nat.zero_add, cell_of_row w b j _ _ _ h]
  exact hc j _ (by simp [Lib.byteCells, hj])

def okS (v : Bt) (w : World) (e : Ending) (w' : World) : Prop := e = .returned (.string (str v)) ∧ Below w.heap.size w w'

def lpart (c : UInt8) (k : Nat) : Array Value := (Lib.byteCells (List.replicate k c ++ List.replicate (32 - k) 0)).toArray

theorem lpart_zero (c : UInt8) : lpart c 0 = (Lib.byteCells (List.replicate 32 0)).toArray := rfl
theorem lpart_size (c : UInt8) (k : Nat) (h : k ≤ 32) : (lpart c k).size = 32 := by simp [lpart, Lib.byteCells]; omega
theorem lpart_set (c : UInt8) (k : Nat) (h : k < 32) : (lpart c k).setIfInBounds k (.int .u8 (c.toNat : Int)) = lpart c (k + 1) := by
  unfold lpart Lib.byteCells
  simp only [List.setIfInBounds_toArray, List.map_append, List.map_replicate]
  rw [List.set_append_right _ _ (by simp)]
  congr 1
  rw [show 32 - k = (32 - (k + 1)) + 1 by omega, List.replicate_succ, List.replicate_succ']
  simp
theorem rep_length (c : UInt8) (n : Nat) : (rep c n).length = n := by simp [rep]
theorem lpart_full (c : UInt8) : lpart c 32 = (Lib.byteCells (rep c 32)).toArray := by simp [lpart, rep]

end Go.Proofs.YtdpbdkacngaemaaDoor.ib

/- Lists of texts in memory, read alone. -/
namespace Go.Proofs.YtdpbdkacngaemaaDoor.ib
open Go Go.RowKit
set_option maxRecDepth 100000

def b64 (x : Int) : Prop := -9223372036854775808 ≤ x ∧ x ≤ 9223372036854775807
/-- A slice of texts. -/
def TxL (w : World) (A : Option Addr) (ts : List Bt) : Prop :=
  ∀ i (h : i < ts.length), ∃ b o, A = some ⟨b, o, none⟩ ∧ b < w.heap.size ∧ w.cell? ⟨b, o + i, none⟩ = some (.string (str ts[i]))
theorem TxL.kept {w w' : World} {A : Option Addr} {ts : List Bt} (h : TxL w A ts) (hs : w.heap.size ≤ w'.heap.size) (hk : ∀ b o, A = some ⟨b, o, none⟩ → w'.heap[b]? = w.heap[b]?) : TxL w' A ts := by
  intro i hi
  obtain ⟨b, o, h1, h2, h3⟩ := h i hi
  exact ⟨b, o, h1, Nat.lt_of_lt_of_le h2 hs, by rw [World.cell?_of_block (a := ⟨b, o + i, none⟩) (hk b o h1)]; exact h3⟩
theorem TxL.below {w w' : World} {A : Option Addr} {ts : List Bt} (h : TxL w A ts) (hb : Below w.heap.size w w') : TxL w' A ts := by
  intro i hi
  obtain ⟨b, o, h1, h2, h3⟩ := h i hi
  exact ⟨b, o, h1, Nat.lt_of_lt_of_le h2 hb.size, by rw [hb.cell (p := ⟨b, o + i, none⟩) h2]; exact h3⟩
/-- What is answered lies in new memory. -/
def NewA (w w' : World) (A : Option Addr) : Prop := ∀ b o, A = some ⟨b, o, none⟩ → w.heap.size ≤ b ∧ b < w'.heap.size
theorem NewA.none (w w' : World) : NewA w w' none := fun _ _ h => by cases h
end Go.Proofs.YtdpbdkacngaemaaDoor.ib

/- Tables in memory; what is asked of the program's four functions. -/
namespace Go.Proofs.YtdpbdkacngaemaaDoor.mt
open Go Go.RowKit Go.Proofs.YtdpbdkacngaemaaDoor.ib Go.Proofs.YtdpbdkacngaemaaDoor.wi
set_option maxRecDepth 100000

/-- A slice of snapshots. -/
def SnsAt (w : World) (A : Option Addr) (xs : List Sp) : Prop :=
  ∀ i (h : i < xs.length), ∃ b o B c, A = some ⟨b, o, none⟩ ∧ b < w.heap.size ∧ w.cell? ⟨b, o + i * 4, none⟩ = some (.int .u64 (xs[i].g.1 : Int)) ∧ w.cell? ⟨b, o + i * 4 + 1, none⟩ = some (.int .u64 (xs[i].g.2 : Int)) ∧
    w.cell? ⟨b, o + i * 4 + 2, none⟩ = some (.slice B xs[i].img.length c) ∧ w.cell? ⟨b, o + i * 4 + 3, none⟩ = some (.bool xs[i].hid) ∧ SlAt w B xs[i].img c ∧ gdB xs[i].g
theorem SnsAt.below {w w' : World} {A : Option Addr} {xs : List Sp} (h : SnsAt w A xs) (hb : Below w.heap.size w w') : SnsAt w' A xs := by
  intro i hi
  obtain ⟨b, o, B, c, h1, h2, h3, h4, h5, h6, h7, h8⟩ := h i hi
  exact ⟨b, o, B, c, h1, Nat.lt_of_lt_of_le h2 hb.size, by rw [hb.cell (p := ⟨b, o + i * 4, none⟩) h2]; exact h3, by rw [hb.cell (p := ⟨b, o + i * 4 + 1, none⟩) h2]; exact h4, by rw [hb.cell (p := ⟨b, o + i * 4 + 2, none⟩) h2]; exact h5, by rw [hb.cell (p := ⟨b, o + i * 4 + 3, none⟩) h2]; exact h6, h7.below hb, h8⟩
theorem SnsAt.nil (w : World) (A : Option Addr) : SnsAt w A [] := fun i h => absurd h (by simp)
theorem SnsAt.gds {w : World} {A : Option Addr} {xs : List Sp} (h : SnsAt w A xs) : ∀ s ∈ xs, gdB s.g := by
  intro s hs
  obtain ⟨i, hi, rfl⟩ := List.getElem_of_mem hs
  obtain ⟨_, _, _, _, _, _, _, _, _, _, _, h8⟩ := h i hi
  exact h8

/-- A table's nine cells. -/
def mtC (A0 A1 A2 : Option Addr) (c0 c1 c2 : Nat) (m : Mt) : Array Value := #[.slice A0 m.live.length c0, .slice A1 m.snaps.length c1, .int .u64 (m.tok.base.1 : Int), .int .u64 (m.tok.base.2 : Int), .int .u64 (m.tok.target.1 : Int), .int .u64 (m.tok.target.2 : Int), .int .i64 m.tok.next, .int .i64 m.tok.all, .slice A2 m.tok.img.length c2]
/-- What its three slices hold. -/
structure MtL (w : World) (A0 A1 A2 : Option Addr) (c0 c1 c2 : Nat) (m : Mt) : Prop where
  live : SlAt w A0 m.live c0
  snaps : SnsAt w A1 m.snaps
  room : m.snaps.length ≤ c1 ∧ (A1 = none → m.snaps.length = 0 ∧ c1 = 0)
  img : SlAt w A2 m.tok.img c2
  base : gdB m.tok.base
  target : gdB m.tok.target
  next : i64B m.tok.next
  all : i64B m.tok.all
theorem MtL.below {w w' : World} {A0 A1 A2 : Option Addr} {c0 c1 c2 : Nat} {m : Mt} (h : MtL w A0 A1 A2 c0 c1 c2 m) (hb : Below w.heap.size w w') : MtL w' A0 A1 A2 c0 c1 c2 m :=
  ⟨h.live.below hb, h.snaps.below hb, h.room, h.img.below hb, h.base, h.target, h.next, h.all⟩
theorem MtL.mB {w : World} {A0 A1 A2 : Option Addr} {c0 c1 c2 : Nat} {m : Mt} (h : MtL w A0 A1 A2 c0 c1 c2 m) : mB m := ⟨h.snaps.gds, h.base, h.target⟩
/-- A table that is not too long. -/
structure mtS (m : Mt) : Prop where
  live : m.live.length ≤ 1000
  snaps : m.snaps.length ≤ 1000
  imgs : ∀ s ∈ m.snaps, s.img.length ≤ 1000
  img : m.tok.img.length ≤ 1000
/-- A table, as a value. -/
def MtAt (w : World) (v : Value) (m : Mt) : Prop := ∃ A0 A1 A2 c0 c1 c2, v = .agg (mtC A0 A1 A2 c0 c1 c2 m) ∧ MtL w A0 A1 A2 c0 c1 c2 m
theorem MtAt.below {w w' : World} {v : Value} {m : Mt} (h : MtAt w v m) (hb : Below w.heap.size w w') : MtAt w' v m := by
  obtain ⟨A0, A1, A2, c0, c1, c2, h1, h2⟩ := h
  exact ⟨A0, A1, A2, c0, c1, c2, h1, h2.below hb⟩
theorem MtAt.mB {w : World} {v : Value} {m : Mt} (h : MtAt w v m) : mB m := by
  obtain ⟨A0, A1, A2, c0, c1, c2, h1, h2⟩ := h
  exact h2.mB

def endS (r : List UInt8 × Int) (w : World) (e : Ending) (w' : World) : Prop := e = .returned (.tuple #[.string (str r.1), .int .i64 r.2]) ∧ Below w.heap.size w w'
def endM (r : Mt × Int) (w : World) (e : Ending) (w' : World) : Prop := ∃ v, e = .returned (.tuple #[v, .int .i64 r.2]) ∧ MtAt w' v r.1 ∧ Below w.heap.size w w'
structure MImpl : Prop where
end Go.Proofs.YtdpbdkacngaemaaDoor.mt

/- Are two guids alike, as the program asks it. -/
namespace Go.Proofs.YtdpbdkacngaemaaDoor.mt
open Go Go.RowKit Go.Proofs.YtdpbdkacngaemaaDoor.ib
set_option maxRecDepth 100000

@[go_sem] theorem eq_gd (a b c d : Int) (w : World) : (Op.equalIn 10000 24 (.agg #[.int .u64 a, .int .u64 b]) (.agg #[.int .u64 c, .int .u64 d])).run Tryd.prog w = .ok (a == c && b == d) w := by
  have u3 := Tryd.underlying22
  have a3 := Tryd.isAgg22
  have z3 := Tryd.sizeOf22
  rw [show (10000 : Nat) = 9999 + 1 from rfl, run_equalIn_agg w 9999 24 _ _ (by kernel_rfl) (by kernel_rfl)]
  simp only [Program.fieldsOf, Tryd.underlying24]
  go_simp
  by_cases h1 : a = c <;> by_cases h2 : b = d <;> simp [h1, h2]

def gv (g : Gd) : Value := .agg #[.int .u64 (g.1 : Int), .int .u64 (g.2 : Int)]
theorem gd_eq (x y : Gd) : ((x.1 : Int) == (y.1 : Int) && (x.2 : Int) == (y.2 : Int)) = decide (x = y) := by
  obtain ⟨a, b⟩ := x
  obtain ⟨c, d⟩ := y
  rw [Bool.eq_iff_iff]
  simp
  omega
end Go.Proofs.YtdpbdkacngaemaaDoor.mt

/- Chains as plain data: live volume, snapshots; what each call does. -/
namespace Go.Proofs.YtdpbdkacngaemaaDoor.ch
open Go Go.RowKit Go.Proofs.YtdpbdkacngaemaaDoor.ib
set_option maxRecDepth 100000

abbrev Gd := Nat × Nat
structure Sn where
  g : Gd
  bs : List Bt
  hid : Bool
structure CH where
  live : List Bt
  snaps : List Sn

def above (a b : Gd) : Bool := decide (b.1 < a.1) || (decide (a.1 = b.1) && decide (b.2 < a.2))
def CH.last (c : CH) : Gd := match c.snaps.getLast? with
  | none => (0, 0)
  | some s => s.g
def zvol (n : Nat) : List Bt := List.replicate n zz
def CH.base (c : CH) : List Bt := match c.snaps.getLast? with
  | none => zvol c.live.length
  | some s => s.bs
def chNew (n : Nat) : CH := ⟨zvol n, []⟩
def CH.may (c : CH) (g : Gd) : Int := if above g c.last then (if 20 ≤ c.snaps.length then 3 else 0) else 2
def CH.write (c : CH) (k : Int) (s : Bt) : CH × Int := if k < 0 ∨ (c.live.length : Int) ≤ k ∨ s.length ≠ 32 then (c, 2) else (⟨c.live.set k.toNat s, c.snaps⟩, 0)
def CH.snap (c : CH) (g : Gd) : CH × Int := if c.may g = 0 then (⟨c.live, c.snaps ++ [⟨g, c.live, false⟩]⟩, 0) else (c, c.may g)
/-- Blocks put, as long as they rise. -/
def putAll : List Bt → Int → List (Int × Bt) → Option (List Bt)
  | l, _, [] => some l
  | l, p, (k, s) :: r => if k ≤ p ∨ (l.length : Int) ≤ k ∨ s.length ≠ 32 then none else putAll (l.set k.toNat s) k r
def CH.add (c : CH) (g : Gd) (x : List (Int × Bt)) : CH × Int :=
  if c.may g = 0 then (match putAll c.base (-1) x with
    | none => (c, 2)
    | some l => (⟨l, c.snaps ++ [⟨g, l, false⟩]⟩, 0)) else (c, c.may g)
def CH.roll (c : CH) (k : Int) : CH × Int := if k < 0 ∨ (c.snaps.length : Int) < k then (c, 2) else
  (⟨(⟨c.live, c.snaps.take k.toNat⟩ : CH).base, c.snaps.take k.toNat⟩, 0)
def CH.find (c : CH) (g : Gd) : Option Nat := c.snaps.findIdx? fun s => decide (s.g = g)
def hideAt (l : List Sn) (i : Nat) : List Sn := l.modify i fun s => { s with hid := true }
def CH.hide (c : CH) (g : Gd) : CH × Int := match c.find g with
  | none => (c, 5)
  | some i => match c.snaps[i]? with
    | none => (c, 5)
    | some s => if s.hid then (c, 14) else (⟨c.live, hideAt c.snaps i⟩, 0)
def CH.list (c : CH) : List Gd := c.snaps.map (·.g)
def CH.read (c : CH) (g : Gd) : List Bt × Int := match c.find g with
  | none => ([], 5)
  | some i => match c.snaps[i]? with
    | none => ([], 5)
    | some s => if s.hid then ([], 14) else (s.bs, 0)
/-- Where a volume differs from the one ahead. -/
def diffs (p q : List Bt) : List (Int × Bt) := (List.range q.length).filterMap fun i => if q.getD i [] = p.getD i [] then none else some ((i : Int), q.getD i [])
def CH.volAt (c : CH) (k : Nat) : List Bt := match c.snaps[k]? with
  | none => []
  | some s => s.bs
def CH.prev (c : CH) (k : Nat) : List Bt := if k = 0 then zvol c.live.length else c.volAt (k - 1)
def CH.changes (c : CH) (k : Int) : List (Int × Bt) × Int := if k < 0 ∨ (c.snaps.length : Int) ≤ k then ([], 5) else (diffs (c.prev k.toNat) (c.volAt k.toNat), 0)

/-- A chain is well. -/
def volOk (n : Nat) (l : List Bt) : Prop := l.length = n ∧ ∀ v ∈ l, v.length = 32
structure CH.ok (c : CH) : Prop where
  live : volOk c.live.length c.live
  n1 : 1 ≤ c.live.length
  n8 : c.live.length ≤ 8
  snaps : ∀ s ∈ c.snaps, volOk c.live.length s.bs
  few : c.snaps.length ≤ 20
  gds : ∀ s ∈ c.snaps, s.g.1 < 18446744073709551616 ∧ s.g.2 < 18446744073709551616

theorem zvol_ok (n : Nat) : volOk n (zvol n) := ⟨by simp [zvol], fun v hv => by rw [List.eq_of_mem_replicate hv]; exact zz_length⟩
theorem set_ok {n k : Nat} {l : List Bt} {s : Bt} (h : volOk n l) (hs : s.length = 32) : volOk n (l.set k s) := by
  refine ⟨by rw [List.length_set]; exact h.1, fun v hv => ?_⟩
  rcases List.mem_or_eq_of_mem_set hv with h1 | h1
  · exact h.2 v h1
  · rw [h1]; exact hs
theorem CH.ok.base_ok {c : CH} (h : c.ok) : volOk c.live.length c.base := by
  unfold CH.base
  split
  · exact zvol_ok _
  · rename_i s hs
    exact h.snaps s (List.mem_of_getLast? hs)
theorem putAll_ok {n : Nat} : ∀ {x : List (Int × Bt)} {l l' : List Bt} {p : Int}, volOk n l → putAll l p x = some l' → volOk n l'
  | [], l, l', p, h, e => by
    simp only [putAll, Option.some.injEq] at e
    rw [← e]; exact h
  | (k, s) :: r, l, l', p, h, e => by
    unfold putAll at e
    split at e
    · cases e
    · rename_i hc
      exact putAll_ok (set_ok h (by simpa using fun h1 => hc (.inr (.inr h1)))) e

/-! ### What the calls leave -/
theorem may_zero {c : CH} {g : Gd} (h : c.may g = 0) : above g c.last = true ∧ c.snaps.length < 20 := by
  unfold CH.may at h
  split at h
  · split at h
    · cases h
    · exact ⟨by assumption, by omega⟩
  · cases h
theorem last_snoc (l : List Bt) (ss : List Sn) (s : Sn) : (⟨l, ss ++ [s]⟩ : CH).last = s.g := by
  unfold CH.last
  simp
theorem base_snoc (l : List Bt) (ss : List Sn) (s : Sn) : (⟨l, ss ++ [s]⟩ : CH).base = s.bs := by
  unfold CH.base
  simp
theorem base_none (l : List Bt) : (⟨l, []⟩ : CH).base = zvol l.length := rfl
theorem last_none (l : List Bt) : (⟨l, []⟩ : CH).last = (0, 0) := rfl
theorem putAll_nil (l : List Bt) (p : Int) : putAll l p [] = some l := rfl
end Go.Proofs.YtdpbdkacngaemaaDoor.ch

/- A guid as a value; lists of changes in memory. -/
namespace Go.Proofs.YtdpbdkacngaemaaDoor.ch
open Go Go.RowKit Go.Proofs.YtdpbdkacngaemaaDoor.ib
set_option maxRecDepth 100000

def gdB (g : Gd) : Prop := g.1 < 18446744073709551616 ∧ g.2 < 18446744073709551616
def gv (g : Gd) : Value := .agg #[.int .u64 (g.1 : Int), .int .u64 (g.2 : Int)]
/-- A slice of changes. -/
def ChL (w : World) (A : Option Addr) (x : List (Int × Bt)) : Prop :=
  ∀ i (h : i < x.length), ∃ b o, A = some ⟨b, o, none⟩ ∧ b < w.heap.size ∧ w.cell? ⟨b, o + i * 2, none⟩ = some (.int .i64 x[i].1) ∧ w.cell? ⟨b, o + i * 2 + 1, none⟩ = some (.string (str x[i].2)) ∧ b64 x[i].1
theorem ChL.below {w w' : World} {A : Option Addr} {x : List (Int × Bt)} (h : ChL w A x) (hb : Below w.heap.size w w') : ChL w' A x := by
  intro i hi
  obtain ⟨b, o, h1, h2, h3, h4, h5⟩ := h i hi
  exact ⟨b, o, h1, Nat.lt_of_lt_of_le h2 hb.size, by rw [hb.cell (p := ⟨b, o + i * 2, none⟩) h2]; exact h3, by rw [hb.cell (p := ⟨b, o + i * 2 + 1, none⟩) h2]; exact h4, h5⟩
theorem ChL.nil (w : World) (A : Option Addr) : ChL w A [] := fun i h => absurd h (by simp)
end Go.Proofs.YtdpbdkacngaemaaDoor.ch


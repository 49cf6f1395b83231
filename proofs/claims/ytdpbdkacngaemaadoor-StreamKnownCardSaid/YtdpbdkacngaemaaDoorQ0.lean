/- Str, ImPure, WiPure, MtNsec, MtPure, MtMath, CPure. -/
import Derived.Below
import Derived.Lib.Hide
import Derived.Lib.Strings
import Derived.RowKit
import Derived.Lib.ItoaNum
set_option linter.unusedVariables false
set_option linter.unusedSimpArgs false
/- Strings of the program as lists of bytes; and small words that all walks use. -/
namespace Go.Proofs.YtdpbdkacngaemaaDoor
open Go Go.RowKit
set_option maxRecDepth 100000

def str (l : List UInt8) : ByteArray := ⟨l.toArray⟩
def bl (s : ByteArray) : List UInt8 := s.data.toList

theorem bl_str (l : List UInt8) : bl (str l) = l := by simp [bl, str]
theorem str_bl (s : ByteArray) : str (bl s) = s := by obtain ⟨⟨l⟩⟩ := s; rfl
theorem str_size (l : List UInt8) : (str l).size = l.length := by simp [str, ByteArray.size]
theorem bl_len (s : ByteArray) : (bl s).length = s.size := by obtain ⟨⟨l⟩⟩ := s; simp [bl, ByteArray.size]
theorem str_inj {l m : List UInt8} (h : str l = str m) : l = m := by
  have := congrArg bl h
  rwa [bl_str, bl_str] at this

theorem toList_bl (s : ByteArray) : s.toList = bl s := Lib.toList_data s
theorem bl_extract (s : ByteArray) (a b : Nat) : bl (s.extract a b) = ((bl s).drop a).take (b - a) := Lib.extract_data s a b
theorem bl_upto (s : ByteArray) (k : Nat) : bl (s.extract 0 k) = (bl s).take k := by rw [bl_extract]; simp
theorem bl_from (s : ByteArray) (k : Nat) : bl (s.extract k s.size) = (bl s).drop k := by
  rw [bl_extract, List.take_of_length_le]
  rw [List.length_drop, bl_len]; omega
theorem beq_bl (s : ByteArray) (l : List UInt8) : (s.toList == (str l).toList) = decide (bl s = l) := by
  rw [toList_bl, toList_bl, bl_str, Bool.eq_iff_iff]; simp

theorem ofNat_small (k : Nat) (h : k < 256) : (UInt8.ofNat k).toNat = k := by
  simp [UInt8.toNat_ofNat']; omega

theorem addr_add (b o j : Nat) : (⟨b, o, none⟩ : Addr).add j = ⟨b, o + j, none⟩ := by
  unfold Addr.add
  split
  · subst_vars; rfl
  · rfl

theorem below_step {w A B : World} (h : Below w.heap.size w A) (g : Below A.heap.size A B) : Below w.heap.size w B := h.trans (g.mono h.size)
theorem below_new {w A : World} (h : Below w.heap.size w A) (o : Obj) : Below w.heap.size w (A.alloc o) := h.alloc h.size o

def okTrue (w : World) (e : Ending) (w' : World) : Prop := e = .returned (.bool true) ∧ Below w.heap.size w w'
def okStr (r : ByteArray) (w : World) (e : Ending) (w' : World) : Prop := e = .returned (.string r) ∧ Below w.heap.size w w'

end Go.Proofs.YtdpbdkacngaemaaDoor

/- Images as plain data: whether one may be, where two differ, one with another place. -/
namespace Go.Proofs.YtdpbdkacngaemaaDoor.im
open Go Go.RowKit
set_option maxRecDepth 100000

/-- A place; those that a list has not count as 0. -/
def pl (l : List Int) (i : Nat) : Int := l.getD i 0
theorem pl_at {l : List Int} {i : Nat} (h : i < l.length) : pl l i = l[i] := by simp [pl, List.getD, h]
theorem pl_out {l : List Int} {i : Nat} (h : l.length ≤ i) : pl l i = 0 := by simp [pl, List.getD, h]

def badP (n z : Int) : Bool := decide (z ≠ 0) && (decide (z < 193) || decide (n ≤ z))
/-- Is the i-th place one of the first k? -/
def dupAt (l : List Int) (i k : Nat) : Bool := (List.range k).any fun j => decide (pl l i = pl l j)
/-- Is one of the first i places, that is not 0, there twice? -/
def dupTo (l : List Int) (i : Nat) : Bool := (List.range i).any fun j => decide (pl l j ≠ 0) && dupAt l j j
def iCheck (l : List Int) (blocks n : Int) : Int :=
  if blocks < 1 ∨ 8 < blocks ∨ (l.length : Int) ≠ blocks then 2 else if l.any (badP n) then 2 else if dupTo l l.length then 16 else 0
def diffTo (a b : List Int) (i : Nat) : List Int := ((List.range i).filter fun j => decide (pl a j ≠ pl b j)).map fun (j : Nat) => (j : Int)
def iDiff (a b : List Int) : List Int := diffTo a b (max a.length b.length)
def iWith (l : List Int) (k s : Int) : List Int × Int := if k < 0 ∨ (l.length : Int) ≤ k ∨ s < 0 then ([], 2) else (l.set k.toNat s, 0)

theorem dupAt_succ (l : List Int) (i k : Nat) : dupAt l i (k + 1) = (dupAt l i k || decide (pl l i = pl l k)) := by
  unfold dupAt
  rw [List.range_succ, List.any_append, List.any_cons, List.any_nil, Bool.or_false]
theorem dupTo_succ (l : List Int) (i : Nat) : dupTo l (i + 1) = (dupTo l i || (decide (pl l i ≠ 0) && dupAt l i i)) := by
  unfold dupTo
  rw [List.range_succ, List.any_append, List.any_cons, List.any_nil, Bool.or_false]
theorem dupTo_true {l : List Int} {i j m : Nat} (hi : i < m) (hj : j < i) (h0 : pl l i ≠ 0) (h : pl l i = pl l j) : dupTo l m = true := by
  unfold dupTo dupAt
  rw [List.any_eq_true]
  refine ⟨i, List.mem_range.2 hi, ?_⟩
  rw [decide_eq_true h0, Bool.true_and, List.any_eq_true]
  exact ⟨j, List.mem_range.2 hj, decide_eq_true h⟩
theorem any_snoc {l : List Int} {k : Nat} (h : k < l.length) (p : Int → Bool) : (l.take (k + 1)).any p = ((l.take k).any p || p l[k]) := by
  rw [List.take_succ_eq_append_getElem h, List.any_append, List.any_cons, List.any_nil, Bool.or_false]
theorem any_at {l : List Int} {k : Nat} (h : k < l.length) {p : Int → Bool} (hp : p l[k] = true) : l.any p = true :=
  List.any_eq_true.2 ⟨_, List.getElem_mem h, hp⟩

theorem diffTo_succ (a b : List Int) (i : Nat) : diffTo a b (i + 1) = diffTo a b i ++ (if pl a i ≠ pl b i then [(i : Int)] else []) := by
  unfold diffTo
  rw [List.range_succ, List.filter_append, List.map_append]
  congr 1
  by_cases h : pl a i ≠ pl b i
  · rw [if_pos h, List.filter_cons_of_pos (by simpa using h)]
    rfl
  · rw [if_neg h, List.filter_cons_of_neg (by simpa using h)]
    rfl
theorem diffTo_len (a b : List Int) (i : Nat) : (diffTo a b i).length ≤ i := by
  unfold diffTo
  rw [List.length_map]
  exact Nat.le_trans (List.length_filter_le _ _) (by simp)
theorem iDiff_len (a b : List Int) : (iDiff a b).length ≤ max a.length b.length := diffTo_len _ _ _
theorem mem_diffTo {a b : List Int} {i : Nat} {z : Int} : z ∈ diffTo a b i ↔ ∃ j : Nat, j < i ∧ pl a j ≠ pl b j ∧ z = (j : Int) := by
  unfold diffTo
  rw [List.mem_map]
  constructor
  · rintro ⟨j, hj, rfl⟩
    have := List.mem_filter.1 hj
    exact ⟨j, List.mem_range.1 this.1, of_decide_eq_true this.2, rfl⟩
  · rintro ⟨j, h1, h2, rfl⟩
    exact ⟨j, List.mem_filter.2 ⟨List.mem_range.2 h1, decide_eq_true h2⟩, rfl⟩
theorem iWith_len (l : List Int) (k s : Int) : (iWith l k s).1.length ≤ l.length := by
  unfold iWith
  split
  · simp
  · simp
end Go.Proofs.YtdpbdkacngaemaaDoor.im

/- Plain facts on numbers and lists of bytes: the digits of a number in base 256, the bytes that stand for a number and for a text, and how they are read. Nothing here speaks of the program. -/
namespace Go.Proofs.YtdpbdkacngaemaaDoor.wi
open Go
set_option maxRecDepth 100000

def digsF : Nat → Nat → List UInt8
  | 0, _ => []
  | f + 1, n => if n = 0 then [] else digsF f (n / 256) ++ [UInt8.ofNat (n % 256)]

def digs (n : Nat) : List UInt8 := digsF 8 n
def numB (n : Nat) : List UInt8 := UInt8.ofNat (digs n).length :: digs n
def textB (t : List UInt8) : List UInt8 := numB t.length ++ t

def valF : Nat → List UInt8 → Nat
  | a, [] => a
  | a, b :: l => valF (a * 256 + b.toNat) l
def val (l : List UInt8) : Nat := valF 0 l

theorem digsF_zero (f : Nat) : digsF f 0 = [] := by cases f <;> simp [digsF]

theorem digsF_more : ∀ (f n : Nat), n < 256 ^ f → digsF (f + 1) n = digsF f n
  | 0, n, h => by
    have : n = 0 := by simpa using h
    subst this; simp [digsF]
  | f + 1, n, h => by
    by_cases h0 : n = 0
    · subst h0; simp [digsF]
    · have h1 : n / 256 < 256 ^ f := by
        rw [Nat.pow_succ] at h
        exact (Nat.div_lt_iff_lt_mul (by omega)).2 h
      rw [digsF, if_neg h0, digsF_more f _ h1, digsF, if_neg h0]

theorem digs_zero : digs 0 = [] := rfl

theorem digs_pos (n : Nat) (h0 : n ≠ 0) (h : n < 18446744073709551616) : digs n = digs (n / 256) ++ [UInt8.ofNat (n % 256)] := by
  have h1 : n < 256 ^ 8 := by simpa using h
  have e : digs n = digsF 9 n := (digsF_more 8 n h1).symm
  rw [e, digsF, if_neg h0]; rfl

theorem digsF_len : ∀ (f n : Nat), (digsF f n).length ≤ f
  | 0, _ => by simp [digsF]
  | f + 1, n => by
    unfold digsF
    split
    · simp
    · have := digsF_len f (n / 256); simp; omega

theorem digs_len (n : Nat) : (digs n).length ≤ 8 := digsF_len 8 n

theorem digs_len_pos (n : Nat) (h0 : n ≠ 0) (h : n < 18446744073709551616) : 1 ≤ (digs n).length := by
  rw [digs_pos n h0 h]; simp

theorem bitLen_zero : Lib.bitLen 0 = 0 := by simp [Lib.bitLen, Lib.bitLenAux_zero]

theorem bitLen_pos (n : Nat) (h0 : n ≠ 0) (h : n < 18446744073709551616) : 1 ≤ Lib.bitLen n :=
  (Lib.bitLenAux_bounds 64 n (by simpa using h) h0).1

theorem count_eqF : ∀ (f n : Nat), f ≤ 8 → n < 256 ^ f → (Lib.bitLen n + 7) / 8 = (digsF f n).length
  | 0, n, _, h => by
    have : n = 0 := by simpa using h
    subst this; simp [digsF, bitLen_zero]
  | f + 1, n, hf, h => by
    by_cases h0 : n = 0
    · subst h0; simp [digsF, bitLen_zero]
    · have h1 : n / 256 < 256 ^ f := by
        rw [Nat.pow_succ] at h
        exact (Nat.div_lt_iff_lt_mul (by omega)).2 h
      have h64 : n < 18446744073709551616 := by
        have : 256 ^ (f + 1) ≤ 256 ^ 8 := Nat.pow_le_pow_right (by omega) hf
        have e : (256 : Nat) ^ 8 = 18446744073709551616 := by decide
        omega
      have ih := count_eqF f (n / 256) (by omega) h1
      rw [digsF, if_neg h0]
      simp only [List.length_append, List.length_cons, List.length_nil]
      by_cases hb : 256 ≤ n
      · rw [Lib.bitLen_shift8 n hb h64]; omega
      · have e : n / 256 = 0 := by omega
        rw [e, digsF_zero]
        have a := bitLen_pos n h0 h64
        have b := Lib.bitLen_le n 8 (by omega) (by omega)
        simp; omega

theorem count_eq (n : Nat) (h : n < 18446744073709551616) : (Lib.bitLen n + 7) / 8 = (digs n).length :=
  count_eqF 8 n (by omega) (by simpa using h)

theorem valF_append : ∀ (a : Nat) (l m : List UInt8), valF a (l ++ m) = valF (valF a l) m
  | _, [], _ => rfl
  | a, b :: l, m => by simp [valF, valF_append]

theorem val_snoc (l : List UInt8) (b : UInt8) : val (l ++ [b]) = val l * 256 + b.toNat := by
  simp [val, valF_append, valF]

theorem val_digsF : ∀ (f n : Nat), n < 256 ^ f → val (digsF f n) = n
  | 0, n, h => by
    have : n = 0 := by simpa using h
    subst this; rfl
  | f + 1, n, h => by
    by_cases h0 : n = 0
    · subst h0; simp [digsF, val, valF]
    · have h1 : n / 256 < 256 ^ f := by
        rw [Nat.pow_succ] at h
        exact (Nat.div_lt_iff_lt_mul (by omega)).2 h
      rw [digsF, if_neg h0, val_snoc, val_digsF f _ h1]
      have : (UInt8.ofNat (n % 256)).toNat = n % 256 := by
        simp [UInt8.toNat_ofNat']
      rw [this]; omega

theorem val_digs (n : Nat) (h : n < 18446744073709551616) : val (digs n) = n := val_digsF 8 n (by simpa using h)

theorem val_lt (l : List UInt8) : val l < 256 ^ l.length := by
  have key : ∀ (l : List UInt8) (a : Nat), valF a l < (a + 1) * 256 ^ l.length := by
    intro l
    induction l with
    | nil => intro a; simp [valF]
    | cons b l ih =>
      intro a
      have h := ih (a * 256 + b.toNat)
      have hb : b.toNat < 256 := b.toNat_lt
      simp only [valF, List.length_cons, Nat.pow_succ]
      calc valF (a * 256 + b.toNat) l < (a * 256 + b.toNat + 1) * 256 ^ l.length := h
        _ ≤ ((a + 1) * 256) * 256 ^ l.length := Nat.mul_le_mul_right _ (by omega)
        _ = (a + 1) * (256 ^ l.length * 256) := by rw [Nat.mul_assoc, Nat.mul_comm 256]
  have := key l 0
  simpa [val] using this

theorem val_lt64 (l : List UInt8) (h : l.length ≤ 8) : val l < 18446744073709551616 := by
  have a := val_lt l
  have b : 256 ^ l.length ≤ 256 ^ 8 := Nat.pow_le_pow_right (by omega) h
  have e : (256 : Nat) ^ 8 = 18446744073709551616 := by decide
  omega

/-- Digits without a 0 ahead are the digits of their number. -/
theorem digsF_val : ∀ (l : List UInt8) (f : Nat), l.length ≤ f → (∀ b m, l = b :: m → b ≠ 0) → digsF f (val l) = l := by
  intro l
  have key : ∀ (k : Nat) (l : List UInt8), l.length = k → ∀ f, l.length ≤ f → (∀ b m, l = b :: m → b ≠ 0) → digsF f (val l) = l ∧ (l ≠ [] → val l ≠ 0) := by
    intro k
    induction k with
    | zero =>
      intro l hl f _ _
      have : l = [] := List.length_eq_zero_iff.1 hl
      subst this
      exact ⟨digsF_zero f, fun h => absurd rfl h⟩
    | succ k ih =>
      intro l hl f hf hz
      have hne : l ≠ [] := by intro h; subst h; simp at hl
      have hs : l = l.dropLast ++ [l.getLast hne] := (List.dropLast_concat_getLast hne).symm
      generalize l.dropLast = p at hs
      generalize l.getLast hne = b at hs
      subst hs
      have hp : p.length = k := by simpa using hl
      obtain ⟨f, rfl⟩ : ∃ g, f = g + 1 := ⟨f - 1, by simp at hf; omega⟩
      have ihp := ih p hp f (by simp at hf; omega) (fun c m h => hz c (m ++ [b]) (by rw [h]; rfl))
      have hb : b.toNat < 256 := b.toNat_lt
      rw [val_snoc]
      have hnz : val p * 256 + b.toNat ≠ 0 := by
        by_cases hpe : p = []
        · subst hpe
          have hb0 := hz b [] rfl
          have : b.toNat ≠ 0 := fun h => hb0 (by apply UInt8.toNat_inj.1; simpa using h)
          omega
        · have := ihp.2 hpe; omega
      refine ⟨?_, fun _ => hnz⟩
      rw [digsF, if_neg hnz, show (val p * 256 + b.toNat) / 256 = val p by omega, ihp.1, show (val p * 256 + b.toNat) % 256 = b.toNat by omega]
      simp
  intro f hf hz
  exact (key l.length l rfl f hf hz).1

theorem digs_val (l : List UInt8) (hl : l.length ≤ 8) (hz : ∀ b m, l = b :: m → b ≠ 0) : digs (val l) = l := digsF_val l 8 hl hz

theorem digs_head (n : Nat) (h : n < 18446744073709551616) (b : UInt8) (m : List UInt8) (e : digs n = b :: m) : b ≠ 0 := by
  have key : ∀ (f n : Nat), n < 256 ^ f → ∀ b m, digsF f n = b :: m → b ≠ 0 := by
    intro f
    induction f with
    | zero => intro n _ b m e; simp [digsF] at e
    | succ f ih =>
      intro n hn b m e
      by_cases h0 : n = 0
      · subst h0; simp [digsF] at e
      · have h1 : n / 256 < 256 ^ f := by
          rw [Nat.pow_succ] at hn
          exact (Nat.div_lt_iff_lt_mul (by omega)).2 hn
        rw [digsF, if_neg h0] at e
        by_cases hq : n / 256 = 0
        · rw [hq, digsF_zero] at e
          simp at e
          intro hb
          have : (UInt8.ofNat (n % 256)).toNat = 0 := by rw [e.1, hb]; rfl
          simp [UInt8.toNat_ofNat'] at this
          omega
        · cases hd : digsF f (n / 256) with
          | nil =>
            have v := val_digsF f _ h1
            rw [hd] at v
            exact absurd v.symm hq
          | cons c r =>
            rw [hd] at e
            simp at e
            rw [← e.1]
            exact ih _ h1 c r hd
  exact key 8 n (by simpa using h) b m e

/-! ### Reading -/

/-- What is left, read as a number's bytes: the number and what is left behind it; nothing where none begins there. -/
def rdNum (l : List UInt8) : Option (Nat × List UInt8) :=
  match l with
  | [] => none
  | k :: r =>
    if 8 < k.toNat then none
    else if r.length < k.toNat then none
    else if (r.take k.toNat).head? = some 0 then none
    else some (val (r.take k.toNat), r.drop k.toNat)

def rdText (l : List UInt8) : Option (List UInt8 × List UInt8) :=
  match rdNum l with
  | none => none
  | some (n, r) => if r.length < n then none else some (r.take n, r.drop n)


/-- A number's bytes, whatever stands behind them, are read as the number. -/
theorem rdNum_put (n : Nat) (h : n < 18446744073709551616) (r : List UInt8) : rdNum (numB n ++ r) = some (n, r) := by
  have hl := digs_len n
  have e : (UInt8.ofNat (digs n).length).toNat = (digs n).length := ofNat_small _ (by omega)
  have ht : (digs n ++ r).take (digs n).length = digs n := by simp
  have hh : ¬ (digs n).head? = some 0 := by
    intro hc
    cases hd : digs n with
    | nil => rw [hd] at hc; simp at hc
    | cons b m =>
      rw [hd] at hc
      simp at hc
      exact digs_head n h b m hd hc
  show rdNum (UInt8.ofNat (digs n).length :: (digs n ++ r)) = _
  unfold rdNum
  simp only [e]
  rw [if_neg (by omega), if_neg (by simp), ht, if_neg hh, val_digs n h]
  simp

theorem rdText_put (t : List UInt8) (h : t.length < 18446744073709551616) (r : List UInt8) : rdText (textB t ++ r) = some (t, r) := by
  unfold rdText textB
  rw [List.append_assoc, rdNum_put _ h]
  simp

/-- What is read as a number is that number's bytes. -/
theorem rdNum_is (l : List UInt8) (n : Nat) (r : List UInt8) (h : rdNum l = some (n, r)) : l = numB n ++ r ∧ n < 18446744073709551616 := by
  cases l with
  | nil => simp [rdNum] at h
  | cons k q =>
    unfold rdNum at h
    by_cases h1 : 8 < k.toNat
    · simp [h1] at h
    by_cases h2 : q.length < k.toNat
    · simp [h1, h2] at h
    by_cases h3 : (q.take k.toNat).head? = some 0
    · simp [h1, h2, h3] at h
    · simp only [h1, h2, h3, if_false, Option.some.injEq, Prod.mk.injEq] at h
      obtain ⟨rfl, rfl⟩ := h
      have hl : (q.take k.toNat).length = k.toNat := by simp; omega
      have hz : ∀ b m, q.take k.toNat = b :: m → b ≠ 0 := by
        intro b m e hb
        apply h3
        rw [e, hb]; rfl
      have hd := digs_val (q.take k.toNat) (by omega) hz
      refine ⟨?_, val_lt64 _ (by omega)⟩
      unfold numB
      rw [hd, hl]
      have ek : UInt8.ofNat k.toNat = k := by simp
      rw [ek]
      simp

theorem rdText_is (l t r : List UInt8) (h : rdText l = some (t, r)) : l = textB t ++ r := by
  unfold rdText at h
  cases hn : rdNum l with
  | none => simp [hn] at h
  | some p =>
    obtain ⟨n, q⟩ := p
    simp only [hn] at h
    by_cases hq : q.length < n
    · simp [hq] at h
    · simp only [hq, if_false, Option.some.injEq, Prod.mk.injEq] at h
      obtain ⟨rfl, rfl⟩ := h
      have := (rdNum_is l n q hn).1
      unfold textB
      have hl : (q.take n).length = n := by simp; omega
      rw [hl, this]
      simp

/-- No beginning of a number's bytes is one's. -/
theorem rdNum_cut (n : Nat) (h : n < 18446744073709551616) (i : Nat) (hi : i < (numB n).length) : rdNum ((numB n).take i) = none := by
  cases hc : rdNum ((numB n).take i) with
  | none => rfl
  | some p =>
    obtain ⟨m, r⟩ := p
    have h1 := rdNum_is _ m r hc
    have h2 : numB n = numB m ++ (r ++ (numB n).drop i) := by
      rw [← List.append_assoc, ← h1.1, List.take_append_drop]
    have h3 := rdNum_put n h []
    rw [List.append_nil, h2, rdNum_put m h1.2] at h3
    simp only [Option.some.injEq, Prod.mk.injEq] at h3
    have h4 : (numB n).drop i = [] := by
      have := h3.2
      simp at this
      have h5 := this.2
      simpa using h5
    have h6 : (numB n).length ≤ i := by simpa using h4
    omega

/-! ### Strings as lists of bytes -/



def flat (ps : List ByteArray) : List UInt8 := (ps.map bl).flatten

theorem flat_snoc (ps : List ByteArray) (k : Nat) (h : k < ps.length) : flat (ps.take (k + 1)) = flat (ps.take k) ++ bl ps[k] := by
  unfold flat
  rw [List.take_succ_eq_append_getElem h, List.map_append, List.flatten_append]
  simp

theorem flat_take_len (ps : List ByteArray) (k : Nat) : (flat (ps.take k)).length ≤ (flat ps).length := by
  have : flat ps = flat (ps.take k) ++ flat (ps.drop k) := by
    unfold flat
    rw [← List.flatten_append, ← List.map_append, List.take_append_drop]
  rw [this]; simp

end Go.Proofs.YtdpbdkacngaemaaDoor.wi

/- How many sectors a text takes. -/
namespace Go.Proofs.YtdpbdkacngaemaaDoor.mt
def nsec (n : Nat) : Nat := (n + 37) / 32
end Go.Proofs.YtdpbdkacngaemaaDoor.mt

/- Tables as plain data: whether one may be, its bytes, how they are read; a table comes back from its bytes, and no beginning of them is one's. -/
namespace Go.Proofs.YtdpbdkacngaemaaDoor.mt
open Go Go.RowKit Go.Proofs.YtdpbdkacngaemaaDoor.im Go.Proofs.YtdpbdkacngaemaaDoor.wi
set_option maxRecDepth 100000

abbrev Gd := Nat × Nat
def gdB (g : Gd) : Prop := g.1 < 18446744073709551616 ∧ g.2 < 18446744073709551616
structure Sp where
  g : Gd
  img : List Int
  hid : Bool
  deriving DecidableEq
structure Tk where
  base : Gd
  target : Gd
  next : Int
  all : Int
  img : List Int
  deriving DecidableEq
structure Mt where
  live : List Int
  snaps : List Sp
  tok : Tk
  deriving DecidableEq
def tk0 : Tk := ⟨(0, 0), (0, 0), 0, 0, []⟩
def mt0 : Mt := ⟨[], [], tk0⟩
def above (a b : Gd) : Bool := decide (b.1 < a.1) || (decide (a.1 = b.1) && decide (b.2 < a.2))

/-! ### Whether one may be -/
/-- The first error of the snapshots, and the last guid. -/
def snChk (b n : Int) : Gd → List Sp → Int × Gd
  | last, [] => (0, last)
  | last, s :: r => if above s.g last = true then (if iCheck s.img b n = 0 then snChk b n s.g r else (iCheck s.img b n, s.g)) else (2, last)
def tkNone (t : Tk) : Bool := decide (t.base = (0, 0)) && decide (t.next = 0) && decide (t.all = 0) && decide (t.img = [])
def tkBad (t : Tk) (last : Gd) (b : Int) : Bool := !decide (t.base = last) || !above t.target last || decide (t.next < 1) || decide (t.all ≤ t.next) || decide (b < t.all)
def tkChk (b n : Int) (last : Gd) (t : Tk) : Int :=
  if t.target = (0, 0) then (if tkNone t = true then 0 else 2) else if tkBad t last b = true then 2 else iCheck t.img b n
def mCheck (m : Mt) (b n : Int) : Int :=
  if iCheck m.live b n ≠ 0 then iCheck m.live b n
  else if 20 < m.snaps.length then 3
  else if (snChk b n (0, 0) m.snaps).1 ≠ 0 then (snChk b n (0, 0) m.snaps).1
  else tkChk b n (snChk b n (0, 0) m.snaps).2 m.tok

/-! ### Its bytes -/
def intB (z : Int) : List UInt8 := numB z.toNat
def intsB (l : List Int) : List UInt8 := l.flatMap intB
def gdBs (g : Gd) : List UInt8 := numB g.1 ++ numB g.2
def spB (s : Sp) : List UInt8 := gdBs s.g ++ (numB (if s.hid then 1 else 0) ++ intsB s.img)
def spsB (l : List Sp) : List UInt8 := l.flatMap spB
def tkB (t : Tk) : List UInt8 := if t.target = (0, 0) then numB 0 else numB 1 ++ (gdBs t.base ++ (gdBs t.target ++ (intB t.next ++ (intB t.all ++ intsB t.img))))
def mBytes (m : Mt) : List UInt8 := numB m.live.length ++ (intsB m.live ++ (numB m.snaps.length ++ (spsB m.snaps ++ tkB m.tok)))
def mEnc (m : Mt) : List UInt8 × Int :=
  if mCheck m m.live.length 1024 ≠ 0 then ([], mCheck m m.live.length 1024) else if 48 < nsec (mBytes m).length then ([], 3) else (mBytes m, 0)

/-! ### Reading -/
/-- What is left; nothing, where it failed. -/
abbrev St := Option (List UInt8)
def numS (s : St) : Nat × St := match s with
  | none => (0, none)
  | some l => match rdNum l with
    | none => (0, none)
    | some (n, r) => (n, some r)
def smallS (s : St) : Nat × St := (min (numS s).1 1048576, (numS s).2)
def intsS : Nat → St → List Int × St
  | 0, s => ([], s)
  | n + 1, s => (((smallS s).1 : Int) :: (intsS n (smallS s).2).1, (intsS n (smallS s).2).2)
def gdS (s : St) : Gd × St := (((numS s).1, (numS (numS s).2).1), (numS (numS s).2).2)
def spS (b : Nat) (s : St) : Sp × St :=
  let g := gdS s; let h := smallS g.2; let i := intsS b h.2
  (⟨g.1, i.1, decide (h.1 = 1)⟩, i.2)
def spsS (b : Nat) : Nat → St → List Sp × St
  | 0, s => ([], s)
  | n + 1, s => ((spS b s).1 :: (spsS b n (spS b s).2).1, (spsS b n (spS b s).2).2)
def tkS (b : Nat) (s : St) : Tk × St :=
  let f := smallS s
  if f.1 = 1 then
    let x := gdS f.2; let y := gdS x.2; let n := smallS y.2; let a := smallS n.2; let i := intsS b a.2
    (⟨x.1, y.1, n.1, a.1, i.1⟩, i.2)
  else (tk0, f.2)
def mS (s : St) : Mt × St :=
  let k := smallS s; let b := min k.1 100; let l := intsS b k.2; let c := smallS l.2; let ss := spsS b (min c.1 100) c.2; let t := tkS b ss.2
  (⟨l.1, ss.1, t.1⟩, t.2)
def mDec (s : List UInt8) : Mt × Int := if mEnc (mS (some s)).1 = (s, 0) then ((mS (some s)).1, 0) else (mt0, 4)

/-! ### What is put is read -/
theorem numS_put (n : Nat) (h : n < 18446744073709551616) (r : List UInt8) : numS (some (numB n ++ r)) = (n, some r) := by
  unfold numS
  simp only [rdNum_put n h]
theorem smallS_put (n : Nat) (h : n ≤ 1048576) (r : List UInt8) : smallS (some (numB n ++ r)) = (n, some r) := by
  unfold smallS
  rw [numS_put n (by omega)]
  simp only [Nat.min_eq_left h]
/-- Places that are put as they are. -/
def okInts (l : List Int) : Prop := ∀ z ∈ l, 0 ≤ z ∧ z ≤ 1048576
theorem intsS_put : ∀ (l : List Int) (_ : okInts l) (r : List UInt8), intsS l.length (some (intsB l ++ r)) = (l, some r)
  | [], _, r => rfl
  | z :: l, h, r => by
    have hz := h z (by simp)
    have e : intsB (z :: l) ++ r = numB z.toNat ++ (intsB l ++ r) := by simp [intsB, intB]
    show intsS (l.length + 1) (some (intsB (z :: l) ++ r)) = _
    rw [e]
    unfold intsS
    rw [smallS_put _ (by omega)]
    simp only
    rw [intsS_put l (fun x hx => h x (by simp [hx])) r]
    simp only [Int.toNat_of_nonneg hz.1]
theorem gdS_put (g : Gd) (h : gdB g) (r : List UInt8) : gdS (some (gdBs g ++ r)) = (g, some r) := by
  unfold gdS gdBs
  rw [List.append_assoc, numS_put _ h.1]
  simp only
  rw [numS_put _ h.2]
def okSp (b : Nat) (s : Sp) : Prop := gdB s.g ∧ s.img.length = b ∧ okInts s.img
theorem spS_put (b : Nat) (s : Sp) (h : okSp b s) (r : List UInt8) : spS b (some (spB s ++ r)) = (s, some r) := by
  obtain ⟨h1, h2, h3⟩ := h
  unfold spS spB
  rw [List.append_assoc, gdS_put _ h1]
  simp only
  rw [List.append_assoc, smallS_put _ (by split <;> omega)]
  simp only
  rw [← h2, intsS_put _ h3]
  cases s with | mk g img hid => cases hid <;> rfl
theorem spsS_put (b : Nat) : ∀ (l : List Sp) (_ : ∀ s ∈ l, okSp b s) (r : List UInt8), spsS b l.length (some (spsB l ++ r)) = (l, some r)
  | [], _, r => rfl
  | s :: l, h, r => by
    have e : spsB (s :: l) ++ r = spB s ++ (spsB l ++ r) := by simp [spsB]
    show spsS b (l.length + 1) (some (spsB (s :: l) ++ r)) = _
    rw [e]
    unfold spsS
    rw [spS_put b s (h s (by simp))]
    simp only
    rw [spsS_put b l (fun x hx => h x (by simp [hx])) r]
def okTk (b : Nat) (t : Tk) : Prop := if t.target = (0, 0) then t = tk0 else gdB t.base ∧ gdB t.target ∧ (0 ≤ t.next ∧ t.next ≤ 1048576) ∧ (0 ≤ t.all ∧ t.all ≤ 1048576) ∧ t.img.length = b ∧ okInts t.img
theorem tkS_put (b : Nat) (t : Tk) (h : okTk b t) (r : List UInt8) : tkS b (some (tkB t ++ r)) = (t, some r) := by
  unfold okTk at h
  unfold tkB
  by_cases h0 : t.target = (0, 0)
  · rw [if_pos h0] at h ⊢
    unfold tkS
    rw [smallS_put 0 (by omega), h]
    rfl
  · rw [if_neg h0] at h ⊢
    obtain ⟨h1, h2, h3, h4, h5, h6⟩ := h
    unfold tkS
    simp only [List.append_assoc]
    rw [smallS_put 1 (by omega)]
    simp only [if_true]
    rw [gdS_put _ h1]
    simp only
    rw [gdS_put _ h2]
    simp only
    unfold intB
    rw [smallS_put _ (by omega)]
    simp only
    rw [smallS_put _ (by omega)]
    simp only
    rw [← h5, intsS_put _ h6]
    simp only [Int.toNat_of_nonneg h3.1, Int.toNat_of_nonneg h4.1]
structure okMt (m : Mt) : Prop where
  b : m.live.length ≤ 100
  live : okInts m.live
  few : m.snaps.length ≤ 100
  snaps : ∀ s ∈ m.snaps, okSp m.live.length s
  tok : okTk m.live.length m.tok
theorem mS_put (m : Mt) (h : okMt m) (r : List UInt8) : mS (some (mBytes m ++ r)) = (m, some r) := by
  have hb := h.b
  have hf := h.few
  unfold mS mBytes
  simp only [List.append_assoc]
  rw [smallS_put _ (by omega)]
  simp only [Nat.min_eq_left hb]
  rw [intsS_put _ h.live]
  simp only
  rw [smallS_put _ (by omega)]
  simp only [Nat.min_eq_left hf]
  rw [spsS_put _ _ h.snaps]
  simp only
  rw [tkS_put _ _ h.tok]
end Go.Proofs.YtdpbdkacngaemaaDoor.mt

/- A table comes back from its bytes; no beginning of them is one's, nor are they with something behind. -/
namespace Go.Proofs.YtdpbdkacngaemaaDoor.mt
open Go Go.RowKit Go.Proofs.YtdpbdkacngaemaaDoor.im Go.Proofs.YtdpbdkacngaemaaDoor.wi
set_option maxRecDepth 100000

theorem iCheck_ok {l : List Int} {b n : Int} (h : iCheck l b n = 0) : 1 ≤ b ∧ b ≤ 8 ∧ (l.length : Int) = b ∧ ∀ z ∈ l, z = 0 ∨ (193 ≤ z ∧ z < n) := by
  unfold iCheck at h
  split at h
  · cases h
  · rename_i h1
    split at h
    · cases h
    · rename_i h2
      refine ⟨by omega, by omega, by omega, fun z hz => ?_⟩
      have hb : badP n z = false := by
        cases hc : badP n z with
        | false => rfl
        | true => exact absurd (List.any_eq_true.2 ⟨z, hz, hc⟩) h2
      unfold badP at hb
      by_cases hz0 : z = 0
      · exact .inl hz0
      · rw [decide_eq_true hz0, Bool.true_and] at hb
        simp only [Bool.or_eq_false_iff, decide_eq_false_iff_not] at hb
        exact .inr (by omega)
theorem ints_ok {l : List Int} {b : Int} (h : iCheck l b 1024 = 0) : okInts l := fun z hz => by
  rcases (iCheck_ok h).2.2.2 z hz with h | h <;> omega
/-- Its guids are of 64 bits each. -/
structure mB (m : Mt) : Prop where
  snaps : ∀ s ∈ m.snaps, gdB s.g
  base : gdB m.tok.base
  target : gdB m.tok.target
theorem snChk_ok {b n : Int} : ∀ {l : List Sp} {last : Gd}, (snChk b n last l).1 = 0 → ∀ s ∈ l, iCheck s.img b n = 0
  | [], _, _, s, hs => absurd hs (by simp)
  | x :: r, last, h, s, hs => by
    unfold snChk at h
    split at h
    · split at h
      · rename_i h2
        rcases List.mem_cons.1 hs with rfl | hs
        · exact h2
        · exact snChk_ok h s hs
      · rename_i h2
        exact absurd h h2
    · cases h
theorem check_ok {m : Mt} (hB : mB m) (h : mCheck m m.live.length 1024 = 0) : okMt m ∧ 1 ≤ m.live.length ∧ m.live.length ≤ 8 ∧ m.snaps.length ≤ 20 := by
  unfold mCheck at h
  split at h
  · rename_i h1
    exact absurd h h1
  rename_i h1
  have h1' : iCheck m.live m.live.length 1024 = 0 := Classical.byContradiction h1
  split at h
  · cases h
  rename_i h2
  split at h
  · rename_i h3
    exact absurd h h3
  rename_i h3
  have h3' := Classical.byContradiction h3
  have hl := iCheck_ok h1'
  refine ⟨⟨by omega, ints_ok h1', by omega, fun s hs => ?_, ?_⟩, by omega, by omega, by omega⟩
  · have := snChk_ok h3' s hs
    have hi := iCheck_ok this
    exact ⟨hB.snaps s hs, by omega, ints_ok this⟩
  · unfold okTk
    unfold tkChk at h
    split at h
    · rename_i h4
      rw [if_pos h4]
      split at h
      · rename_i h5
        unfold tkNone at h5
        simp only [Bool.and_eq_true, decide_eq_true_eq] at h5
        obtain ⟨⟨⟨e1, e2⟩, e3⟩, e4⟩ := h5
        generalize m.tok = t at *
        cases t
        simp only at e1 e2 e3 e4 h4
        subst e1 e2 e3 e4 h4
        rfl
      · cases h
    · rename_i h4
      rw [if_neg h4]
      split at h
      · cases h
      · rename_i h5
        unfold tkBad at h5
        simp only [Bool.or_eq_true, not_or, Bool.not_eq_true, decide_eq_true_eq] at h5
        obtain ⟨⟨⟨⟨_, _⟩, e3⟩, e4⟩, e5⟩ := h5
        have hi := iCheck_ok h
        exact ⟨hB.base, hB.target, by omega, by omega, by omega, ints_ok h⟩
theorem enc_ok {m : Mt} {s : List UInt8} (h : mEnc m = (s, 0)) : mCheck m m.live.length 1024 = 0 ∧ s = mBytes m ∧ nsec s.length ≤ 48 := by
  unfold mEnc at h
  split at h
  · rename_i h1
    exact absurd (Prod.mk.inj h).2 h1
  · rename_i h1
    split at h
    · cases (Prod.mk.inj h).2
    · rename_i h2
      have := (Prod.mk.inj h).1
      exact ⟨Classical.byContradiction h1, this.symm, by rw [← this]; omega⟩
theorem enc_read {m : Mt} {s : List UInt8} (hB : mB m) (h : mEnc m = (s, 0)) (r : List UInt8) : mS (some (s ++ r)) = (m, some r) := by
  obtain ⟨h1, rfl, _⟩ := enc_ok h
  exact mS_put m (check_ok hB h1).1 r
theorem enc_back {m : Mt} {s : List UInt8} (hB : mB m) (h : mEnc m = (s, 0)) : mDec s = (m, 0) := by
  have := enc_read hB h []
  rw [List.append_nil] at this
  unfold mDec
  rw [this, if_pos h]
theorem dec_enc {m : Mt} {s : List UInt8} (h : mDec s = (m, 0)) : mEnc m = (s, 0) ∧ m = (mS (some s)).1 := by
  unfold mDec at h
  split at h
  · rename_i h1
    have := (Prod.mk.inj h).1
    rw [this] at h1
    exact ⟨h1, this.symm⟩
  · cases (Prod.mk.inj h).2
theorem dec_two (s : List UInt8) : (∃ m, mDec s = (m, 0)) ∨ mDec s = (mt0, 4) := by
  unfold mDec
  split
  · exact .inl ⟨_, rfl⟩
  · exact .inr rfl

/-! ### What is read is of 64 bits -/
theorem numS_lt (s : St) : (numS s).1 < 18446744073709551616 := by
  unfold numS
  split
  · decide
  · split
    · decide
    · rename_i l n r h
      exact (rdNum_is _ _ _ h).2
theorem gdS_B (s : St) : gdB (gdS s).1 := ⟨numS_lt _, numS_lt _⟩
theorem spsS_B (b : Nat) : ∀ (n : Nat) (s : St), ∀ x ∈ (spsS b n s).1, gdB x.g
  | 0, _, x, hx => absurd hx (by simp [spsS])
  | n + 1, s, x, hx => by
    unfold spsS at hx
    simp only [List.mem_cons] at hx
    rcases hx with rfl | hx
    · exact gdS_B _
    · exact spsS_B b n _ x hx
theorem gdB0 : gdB (0, 0) := ⟨by decide, by decide⟩
theorem tkS_B (b : Nat) (s : St) : gdB (tkS b s).1.base ∧ gdB (tkS b s).1.target := by
  unfold tkS
  dsimp only
  split
  · exact ⟨gdS_B _, gdS_B _⟩
  · exact ⟨gdB0, gdB0⟩
theorem mS_B (s : St) : mB (mS s).1 := ⟨fun x hx => spsS_B _ _ _ x hx, (tkS_B _ _).1, (tkS_B _ _).2⟩
theorem dec_B {m : Mt} {s : List UInt8} (h : mDec s = (m, 0)) : mB m := by
  rw [(dec_enc h).2]
  exact mS_B _
theorem dec_check {m : Mt} {s : List UInt8} (h : mDec s = (m, 0)) : mCheck m m.live.length 1024 = 0 := (enc_ok (dec_enc h).1).1

theorem dec_cut {m : Mt} {s : List UInt8} (hB : mB m) (h : mEnc m = (s, 0)) (k : Nat) (hk : k < s.length) : mDec (s.take k) = (mt0, 4) := by
  rcases dec_two (s.take k) with ⟨m', h1⟩ | h1
  · exfalso
    have h2 := enc_read (dec_B h1) (dec_enc h1).1 (s.drop k)
    rw [List.take_append_drop] at h2
    have h3 := enc_read hB h []
    rw [List.append_nil, h2] at h3
    have h4 : s.drop k = [] := Option.some.inj (Prod.mk.inj h3).2
    have : s.length ≤ k := List.drop_eq_nil_iff.1 h4
    omega
  · exact h1
theorem dec_more {m : Mt} {s : List UInt8} (hB : mB m) (h : mEnc m = (s, 0)) (b : UInt8) : mDec (s ++ [b]) = (mt0, 4) := by
  rcases dec_two (s ++ [b]) with ⟨m', h1⟩ | h1
  · exfalso
    have h2 := enc_read (dec_B h1) (dec_enc h1).1 []
    have h3 := enc_read hB h [b]
    rw [List.append_nil, h3] at h2
    have h4 := Option.some.inj (Prod.mk.inj h2).2
    cases h4
  · exact h1
theorem enc_some {m : Mt} {s : List UInt8} (h : mEnc m = (s, 0)) : s ≠ [] := by
  obtain ⟨_, rfl, _⟩ := enc_ok h
  unfold mBytes numB
  simp
theorem enc_size {m : Mt} : (mEnc m).1.length ≤ 1600 := by
  unfold mEnc
  split
  · simp
  · split
    · simp
    · rename_i h
      unfold nsec at h
      show (mBytes m).length ≤ 1600
      omega
theorem enc_err (m : Mt) : (mEnc m).2 = mCheck m m.live.length 1024 ∨ ((mEnc m).2 = 3 ∧ mCheck m m.live.length 1024 = 0) := by
  unfold mEnc
  split
  · exact .inl rfl
  · rename_i h
    have h' := Classical.byContradiction h
    split
    · exact .inr ⟨rfl, h'⟩
    · exact .inl h'.symm
end Go.Proofs.YtdpbdkacngaemaaDoor.mt

/- Plain facts on the sum of bytes: one bit's step, a byte's step by bits and by halves, that the sum is linear and that unlike bytes give unlike sums; the four bytes of a sum; what is sealed and opened. Nothing here speaks of the program. -/
namespace Go.Proofs.YtdpbdkacngaemaaDoor
open Go
set_option maxRecDepth 100000

def bstep (n : Nat) : Nat := if n % 2 = 1 then n / 2 ^^^ 3988292384 else n / 2

def bsteps : Nat → Nat → Nat
  | 0, n => n
  | k + 1, n => bsteps k (bstep n)

def byteStep (n : Nat) (b : UInt8) : Nat := bsteps 8 (n ^^^ b.toNat)
def crcF (n : Nat) (l : List UInt8) : Nat := l.foldl byteStep n
def crcSum (l : List UInt8) : Nat := crcF 4294967295 l ^^^ 4294967295

theorem bstep_eq (n : Nat) : bstep n = n / 2 ^^^ (if n % 2 = 1 then 3988292384 else 0) := by
  unfold bstep; split <;> simp

theorem xor_mod2 (a b : Nat) : (a ^^^ b) % 2 = (a % 2) ^^^ (b % 2) := Nat.xor_mod_two_pow (n := 1)
theorem xor_eq_zero (a b : Nat) (h : a ^^^ b = 0) : a = b := by
  have : a ^^^ b ^^^ b = b := by rw [h, Nat.zero_xor]
  rwa [Nat.xor_assoc, Nat.xor_self, Nat.xor_zero] at this
theorem xor_right_cancel (a b c : Nat) (h : a ^^^ c = b ^^^ c) : a = b := by
  have : a ^^^ c ^^^ c = b ^^^ c ^^^ c := by rw [h]
  rwa [Nat.xor_assoc, Nat.xor_assoc, Nat.xor_self, Nat.xor_zero, Nat.xor_zero] at this
theorem xor_left_cancel (a b c : Nat) (h : c ^^^ a = c ^^^ b) : a = b := by
  rw [Nat.xor_comm c, Nat.xor_comm c] at h
  exact xor_right_cancel _ _ _ h

theorem bstep_xor (a b : Nat) : bstep (a ^^^ b) = bstep a ^^^ bstep b := by
  rw [bstep_eq, bstep_eq a, bstep_eq b, Nat.xor_div_two, xor_mod2]
  have ha : a % 2 = 0 ∨ a % 2 = 1 := by omega
  have hb : b % 2 = 0 ∨ b % 2 = 1 := by omega
  have h2 : ∀ x y p : Nat, x ^^^ (y ^^^ p) = x ^^^ y ^^^ p := fun x y p => (Nat.xor_assoc x y p).symm
  have h3 : ∀ x p : Nat, x ^^^ p ^^^ p = x := fun x p => by
    rw [Nat.xor_assoc, Nat.xor_self, Nat.xor_zero]
  have h4 : ∀ x y p : Nat, x ^^^ p ^^^ y = x ^^^ y ^^^ p := fun x y p => by
    rw [Nat.xor_assoc, Nat.xor_comm p y, ← Nat.xor_assoc]
  rcases ha with ha | ha <;> rcases hb with hb | hb <;> simp [ha, hb, h2, h3, h4]

theorem bsteps_xor : ∀ (k a b : Nat), bsteps k (a ^^^ b) = bsteps k a ^^^ bsteps k b
  | 0, _, _ => rfl
  | k + 1, a, b => by simp only [bsteps, bstep_xor, bsteps_xor k]

theorem bstep_lt (n : Nat) (h : n < 4294967296) : bstep n < 4294967296 := by
  unfold bstep
  split
  · exact Nat.xor_lt_two_pow (n := 32) (by omega) (by omega)
  · omega

theorem bsteps_lt : ∀ (k n : Nat), n < 4294967296 → bsteps k n < 4294967296
  | 0, _, h => h
  | k + 1, n, h => bsteps_lt k _ (bstep_lt n h)

theorem bstep_zero (n : Nat) (h : n < 4294967296) (e : bstep n = 0) : n = 0 := by
  unfold bstep at e
  split at e
  · have : n / 2 = 3988292384 := xor_eq_zero _ _ e
    omega
  · omega

theorem bsteps_zero : ∀ (k n : Nat), n < 4294967296 → bsteps k n = 0 → n = 0
  | 0, _, _, e => e
  | k + 1, n, h, e => bstep_zero n h (bsteps_zero k _ (bstep_lt n h) e)

theorem bsteps_inj (k a b : Nat) (ha : a < 4294967296) (hb : b < 4294967296) (h : bsteps k a = bsteps k b) : a = b := by
  apply xor_eq_zero
  apply bsteps_zero k _ (Nat.xor_lt_two_pow (n := 32) (by omega) (by omega))
  rw [bsteps_xor, h, Nat.xor_self]

theorem u8_lt (b : UInt8) : b.toNat < 256 := b.toNat_lt

theorem xor_byte_lt (n : Nat) (b : UInt8) (h : n < 4294967296) : n ^^^ b.toNat < 4294967296 := by
  have := u8_lt b
  exact Nat.xor_lt_two_pow (n := 32) (by omega) (by omega)

theorem byteStep_lt (n : Nat) (b : UInt8) (h : n < 4294967296) : byteStep n b < 4294967296 :=
  bsteps_lt 8 _ (xor_byte_lt n b h)

theorem crcF_lt : ∀ (l : List UInt8) (n : Nat), n < 4294967296 → crcF n l < 4294967296
  | [], _, h => h
  | b :: l, n, h => crcF_lt l _ (byteStep_lt n b h)

theorem crcSum_lt (l : List UInt8) : crcSum l < 4294967296 :=
  Nat.xor_lt_two_pow (n := 32) (crcF_lt l _ (by omega)) (by omega)

theorem crcF_snoc (n : Nat) (l : List UInt8) (b : UInt8) : crcF n (l ++ [b]) = byteStep (crcF n l) b := by
  simp [crcF]

theorem crcF_append (n : Nat) (l m : List UInt8) : crcF n (l ++ m) = crcF (crcF n l) m := by
  simp [crcF]

/-! ### By halves of a byte -/

def tabL : List Nat := [0, 498536548, 997073096, 651767980, 1994146192, 1802195444, 1303535960, 1342533948, 3988292384, 4027552580, 3604390888, 3412177804, 2607071920, 2262029012, 2685067896, 3183342108]

def halfStep (n f : Nat) : Nat := n / 16 ^^^ tabL.getD ((n % 256 ^^^ f) % 16) 0

theorem split16 (n : Nat) : n = n / 16 * 16 ^^^ n % 16 := by
  have hd : (n / 16 * 16 ^^^ n % 16) / 2 ^ 4 = n / 16 := by
    rw [Nat.xor_div_two_pow]
    have h1 : n / 16 * 16 / 2 ^ 4 = n / 16 := by omega
    have h2 : n % 16 / 2 ^ 4 = 0 := by omega
    rw [h1, h2, Nat.xor_zero]
  have hm : (n / 16 * 16 ^^^ n % 16) % 2 ^ 4 = n % 16 := by
    rw [Nat.xor_mod_two_pow]
    have h1 : n / 16 * 16 % 2 ^ 4 = 0 := by omega
    have h2 : n % 16 % 2 ^ 4 = n % 16 := by omega
    rw [h1, h2, Nat.zero_xor]
  omega

theorem bsteps4_high (m : Nat) : bsteps 4 (m * 16) = m := by
  have h1 : bstep (m * 16) = m * 8 := by unfold bstep; rw [if_neg (by omega)]; omega
  have h2 : bstep (m * 8) = m * 4 := by unfold bstep; rw [if_neg (by omega)]; omega
  have h3 : bstep (m * 4) = m * 2 := by unfold bstep; rw [if_neg (by omega)]; omega
  have h4 : bstep (m * 2) = m := by unfold bstep; rw [if_neg (by omega)]; omega
  simp only [bsteps, h1, h2, h3, h4]

theorem bsteps4_low : ∀ r : Nat, r < 16 → bsteps 4 r = tabL.getD r 0 := by decide +kernel

theorem bsteps4 (n : Nat) : bsteps 4 n = n / 16 ^^^ tabL.getD (n % 16) 0 := by
  have h := split16 n
  have e : bsteps 4 (n / 16 * 16 ^^^ n % 16) = n / 16 ^^^ tabL.getD (n % 16) 0 := by
    rw [bsteps_xor, bsteps4_high, bsteps4_low _ (by omega)]
  rw [← h] at e
  exact e

theorem bsteps_add (j : Nat) : ∀ (k n : Nat), bsteps (k + j) n = bsteps j (bsteps k n)
  | 0, n => by simp [bsteps]
  | k + 1, n => by
    rw [show k + 1 + j = (k + j) + 1 from by omega]
    simp only [bsteps]
    exact bsteps_add j k _

theorem xor_mod16 (a b : Nat) : (a ^^^ b) % 16 = (a % 16) ^^^ (b % 16) := Nat.xor_mod_two_pow (n := 4)
theorem xor_div16 (a b : Nat) : (a ^^^ b) / 16 = (a / 16) ^^^ (b / 16) := Nat.xor_div_two_pow (n := 4)

theorem halfStep_eq (n f : Nat) (hf : f / 16 = 0) : halfStep n f = bsteps 4 (n ^^^ f) := by
  rw [bsteps4, xor_div16, hf, Nat.xor_zero, xor_mod16]
  unfold halfStep
  rw [xor_mod16, show n % 256 % 16 = n % 16 from by omega]

theorem halfStep_low (n f : Nat) : halfStep n f = halfStep n (f % 16) := by
  unfold halfStep
  rw [xor_mod16, xor_mod16 _ (f % 16), show f % 16 % 16 = f % 16 from by omega]

/-- A byte's lower half, then its higher one: the byte. -/
theorem halves (n : Nat) (b : UInt8) : halfStep (halfStep n b.toNat) (b.toNat / 16) = byteStep n b := by
  have hb := u8_lt b
  unfold byteStep
  rw [halfStep_low n, halfStep_eq _ _ (by omega), halfStep_eq _ _ (by omega), bsteps_add 4 4]
  congr 1
  have h := split16 b.toNat
  have e : bsteps 4 (n ^^^ b.toNat) = bsteps 4 (n ^^^ b.toNat % 16) ^^^ b.toNat / 16 := by
    have : n ^^^ b.toNat = (n ^^^ b.toNat % 16) ^^^ b.toNat / 16 * 16 := by
      rw [Nat.xor_assoc, Nat.xor_comm (b.toNat % 16), ← h]
    rw [this, bsteps_xor, bsteps4_high]
  exact e.symm

theorem halfStep_lt (n f : Nat) (h : n < 4294967296) : halfStep n f < 4294967296 := by
  have hi : (n % 256 ^^^ f) % 16 < 16 := Nat.mod_lt _ (by omega)
  have ht : ∀ i : Nat, i < 16 → tabL.getD i 0 < 4294967296 := by decide
  exact Nat.xor_lt_two_pow (n := 32) (by omega) (ht _ hi)

/-! ### Unlike bytes -/

theorem byteStep_inj (n m : Nat) (b : UInt8) (hn : n < 4294967296) (hm : m < 4294967296) (h : byteStep n b = byteStep m b) : n = m := by
  have := bsteps_inj 8 _ _ (xor_byte_lt n b hn) (xor_byte_lt m b hm) h
  exact xor_right_cancel _ _ _ this

theorem byteStep_other (n : Nat) (a b : UInt8) (hn : n < 4294967296) (h : byteStep n a = byteStep n b) : a = b := by
  have := bsteps_inj 8 _ _ (xor_byte_lt n a hn) (xor_byte_lt n b hn) h
  exact UInt8.toNat_inj.1 (xor_left_cancel _ _ _ this)

theorem crcF_inj : ∀ (l : List UInt8) (n m : Nat), n < 4294967296 → m < 4294967296 → crcF n l = crcF m l → n = m
  | [], _, _, _, _, h => h
  | b :: l, n, m, hn, hm, h => byteStep_inj n m b hn hm (crcF_inj l _ _ (byteStep_lt n b hn) (byteStep_lt m b hm) h)

theorem crcSum_inj (l m : List UInt8) (h : crcSum l = crcSum m) : crcF 4294967295 l = crcF 4294967295 m := xor_right_cancel _ _ _ h

/-- One byte that is another one: another sum. -/
theorem crcSum_other (l m : List UInt8) (a b : UInt8) (h : crcSum (l ++ a :: m) = crcSum (l ++ b :: m)) : a = b := by
  have h1 := crcSum_inj _ _ h
  rw [crcF_append, crcF_append] at h1
  have hl := crcF_lt l 4294967295 (by omega)
  have h2 := crcF_inj m _ _ (byteStep_lt _ a hl) (byteStep_lt _ b hl) h1
  exact byteStep_other _ a b hl h2

/-! ### The sum of three texts' xor -/

def xor3 (a b c : UInt8) : UInt8 := a ^^^ b ^^^ c

theorem xor3_toNat (a b c : UInt8) : (xor3 a b c).toNat = a.toNat ^^^ b.toNat ^^^ c.toNat := by
  simp [xor3, UInt8.toNat_xor]

theorem xor6 (x y z a b c : Nat) : x ^^^ y ^^^ z ^^^ (a ^^^ b ^^^ c) = (x ^^^ a) ^^^ (y ^^^ b) ^^^ (z ^^^ c) := by
  apply Nat.eq_of_testBit_eq
  intro i
  simp only [Nat.testBit_xor]
  cases x.testBit i <;> cases y.testBit i <;> cases z.testBit i <;> cases a.testBit i <;> cases b.testBit i <;> cases c.testBit i <;> rfl

theorem byteStep_xor3 (x y z : Nat) (a b c : UInt8) : byteStep (x ^^^ y ^^^ z) (xor3 a b c) = byteStep x a ^^^ byteStep y b ^^^ byteStep z c := by
  unfold byteStep
  rw [xor3_toNat, xor6, bsteps_xor, bsteps_xor]

theorem xor_thrice (n : Nat) : n ^^^ n ^^^ n = n := by rw [Nat.xor_self, Nat.zero_xor]

def xorL : List UInt8 → List UInt8 → List UInt8 → List UInt8
  | a :: l, b :: m, c :: r => xor3 a b c :: xorL l m r
  | _, _, _ => []

theorem crcF_xor3 : ∀ (l m r : List UInt8) (x y z : Nat), m.length = l.length → r.length = l.length → crcF (x ^^^ y ^^^ z) (xorL l m r) = crcF x l ^^^ crcF y m ^^^ crcF z r
  | [], [], [], _, _, _, _, _ => rfl
  | a :: l, b :: m, c :: r, x, y, z, h1, h2 => by
    have ih := crcF_xor3 l m r (byteStep x a) (byteStep y b) (byteStep z c) (by simpa using h1) (by simpa using h2)
    show crcF (byteStep (x ^^^ y ^^^ z) (xor3 a b c)) (xorL l m r) = _
    rw [byteStep_xor3]
    exact ih
  | [], _ :: _, _, _, _, _, h, _ => by simp at h
  | [], [], _ :: _, _, _, _, _, h => by simp at h
  | _ :: _, [], _, _, _, _, h, _ => by simp at h
  | _ :: _, _ :: _, [], _, _, _, _, h => by simp at h

theorem crcSum_xor3 (l m r : List UInt8) (h1 : m.length = l.length) (h2 : r.length = l.length) : crcSum (xorL l m r) = crcSum l ^^^ crcSum m ^^^ crcSum r := by
  have h := crcF_xor3 l m r 4294967295 4294967295 4294967295 h1 h2
  rw [xor_thrice] at h
  unfold crcSum
  rw [h, ← xor6, xor_thrice]

/-! ### Sealed and opened -/

def be4 (n : Nat) : List UInt8 := [UInt8.ofNat (n / 16777216 % 256), UInt8.ofNat (n / 65536 % 256), UInt8.ofNat (n / 256 % 256), UInt8.ofNat (n % 256)]

theorem be4_length (n : Nat) : (be4 n).length = 4 := rfl

theorem ofNat_inj (a b : Nat) (ha : a < 256) (hb : b < 256) (h : UInt8.ofNat a = UInt8.ofNat b) : a = b := by
  have := congrArg UInt8.toNat h
  simp [UInt8.toNat_ofNat'] at this
  omega

theorem be4_inj (n m : Nat) (hn : n < 4294967296) (hm : m < 4294967296) (h : be4 n = be4 m) : n = m := by
  simp only [be4, List.cons.injEq, and_true] at h
  obtain ⟨h1, h2, h3, h4⟩ := h
  have := ofNat_inj _ _ (by omega) (by omega) h1
  have := ofNat_inj _ _ (by omega) (by omega) h2
  have := ofNat_inj _ _ (by omega) (by omega) h3
  have := ofNat_inj _ _ (by omega) (by omega) h4
  omega

def tailB (l : List UInt8) : List UInt8 := be4 (crcSum l)
def sealB (l : List UInt8) : List UInt8 := l ++ tailB l
def openB (l : List UInt8) : Option (List UInt8) :=
  if l.length < 4 then none
  else if l.drop (l.length - 4) = tailB (l.take (l.length - 4)) then some (l.take (l.length - 4)) else none

theorem tailB_length (l : List UInt8) : (tailB l).length = 4 := rfl
theorem sealB_length (l : List UInt8) : (sealB l).length = l.length + 4 := by simp [sealB, tailB_length]

theorem openB_sealB (l : List UInt8) : openB (sealB l) = some l := by
  have h : (sealB l).length - 4 = l.length := by rw [sealB_length]; omega
  unfold openB
  rw [if_neg (by rw [sealB_length]; omega), h]
  have h1 : (sealB l).drop l.length = tailB l := by simp [sealB]
  have h2 : (sealB l).take l.length = l := by simp [sealB]
  rw [h1, h2, if_pos rfl]

theorem openB_is (l m : List UInt8) (h : openB l = some m) : l = sealB m := by
  unfold openB at h
  split at h
  · cases h
  · split at h
    · rename_i hd
      cases h
      unfold sealB
      rw [← hd, List.take_append_drop]
    · cases h

/-- What is sealed, one byte another one, is not opened. -/
theorem openB_other (l : List UInt8) (i : Nat) (hi : i < (sealB l).length) (x : UInt8) (hx : x ≠ (sealB l)[i]) : openB ((sealB l).set i x) = none := by
  cases h : openB ((sealB l).set i x) with
  | none => rfl
  | some m =>
    exfalso
    have he := openB_is _ m h
    have hl : m.length = l.length := by
      have := congrArg List.length he
      rw [List.length_set, sealB_length, sealB_length] at this
      omega
    by_cases hp : i < l.length
    · have hs : (sealB l).set i x = l.set i x ++ tailB l := by simp [sealB, hp]
      rw [hs] at he
      have h1 : l.set i x = m := (List.append_inj he (by simp [hl])).1
      have h2 : tailB l = tailB m := (List.append_inj he (by simp [hl])).2
      have h3 := be4_inj _ _ (crcSum_lt l) (crcSum_lt m) h2
      have hg : (sealB l)[i] = l[i] := by simp [sealB, List.getElem_append_left hp]
      have hd : l = l.take i ++ l[i] :: l.drop (i + 1) := by rw [List.getElem_cons_drop, List.take_append_drop]
      have hd' : m = l.take i ++ x :: l.drop (i + 1) := by rw [← h1]; rw [List.set_eq_take_append_cons_drop, if_pos hp]
      apply hx
      rw [hg]
      have h5 : crcSum (l.take i ++ l[i] :: l.drop (i + 1)) = crcSum (l.take i ++ x :: l.drop (i + 1)) := by
        rw [← hd, ← hd', ← h1]
        have : m = l.set i x := h1.symm
        rw [← this]
        exact be4_inj _ _ (crcSum_lt l) (crcSum_lt m) h2
      exact (crcSum_other _ _ _ _ h5).symm
    · have hs : (sealB l).set i x = l ++ (tailB l).set (i - l.length) x := by unfold sealB; rw [List.set_append, if_neg hp]
      rw [hs] at he
      have h1 : l = m := (List.append_inj he hl.symm).1
      have h2 : (tailB l).set (i - l.length) x = tailB m := (List.append_inj he hl.symm).2
      subst h1
      have hj : i - l.length < (tailB l).length := by rw [tailB_length]; rw [sealB_length] at hi; omega
      have h3 : ((tailB l).set (i - l.length) x)[i - l.length]'(by simpa using hj) = (tailB l)[i - l.length] := by simp only [h2]
      rw [List.getElem_set_self] at h3
      apply hx
      rw [h3]
      simp only [sealB]
      rw [List.getElem_append_right (by omega)]

end Go.Proofs.YtdpbdkacngaemaaDoor


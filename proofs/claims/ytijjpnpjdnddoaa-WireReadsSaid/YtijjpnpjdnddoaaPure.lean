/- Plain facts on numbers and lists of bytes: the digits of a number in base 256, the bytes that stand for a number and for a text, and how they are read. Nothing here speaks of the program. -/
import Derived.Lib.ItoaNum
namespace Go.Proofs.Ytijjpnpjdnddoaa
open Go

def digsF : Nat → Nat → List UInt8
  | 0, _ => []
  | f + 1, n => if n = 0 then [] else digsF f (n / 256) ++ [UInt8.ofNat (n % 256)]

def digs (n : Nat) : List UInt8 := digsF 8 n
def numB (n : Nat) : List UInt8 := UInt8.ofNat (digs n).length :: digs n
def textB (t : List UInt8) : List UInt8 := numB t.length ++ t

def valF : Nat → List UInt8 → Nat
  | a, [] => a
  | a, b :: l => valF (a * 256 + b.toNat) l
def val (l : List UInt8) : Nat := valF 0 l

theorem digsF_zero (f : Nat) : digsF f 0 = [] := by cases f <;> simp [digsF]

theorem digsF_more : ∀ (f n : Nat), n < 256 ^ f → digsF (f + 1) n = digsF f n
  | 0, n, h => by
    have : n = 0 := by simpa using h
    subst this; simp [digsF]
  | f + 1, n, h => by
    by_cases h0 : n = 0
    · subst h0; simp [digsF]
    · have h1 : n / 256 < 256 ^ f := by
        rw [Nat.pow_succ] at h
        exact (Nat.div_lt_iff_lt_mul (by omega)).2 h
      rw [digsF, if_neg h0, digsF_more f _ h1, digsF, if_neg h0]

theorem digs_zero : digs 0 = [] := rfl

theorem digs_pos (n : Nat) (h0 : n ≠ 0) (h : n < 18446744073709551616) : digs n = digs (n / 256) ++ [UInt8.ofNat (n % 256)] := by
  have h1 : n < 256 ^ 8 := by simpa using h
  have e : digs n = digsF 9 n := (digsF_more 8 n h1).symm
  rw [e, digsF, if_neg h0]; rfl

theorem digsF_len : ∀ (f n : Nat), (digsF f n).length ≤ f
  | 0, _ => by simp [digsF]
  | f + 1, n => by
    unfold digsF
    split
    · simp
    · have := digsF_len f (n / 256); simp; omega

theorem digs_len (n : Nat) : (digs n).length ≤ 8 := digsF_len 8 n

theorem digs_len_pos (n : Nat) (h0 : n ≠ 0) (h : n < 18446744073709551616) : 1 ≤ (digs n).length := by
  rw [digs_pos n h0 h]; simp

theorem bitLen_zero : Lib.bitLen 0 = 0 := by simp [Lib.bitLen, Lib.bitLenAux_zero]

theorem bitLen_pos (n : Nat) (h0 : n ≠ 0) (h : n < 18446744073709551616) : 1 ≤ Lib.bitLen n :=
  (Lib.bitLenAux_bounds 64 n (by simpa using h) h0).1

theorem count_eqF : ∀ (f n : Nat), f ≤ 8 → n < 256 ^ f → (Lib.bitLen n + 7) / 8 = (digsF f n).length
  | 0, n, _, h => by
    have : n = 0 := by simpa using h
    subst this; simp [digsF, bitLen_zero]
  | f + 1, n, hf, h => by
    by_cases h0 : n = 0
    · subst h0; simp [digsF, bitLen_zero]
    · have h1 : n / 256 < 256 ^ f := by
        rw [Nat.pow_succ] at h
        exact (Nat.div_lt_iff_lt_mul (by omega)).2 h
      have h64 : n < 18446744073709551616 := by
        have : 256 ^ (f + 1) ≤ 256 ^ 8 := Nat.pow_le_pow_right (by omega) hf
        have e : (256 : Nat) ^ 8 = 18446744073709551616 := by decide
        omega
      have ih := count_eqF f (n / 256) (by omega) h1
      rw [digsF, if_neg h0]
      simp only [List.length_append, List.length_cons, List.length_nil]
      by_cases hb : 256 ≤ n
      · rw [Lib.bitLen_shift8 n hb h64]; omega
      · have e : n / 256 = 0 := by omega
        rw [e, digsF_zero]
        have a := bitLen_pos n h0 h64
        have b := Lib.bitLen_le n 8 (by omega) (by omega)
        simp; omega

theorem count_eq (n : Nat) (h : n < 18446744073709551616) : (Lib.bitLen n + 7) / 8 = (digs n).length :=
  count_eqF 8 n (by omega) (by simpa using h)

theorem valF_append : ∀ (a : Nat) (l m : List UInt8), valF a (l ++ m) = valF (valF a l) m
  | _, [], _ => rfl
  | a, b :: l, m => by simp [valF, valF_append]

theorem val_snoc (l : List UInt8) (b : UInt8) : val (l ++ [b]) = val l * 256 + b.toNat := by
  simp [val, valF_append, valF]

theorem val_digsF : ∀ (f n : Nat), n < 256 ^ f → val (digsF f n) = n
  | 0, n, h => by
    have : n = 0 := by simpa using h
    subst this; rfl
  | f + 1, n, h => by
    by_cases h0 : n = 0
    · subst h0; simp [digsF, val, valF]
    · have h1 : n / 256 < 256 ^ f := by
        rw [Nat.pow_succ] at h
        exact (Nat.div_lt_iff_lt_mul (by omega)).2 h
      rw [digsF, if_neg h0, val_snoc, val_digsF f _ h1]
      have : (UInt8.ofNat (n % 256)).toNat = n % 256 := by
        simp [UInt8.toNat_ofNat']
      rw [this]; omega

theorem val_digs (n : Nat) (h : n < 18446744073709551616) : val (digs n) = n := val_digsF 8 n (by simpa using h)

theorem val_lt (l : List UInt8) : val l < 256 ^ l.length := by
  have key : ∀ (l : List UInt8) (a : Nat), valF a l < (a + 1) * 256 ^ l.length := by
    intro l
    induction l with
    | nil => intro a; simp [valF]
    | cons b l ih =>
      intro a
      have h := ih (a * 256 + b.toNat)
      have hb : b.toNat < 256 := b.toNat_lt
      simp only [valF, List.length_cons, Nat.pow_succ]
      calc valF (a * 256 + b.toNat) l < (a * 256 + b.toNat + 1) * 256 ^ l.length := h
        _ ≤ ((a + 1) * 256) * 256 ^ l.length := Nat.mul_le_mul_right _ (by omega)
        _ = (a + 1) * (256 ^ l.length * 256) := by rw [Nat.mul_assoc, Nat.mul_comm 256]
  have := key l 0
  simpa [val] using this

theorem val_lt64 (l : List UInt8) (h : l.length ≤ 8) : val l < 18446744073709551616 := by
  have a := val_lt l
  have b : 256 ^ l.length ≤ 256 ^ 8 := Nat.pow_le_pow_right (by omega) h
  have e : (256 : Nat) ^ 8 = 18446744073709551616 := by decide
  omega

/-- Digits without a 0 ahead are the digits of their number. -/
theorem digsF_val : ∀ (l : List UInt8) (f : Nat), l.length ≤ f → (∀ b m, l = b :: m → b ≠ 0) → digsF f (val l) = l := by
  intro l
  have key : ∀ (k : Nat) (l : List UInt8), l.length = k → ∀ f, l.length ≤ f → (∀ b m, l = b :: m → b ≠ 0) → digsF f (val l) = l ∧ (l ≠ [] → val l ≠ 0) := by
    intro k
    induction k with
    | zero =>
      intro l hl f _ _
      have : l = [] := List.length_eq_zero_iff.1 hl
      subst this
      exact ⟨digsF_zero f, fun h => absurd rfl h⟩
    | succ k ih =>
      intro l hl f hf hz
      have hne : l ≠ [] := by intro h; subst h; simp at hl
      have hs : l = l.dropLast ++ [l.getLast hne] := (List.dropLast_concat_getLast hne).symm
      generalize l.dropLast = p at hs
      generalize l.getLast hne = b at hs
      subst hs
      have hp : p.length = k := by simpa using hl
      obtain ⟨f, rfl⟩ : ∃ g, f = g + 1 := ⟨f - 1, by simp at hf; omega⟩
      have ihp := ih p hp f (by simp at hf; omega) (fun c m h => hz c (m ++ [b]) (by rw [h]; rfl))
      have hb : b.toNat < 256 := b.toNat_lt
      rw [val_snoc]
      have hnz : val p * 256 + b.toNat ≠ 0 := by
        by_cases hpe : p = []
        · subst hpe
          have hb0 := hz b [] rfl
          have : b.toNat ≠ 0 := fun h => hb0 (by apply UInt8.toNat_inj.1; simpa using h)
          omega
        · have := ihp.2 hpe; omega
      refine ⟨?_, fun _ => hnz⟩
      rw [digsF, if_neg hnz, show (val p * 256 + b.toNat) / 256 = val p by omega, ihp.1, show (val p * 256 + b.toNat) % 256 = b.toNat by omega]
      simp
  intro f hf hz
  exact (key l.length l rfl f hf hz).1

theorem digs_val (l : List UInt8) (hl : l.length ≤ 8) (hz : ∀ b m, l = b :: m → b ≠ 0) : digs (val l) = l := digsF_val l 8 hl hz

theorem digs_head (n : Nat) (h : n < 18446744073709551616) (b : UInt8) (m : List UInt8) (e : digs n = b :: m) : b ≠ 0 := by
  have key : ∀ (f n : Nat), n < 256 ^ f → ∀ b m, digsF f n = b :: m → b ≠ 0 := by
    intro f
    induction f with
    | zero => intro n _ b m e; simp [digsF] at e
    | succ f ih =>
      intro n hn b m e
      by_cases h0 : n = 0
      · subst h0; simp [digsF] at e
      · have h1 : n / 256 < 256 ^ f := by
          rw [Nat.pow_succ] at hn
          exact (Nat.div_lt_iff_lt_mul (by omega)).2 hn
        rw [digsF, if_neg h0] at e
        by_cases hq : n / 256 = 0
        · rw [hq, digsF_zero] at e
          simp at e
          intro hb
          have : (UInt8.ofNat (n % 256)).toNat = 0 := by rw [e.1, hb]; rfl
          simp [UInt8.toNat_ofNat'] at this
          omega
        · cases hd : digsF f (n / 256) with
          | nil =>
            have v := val_digsF f _ h1
            rw [hd] at v
            exact absurd v.symm hq
          | cons c r =>
            rw [hd] at e
            simp at e
            rw [← e.1]
            exact ih _ h1 c r hd
  exact key 8 n (by simpa using h) b m e

/-! ### Reading -/

/-- What is left, read as a number's bytes: the number and what is left behind it; nothing where none begins there. -/
def rdNum (l : List UInt8) : Option (Nat × List UInt8) :=
  match l with
  | [] => none
  | k :: r =>
    if 8 < k.toNat then none
    else if r.length < k.toNat then none
    else if (r.take k.toNat).head? = some 0 then none
    else some (val (r.take k.toNat), r.drop k.toNat)

def rdText (l : List UInt8) : Option (List UInt8 × List UInt8) :=
  match rdNum l with
  | none => none
  | some (n, r) => if r.length < n then none else some (r.take n, r.drop n)

theorem ofNat_small (k : Nat) (h : k < 256) : (UInt8.ofNat k).toNat = k := by
  simp [UInt8.toNat_ofNat']; omega

/-- A number's bytes, whatever stands behind them, are read as the number. -/
theorem rdNum_put (n : Nat) (h : n < 18446744073709551616) (r : List UInt8) : rdNum (numB n ++ r) = some (n, r) := by
  have hl := digs_len n
  have e : (UInt8.ofNat (digs n).length).toNat = (digs n).length := ofNat_small _ (by omega)
  have ht : (digs n ++ r).take (digs n).length = digs n := by simp
  have hh : ¬ (digs n).head? = some 0 := by
    intro hc
    cases hd : digs n with
    | nil => rw [hd] at hc; simp at hc
    | cons b m =>
      rw [hd] at hc
      simp at hc
      exact digs_head n h b m hd hc
  show rdNum (UInt8.ofNat (digs n).length :: (digs n ++ r)) = _
  unfold rdNum
  simp only [e]
  rw [if_neg (by omega), if_neg (by simp), ht, if_neg hh, val_digs n h]
  simp

theorem rdText_put (t : List UInt8) (h : t.length < 18446744073709551616) (r : List UInt8) : rdText (textB t ++ r) = some (t, r) := by
  unfold rdText textB
  rw [List.append_assoc, rdNum_put _ h]
  simp

/-- What is read as a number is that number's bytes. -/
theorem rdNum_is (l : List UInt8) (n : Nat) (r : List UInt8) (h : rdNum l = some (n, r)) : l = numB n ++ r ∧ n < 18446744073709551616 := by
  cases l with
  | nil => simp [rdNum] at h
  | cons k q =>
    unfold rdNum at h
    by_cases h1 : 8 < k.toNat
    · simp [h1] at h
    by_cases h2 : q.length < k.toNat
    · simp [h1, h2] at h
    by_cases h3 : (q.take k.toNat).head? = some 0
    · simp [h1, h2, h3] at h
    · simp only [h1, h2, h3, if_false, Option.some.injEq, Prod.mk.injEq] at h
      obtain ⟨rfl, rfl⟩ := h
      have hl : (q.take k.toNat).length = k.toNat := by simp; omega
      have hz : ∀ b m, q.take k.toNat = b :: m → b ≠ 0 := by
        intro b m e hb
        apply h3
        rw [e, hb]; rfl
      have hd := digs_val (q.take k.toNat) (by omega) hz
      refine ⟨?_, val_lt64 _ (by omega)⟩
      unfold numB
      rw [hd, hl]
      have ek : UInt8.ofNat k.toNat = k := by simp
      rw [ek]
      simp

theorem rdText_is (l t r : List UInt8) (h : rdText l = some (t, r)) : l = textB t ++ r := by
  unfold rdText at h
  cases hn : rdNum l with
  | none => simp [hn] at h
  | some p =>
    obtain ⟨n, q⟩ := p
    simp only [hn] at h
    by_cases hq : q.length < n
    · simp [hq] at h
    · simp only [hq, if_false, Option.some.injEq, Prod.mk.injEq] at h
      obtain ⟨rfl, rfl⟩ := h
      have := (rdNum_is l n q hn).1
      unfold textB
      have hl : (q.take n).length = n := by simp; omega
      rw [hl, this]
      simp

/-- No beginning of a number's bytes is one's. -/
theorem rdNum_cut (n : Nat) (h : n < 18446744073709551616) (i : Nat) (hi : i < (numB n).length) : rdNum ((numB n).take i) = none := by
  cases hc : rdNum ((numB n).take i) with
  | none => rfl
  | some p =>
    obtain ⟨m, r⟩ := p
    have h1 := rdNum_is _ m r hc
    have h2 : numB n = numB m ++ (r ++ (numB n).drop i) := by
      rw [← List.append_assoc, ← h1.1, List.take_append_drop]
    have h3 := rdNum_put n h []
    rw [List.append_nil, h2, rdNum_put m h1.2] at h3
    simp only [Option.some.injEq, Prod.mk.injEq] at h3
    have h4 : (numB n).drop i = [] := by
      have := h3.2
      simp at this
      have h5 := this.2
      simpa using h5
    have h6 : (numB n).length ≤ i := by simpa using h4
    omega

/-! ### Strings as lists of bytes -/

def str (l : List UInt8) : ByteArray := ⟨l.toArray⟩
def bl (s : ByteArray) : List UInt8 := s.data.toList

theorem bl_str (l : List UInt8) : bl (str l) = l := by simp [bl, str]
theorem str_bl (s : ByteArray) : str (bl s) = s := by obtain ⟨⟨l⟩⟩ := s; rfl
theorem str_size (l : List UInt8) : (str l).size = l.length := by simp [str, ByteArray.size]
theorem bl_len (s : ByteArray) : (bl s).length = s.size := by obtain ⟨⟨l⟩⟩ := s; simp [bl, ByteArray.size]
theorem str_inj {l m : List UInt8} (h : str l = str m) : l = m := by
  have := congrArg bl h
  rwa [bl_str, bl_str] at this

def flat (ps : List ByteArray) : List UInt8 := (ps.map bl).flatten

theorem flat_snoc (ps : List ByteArray) (k : Nat) (h : k < ps.length) : flat (ps.take (k + 1)) = flat (ps.take k) ++ bl ps[k] := by
  unfold flat
  rw [List.take_succ_eq_append_getElem h, List.map_append, List.flatten_append]
  simp

theorem flat_take_len (ps : List ByteArray) (k : Nat) : (flat (ps.take k)).length ≤ (flat ps).length := by
  have : flat ps = flat (ps.take k) ++ flat (ps.drop k) := by
    unfold flat
    rw [← List.flatten_append, ← List.map_append, List.take_append_drop]
  rw [this]; simp

end Go.Proofs.Ytijjpnpjdnddoaa

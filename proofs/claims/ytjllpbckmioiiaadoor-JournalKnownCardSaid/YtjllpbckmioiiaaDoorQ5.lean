/- DkWrite, DkMore, CPure. -/
import Derived.Test.YtjllpbckmioiiaaDoorQ4
import Derived.Lib.Hide
/- What Write of package disk does, where it is done: its tail. -/
namespace Go.Proofs.YtjllpbckmioiiaaDoor.dk
open Go Go.RowKit
set_option maxRecDepth 100000

section
variable {w : World} {p m : Nat} {v : Value} {d : DD} {own : Nat → Prop}

theorem oper_rest (d : DD) : d.oper.base = d.base ∧ d.oper.more = d.more ∧ d.oper.room = d.room := by
  unfold DD.oper DD.off
  split
  · exact ⟨rfl, rfl, rfl⟩
  · split <;> exact ⟨rfl, rfl, rfl⟩
theorem oper_now (d : DD) : d.oper.now = d.now := by unfold DD.now; rw [(oper_rest d).1, (oper_rest d).2.1]
theorem oper_n (d : DD) : d.oper.n = d.n := by unfold DD.n; rw [(oper_rest d).1]

theorem fits_one (d : DD) (k : Int) (hh : d.has k = true) : d.fits [k] = ((look d.now k).isSome || decide ((d.used : Int) < d.room)) := by
  unfold DD.fits
  simp only [List.all_cons, List.all_nil, hh, Bool.and_self, Bool.true_and, fresh]
  by_cases hx : (look d.now k).isSome = true
  · simp [hx]
  · simp [hx]
    omega

theorem ints_one (w : World) (k : Int) (h0 : -9223372036854775808 ≤ k) (h1 : k ≤ 9223372036854775807) : IntsAt (w.alloc (.cells #[.int .i64 k] 3)) (some ⟨w.heap.size, 0, none⟩) [k] := by
  intro i h
  have hi : i = 0 := by simpa using h
  subst hi
  refine ⟨w.heap.size, 0, rfl, by simp, ?_, h0, h1⟩
  rw [cell_of_row _ _ _ _ _ _ (heap_alloc_new w _)]
  rfl

theorem write_off {most : Nat} (h : DkIs most w own p d) (hon : d.on = false) (k : Int) (s : ByteArray) :
    Calls Tryd.prog 54 #[.pointer (some ⟨p, 0, none⟩), .int .i64 k, .string s] w (DkPost most own p d (.int .i64 6) w) := by
  have H := Lib.hid h
  obtain ⟨h0, m, v, h1⟩ := h
  obtain ⟨c0, c1, c2, c3, c4, c5⟩ := blk6 h1.1
  rw [hon] at c4
  clear h0 h1 c0 c1 c2 c3 c5 hon
  go_enter Tryd.func54, Tryd.ntmps54
  go_wp2_with fail
  go_ret
  exact ⟨rfl, own, H.out, But.refl _ _, Grows.refl _ _⟩

theorem write_not {most : Nat} (h : DkIs most w own p d) (hon : d.on = true) (k : Int) (hh : d.has k = false) (s : ByteArray) :
    Calls Tryd.prog 54 #[.pointer (some ⟨p, 0, none⟩), .int .i64 k, .string s] w (DkPost most own p d (.int .i64 2) w) := by
  have H := Lib.hid h
  obtain ⟨h0, m, v, h1⟩ := h
  have hhas := has_any h1 k
  rw [hh] at hhas
  have HH := Lib.hid hhas
  obtain ⟨c0, c1, c2, c3, c4, c5⟩ := blk6 h1.1
  rw [hon] at c4
  clear h0 h1 c0 c1 c2 c3 c5 hon hhas hh
  go_enter Tryd.func54, Tryd.ntmps54
  go_wp2_with (go_at_call 42; refine HH.out.mono ?_; rintro e w' ⟨rfl, rfl⟩)
  go_ret
  exact ⟨rfl, own, H.out, But.refl _ _, Grows.refl _ _⟩

theorem write_len {most : Nat} (h : DkIs most w own p d) (hon : d.on = true) (k : Int) (hh : d.has k = true) (s : ByteArray) (hs : s.size ≠ 32) :
    Calls Tryd.prog 54 #[.pointer (some ⟨p, 0, none⟩), .int .i64 k, .string s] w (DkPost most own p d (.int .i64 2) w) := by
  have H := Lib.hid h
  obtain ⟨h0, m, v, h1⟩ := h
  have hhas := has_any h1 k
  rw [hh] at hhas
  have HH := Lib.hid hhas
  obtain ⟨c0, c1, c2, c3, c4, c5⟩ := blk6 h1.1
  rw [hon] at c4
  have hsz : ((s.size : Int) == 32) = false := by rw [beq_eq_false_iff_ne]; omega
  clear h0 h1 c0 c1 c2 c3 c5 hon hhas hh hs
  go_enter Tryd.func54, Tryd.ntmps54
  go_wp2_with (go_at_call 42; refine HH.out.mono ?_; rintro e w' ⟨rfl, rfl⟩)
  go_ret
  exact ⟨rfl, own, H.out, But.refl _ _, Grows.refl _ _⟩

theorem write_full {most : Nat} (h : DkIs most w own p d) (hon : d.on = true) (k : Int) (hh : d.has k = true) (s : ByteArray) (hs : s.size = 32) (hf : d.fits [k] = false) :
    Calls Tryd.prog 54 #[.pointer (some ⟨p, 0, none⟩), .int .i64 k, .string s] w (DkPost most own p d (.int .i64 7) w) := by
  have hk0 : 0 ≤ k ∧ k < (d.n : Int) := by simpa [DD.has] using hh
  have hn := h.1.n1
  have h2 : DkIs most (w.alloc (.cells #[.int .i64 k] 3)) own p d := h.keep (by simp) (fun j hj => Below.heap_alloc _ _ _ (h.2.choose_spec.choose_spec.2.2.2.2.2.2 j hj))
  have HF := Lib.hid (fits_any h2 _ 1 [k] (ints_one w k (by omega) (by omega)) (by simp))
  rw [hf] at HF
  have H := Lib.hid h
  have H2 := Lib.hid h2
  have hlow : ∀ j, own j → j < w.heap.size := fun j hj => h.2.choose_spec.choose_spec.2.2.2.2.2.2 j hj
  have HL := Lib.hid hlow
  obtain ⟨h0, m, v, h1⟩ := h
  have hhas := has_any h1 k
  rw [hh] at hhas
  have HH := Lib.hid hhas
  obtain ⟨c0, c1, c2, c3, c4, c5⟩ := blk6 h1.1
  rw [hon] at c4
  have hsz : ((s.size : Int) == 32) = true := by rw [beq_iff_eq]; omega
  clear h0 h1 c0 c1 c2 c3 c5 hon hhas hh hs hf h2 hlow hk0 hn
  go_enter Tryd.func54, Tryd.ntmps54
  go_wp2_with (first | (go_at_call 42; refine HH.out.mono ?_; rintro e w' ⟨rfl, rfl⟩) | (go_at_call 33; refine HF.out.mono ?_; rintro e w2 ⟨rfl, hb2⟩; have HB2 := Lib.hid hb2; clear hb2))
  go_ret
  have hB : Below w.heap.size w w2 := ((Below.refl _ w).alloc (Nat.le_refl _) _).trans (HB2.out.mono (by simp))
  exact ⟨rfl, own, H.out.keep hB.size (fun j hj => hB.block j (HL.out j hj)), But.of_below hB, Grows.refl _ _⟩
end
end Go.Proofs.YtjllpbckmioiiaaDoor.dk

/- How many unflushed writes a Write leaves. -/
namespace Go.Proofs.YtjllpbckmioiiaaDoor.dk
open Go Go.RowKit
set_option maxRecDepth 100000

theorem write_more (d : DD) (k : Int) (v : Bt) : (d.write k v).2.more.length ≤ d.more.length + 1 := by
  have ho := (oper_rest d).2.1
  unfold DD.write
  split
  · simp
  · split
    · simp
    · split
      · simp
      · split
        · simp [ho]
        · simp

end Go.Proofs.YtjllpbckmioiiaaDoor.dk

/- Plain facts on the sum of bytes: one bit's step, a byte's step by bits and by halves, that the sum is linear and that unlike bytes give unlike sums; the four bytes of a sum; what is sealed and opened. Nothing here speaks of the program. -/
namespace Go.Proofs.YtjllpbckmioiiaaDoor
open Go
set_option maxRecDepth 100000

def bstep (n : Nat) : Nat := if n % 2 = 1 then n / 2 ^^^ 3988292384 else n / 2

def bsteps : Nat → Nat → Nat
  | 0, n => n
  | k + 1, n => bsteps k (bstep n)

def byteStep (n : Nat) (b : UInt8) : Nat := bsteps 8 (n ^^^ b.toNat)
def crcF (n : Nat) (l : List UInt8) : Nat := l.foldl byteStep n
def crcSum (l : List UInt8) : Nat := crcF 4294967295 l ^^^ 4294967295

theorem bstep_eq (n : Nat) : bstep n = n / 2 ^^^ (if n % 2 = 1 then 3988292384 else 0) := by
  unfold bstep; split <;> simp

theorem xor_mod2 (a b : Nat) : (a ^^^ b) % 2 = (a % 2) ^^^ (b % 2) := Nat.xor_mod_two_pow (n := 1)
theorem xor_eq_zero (a b : Nat) (h : a ^^^ b = 0) : a = b := by
  have : a ^^^ b ^^^ b = b := by rw [h, Nat.zero_xor]
  rwa [Nat.xor_assoc, Nat.xor_self, Nat.xor_zero] at this
theorem xor_right_cancel (a b c : Nat) (h : a ^^^ c = b ^^^ c) : a = b := by
  have : a ^^^ c ^^^ c = b ^^^ c ^^^ c := by rw [h]
  rwa [Nat.xor_assoc, Nat.xor_assoc, Nat.xor_self, Nat.xor_zero, Nat.xor_zero] at this
theorem xor_left_cancel (a b c : Nat) (h : c ^^^ a = c ^^^ b) : a = b := by
  rw [Nat.xor_comm c, Nat.xor_comm c] at h
  exact xor_right_cancel _ _ _ h

theorem bstep_xor (a b : Nat) : bstep (a ^^^ b) = bstep a ^^^ bstep b := by
  rw [bstep_eq, bstep_eq a, bstep_eq b, Nat.xor_div_two, xor_mod2]
  have ha : a % 2 = 0 ∨ a % 2 = 1 := by omega
  have hb : b % 2 = 0 ∨ b % 2 = 1 := by omega
  have h2 : ∀ x y p : Nat, x ^^^ (y ^^^ p) = x ^^^ y ^^^ p := fun x y p => (Nat.xor_assoc x y p).symm
  have h3 : ∀ x p : Nat, x ^^^ p ^^^ p = x := fun x p => by
    rw [Nat.xor_assoc, Nat.xor_self, Nat.xor_zero]
  have h4 : ∀ x y p : Nat, x ^^^ p ^^^ y = x ^^^ y ^^^ p := fun x y p => by
    rw [Nat.xor_assoc, Nat.xor_comm p y, ← Nat.xor_assoc]
  rcases ha with ha | ha <;> rcases hb with hb | hb <;> simp [ha, hb, h2, h3, h4]

theorem bsteps_xor : ∀ (k a b : Nat), bsteps k (a ^^^ b) = bsteps k a ^^^ bsteps k b
  | 0, _, _ => rfl
  | k + 1, a, b => by simp only [bsteps, bstep_xor, bsteps_xor k]

theorem bstep_lt (n : Nat) (h : n < 4294967296) : bstep n < 4294967296 := by
  unfold bstep
  split
  · exact Nat.xor_lt_two_pow (n := 32) (by omega) (by omega)
  · omega

theorem bsteps_lt : ∀ (k n : Nat), n < 4294967296 → bsteps k n < 4294967296
  | 0, _, h => h
  | k + 1, n, h => bsteps_lt k _ (bstep_lt n h)

theorem bstep_zero (n : Nat) (h : n < 4294967296) (e : bstep n = 0) : n = 0 := by
  unfold bstep at e
  split at e
  · have : n / 2 = 3988292384 := xor_eq_zero _ _ e
    omega
  · omega

theorem bsteps_zero : ∀ (k n : Nat), n < 4294967296 → bsteps k n = 0 → n = 0
  | 0, _, _, e => e
  | k + 1, n, h, e => bstep_zero n h (bsteps_zero k _ (bstep_lt n h) e)

theorem bsteps_inj (k a b : Nat) (ha : a < 4294967296) (hb : b < 4294967296) (h : bsteps k a = bsteps k b) : a = b := by
  apply xor_eq_zero
  apply bsteps_zero k _ (Nat.xor_lt_two_pow (n := 32) (by omega) (by omega))
  rw [bsteps_xor, h, Nat.xor_self]

theorem u8_lt (b : UInt8) : b.toNat < 256 := b.toNat_lt

theorem xor_byte_lt (n : Nat) (b : UInt8) (h : n < 4294967296) : n ^^^ b.toNat < 4294967296 := by
  have := u8_lt b
  exact Nat.xor_lt_two_pow (n := 32) (by omega) (by omega)

theorem byteStep_lt (n : Nat) (b : UInt8) (h : n < 4294967296) : byteStep n b < 4294967296 :=
  bsteps_lt 8 _ (xor_byte_lt n b h)

theorem crcF_lt : ∀ (l : List UInt8) (n : Nat), n < 4294967296 → crcF n l < 4294967296
  | [], _, h => h
  | b :: l, n, h => crcF_lt l _ (byteStep_lt n b h)

theorem crcSum_lt (l : List UInt8) : crcSum l < 4294967296 :=
  Nat.xor_lt_two_pow (n := 32) (crcF_lt l _ (by omega)) (by omega)

theorem crcF_snoc (n : Nat) (l : List UInt8) (b : UInt8) : crcF n (l ++ [b]) = byteStep (crcF n l) b := by
  simp [crcF]

theorem crcF_append (n : Nat) (l m : List UInt8) : crcF n (l ++ m) = crcF (crcF n l) m := by
  simp [crcF]

/-! ### By halves of a byte -/

def tabL : List Nat := [0, 498536548, 997073096, 651767980, 1994146192, 1802195444, 1303535960, 1342533948, 3988292384, 4027552580, 3604390888, 3412177804, 2607071920, 2262029012, 2685067896, 3183342108]

def halfStep (n f : Nat) : Nat := n / 16 ^^^ tabL.getD ((n % 256 ^^^ f) % 16) 0

theorem split16 (n : Nat) : n = n / 16 * 16 ^^^ n % 16 := by
  have hd : (n / 16 * 16 ^^^ n % 16) / 2 ^ 4 = n / 16 := by
    rw [Nat.xor_div_two_pow]
    have h1 : n / 16 * 16 / 2 ^ 4 = n / 16 := by omega
    have h2 : n % 16 / 2 ^ 4 = 0 := by omega
    rw [h1, h2, Nat.xor_zero]
  have hm : (n / 16 * 16 ^^^ n % 16) % 2 ^ 4 = n % 16 := by
    rw [Nat.xor_mod_two_pow]
    have h1 : n / 16 * 16 % 2 ^ 4 = 0 := by omega
    have h2 : n % 16 % 2 ^ 4 = n % 16 := by omega
    rw [h1, h2, Nat.zero_xor]
  omega

theorem bsteps4_high (m : Nat) : bsteps 4 (m * 16) = m := by
  have h1 : bstep (m * 16) = m * 8 := by unfold bstep; rw [if_neg (by omega)]; omega
  have h2 : bstep (m * 8) = m * 4 := by unfold bstep; rw [if_neg (by omega)]; omega
  have h3 : bstep (m * 4) = m * 2 := by unfold bstep; rw [if_neg (by omega)]; omega
  have h4 : bstep (m * 2) = m := by unfold bstep; rw [if_neg (by omega)]; omega
  simp only [bsteps, h1, h2, h3, h4]

theorem bsteps4_low : ∀ r : Nat, r < 16 → bsteps 4 r = tabL.getD r 0 := by decide +kernel

theorem bsteps4 (n : Nat) : bsteps 4 n = n / 16 ^^^ tabL.getD (n % 16) 0 := by
  have h := split16 n
  have e : bsteps 4 (n / 16 * 16 ^^^ n % 16) = n / 16 ^^^ tabL.getD (n % 16) 0 := by
    rw [bsteps_xor, bsteps4_high, bsteps4_low _ (by omega)]
  rw [← h] at e
  exact e

theorem bsteps_add (j : Nat) : ∀ (k n : Nat), bsteps (k + j) n = bsteps j (bsteps k n)
  | 0, n => by simp [bsteps]
  | k + 1, n => by
    rw [show k + 1 + j = (k + j) + 1 from by omega]
    simp only [bsteps]
    exact bsteps_add j k _

theorem xor_mod16 (a b : Nat) : (a ^^^ b) % 16 = (a % 16) ^^^ (b % 16) := Nat.xor_mod_two_pow (n := 4)
theorem xor_div16 (a b : Nat) : (a ^^^ b) / 16 = (a / 16) ^^^ (b / 16) := Nat.xor_div_two_pow (n := 4)

theorem halfStep_eq (n f : Nat) (hf : f / 16 = 0) : halfStep n f = bsteps 4 (n ^^^ f) := by
  rw [bsteps4, xor_div16, hf, Nat.xor_zero, xor_mod16]
  unfold halfStep
  rw [xor_mod16, show n % 256 % 16 = n % 16 from by omega]

theorem halfStep_low (n f : Nat) : halfStep n f = halfStep n (f % 16) := by
  unfold halfStep
  rw [xor_mod16, xor_mod16 _ (f % 16), show f % 16 % 16 = f % 16 from by omega]

/-- A byte's lower half, then its higher one: the byte. -/
theorem halves (n : Nat) (b : UInt8) : halfStep (halfStep n b.toNat) (b.toNat / 16) = byteStep n b := by
  have hb := u8_lt b
  unfold byteStep
  rw [halfStep_low n, halfStep_eq _ _ (by omega), halfStep_eq _ _ (by omega), bsteps_add 4 4]
  congr 1
  have h := split16 b.toNat
  have e : bsteps 4 (n ^^^ b.toNat) = bsteps 4 (n ^^^ b.toNat % 16) ^^^ b.toNat / 16 := by
    have : n ^^^ b.toNat = (n ^^^ b.toNat % 16) ^^^ b.toNat / 16 * 16 := by
      rw [Nat.xor_assoc, Nat.xor_comm (b.toNat % 16), ← h]
    rw [this, bsteps_xor, bsteps4_high]
  exact e.symm

theorem halfStep_lt (n f : Nat) (h : n < 4294967296) : halfStep n f < 4294967296 := by
  have hi : (n % 256 ^^^ f) % 16 < 16 := Nat.mod_lt _ (by omega)
  have ht : ∀ i : Nat, i < 16 → tabL.getD i 0 < 4294967296 := by decide
  exact Nat.xor_lt_two_pow (n := 32) (by omega) (ht _ hi)

/-! ### Unlike bytes -/

theorem byteStep_inj (n m : Nat) (b : UInt8) (hn : n < 4294967296) (hm : m < 4294967296) (h : byteStep n b = byteStep m b) : n = m := by
  have := bsteps_inj 8 _ _ (xor_byte_lt n b hn) (xor_byte_lt m b hm) h
  exact xor_right_cancel _ _ _ this

theorem byteStep_other (n : Nat) (a b : UInt8) (hn : n < 4294967296) (h : byteStep n a = byteStep n b) : a = b := by
  have := bsteps_inj 8 _ _ (xor_byte_lt n a hn) (xor_byte_lt n b hn) h
  exact UInt8.toNat_inj.1 (xor_left_cancel _ _ _ this)

theorem crcF_inj : ∀ (l : List UInt8) (n m : Nat), n < 4294967296 → m < 4294967296 → crcF n l = crcF m l → n = m
  | [], _, _, _, _, h => h
  | b :: l, n, m, hn, hm, h => byteStep_inj n m b hn hm (crcF_inj l _ _ (byteStep_lt n b hn) (byteStep_lt m b hm) h)

theorem crcSum_inj (l m : List UInt8) (h : crcSum l = crcSum m) : crcF 4294967295 l = crcF 4294967295 m := xor_right_cancel _ _ _ h

/-- One byte that is another one: another sum. -/
theorem crcSum_other (l m : List UInt8) (a b : UInt8) (h : crcSum (l ++ a :: m) = crcSum (l ++ b :: m)) : a = b := by
  have h1 := crcSum_inj _ _ h
  rw [crcF_append, crcF_append] at h1
  have hl := crcF_lt l 4294967295 (by omega)
  have h2 := crcF_inj m _ _ (byteStep_lt _ a hl) (byteStep_lt _ b hl) h1
  exact byteStep_other _ a b hl h2

/-! ### The sum of three texts' xor -/

def xor3 (a b c : UInt8) : UInt8 := a ^^^ b ^^^ c

theorem xor3_toNat (a b c : UInt8) : (xor3 a b c).toNat = a.toNat ^^^ b.toNat ^^^ c.toNat := by
  simp [xor3, UInt8.toNat_xor]

theorem xor6 (x y z a b c : Nat) : x ^^^ y ^^^ z ^^^ (a ^^^ b ^^^ c) = (x ^^^ a) ^^^ (y ^^^ b) ^^^ (z ^^^ c) := by
  apply Nat.eq_of_testBit_eq
  intro i
  simp only [Nat.testBit_xor]
  cases x.testBit i <;> cases y.testBit i <;> cases z.testBit i <;> cases a.testBit i <;> cases b.testBit i <;> cases c.testBit i <;> rfl

theorem byteStep_xor3 (x y z : Nat) (a b c : UInt8) : byteStep (x ^^^ y ^^^ z) (xor3 a b c) = byteStep x a ^^^ byteStep y b ^^^ byteStep z c := by
  unfold byteStep
  rw [xor3_toNat, xor6, bsteps_xor, bsteps_xor]

theorem xor_thrice (n : Nat) : n ^^^ n ^^^ n = n := by rw [Nat.xor_self, Nat.zero_xor]

def xorL : List UInt8 → List UInt8 → List UInt8 → List UInt8
  | a :: l, b :: m, c :: r => xor3 a b c :: xorL l m r
  | _, _, _ => []

theorem crcF_xor3 : ∀ (l m r : List UInt8) (x y z : Nat), m.length = l.length → r.length = l.length → crcF (x ^^^ y ^^^ z) (xorL l m r) = crcF x l ^^^ crcF y m ^^^ crcF z r
  | [], [], [], _, _, _, _, _ => rfl
  | a :: l, b :: m, c :: r, x, y, z, h1, h2 => by
    have ih := crcF_xor3 l m r (byteStep x a) (byteStep y b) (byteStep z c) (by simpa using h1) (by simpa using h2)
    show crcF (byteStep (x ^^^ y ^^^ z) (xor3 a b c)) (xorL l m r) = _
    rw [byteStep_xor3]
    exact ih
  | [], _ :: _, _, _, _, _, h, _ => by simp at h
  | [], [], _ :: _, _, _, _, _, h => by simp at h
  | _ :: _, [], _, _, _, _, h, _ => by simp at h
  | _ :: _, _ :: _, [], _, _, _, _, h => by simp at h

theorem crcSum_xor3 (l m r : List UInt8) (h1 : m.length = l.length) (h2 : r.length = l.length) : crcSum (xorL l m r) = crcSum l ^^^ crcSum m ^^^ crcSum r := by
  have h := crcF_xor3 l m r 4294967295 4294967295 4294967295 h1 h2
  rw [xor_thrice] at h
  unfold crcSum
  rw [h, ← xor6, xor_thrice]

/-! ### Sealed and opened -/

def be4 (n : Nat) : List UInt8 := [UInt8.ofNat (n / 16777216 % 256), UInt8.ofNat (n / 65536 % 256), UInt8.ofNat (n / 256 % 256), UInt8.ofNat (n % 256)]

theorem be4_length (n : Nat) : (be4 n).length = 4 := rfl

theorem ofNat_inj (a b : Nat) (ha : a < 256) (hb : b < 256) (h : UInt8.ofNat a = UInt8.ofNat b) : a = b := by
  have := congrArg UInt8.toNat h
  simp [UInt8.toNat_ofNat'] at this
  omega

theorem be4_inj (n m : Nat) (hn : n < 4294967296) (hm : m < 4294967296) (h : be4 n = be4 m) : n = m := by
  simp only [be4, List.cons.injEq, and_true] at h
  obtain ⟨h1, h2, h3, h4⟩ := h
  have := ofNat_inj _ _ (by omega) (by omega) h1
  have := ofNat_inj _ _ (by omega) (by omega) h2
  have := ofNat_inj _ _ (by omega) (by omega) h3
  have := ofNat_inj _ _ (by omega) (by omega) h4
  omega

def tailB (l : List UInt8) : List UInt8 := be4 (crcSum l)
def sealB (l : List UInt8) : List UInt8 := l ++ tailB l
def openB (l : List UInt8) : Option (List UInt8) :=
  if l.length < 4 then none
  else if l.drop (l.length - 4) = tailB (l.take (l.length - 4)) then some (l.take (l.length - 4)) else none

theorem tailB_length (l : List UInt8) : (tailB l).length = 4 := rfl
theorem sealB_length (l : List UInt8) : (sealB l).length = l.length + 4 := by simp [sealB, tailB_length]

theorem openB_sealB (l : List UInt8) : openB (sealB l) = some l := by
  have h : (sealB l).length - 4 = l.length := by rw [sealB_length]; omega
  unfold openB
  rw [if_neg (by rw [sealB_length]; omega), h]
  have h1 : (sealB l).drop l.length = tailB l := by simp [sealB]
  have h2 : (sealB l).take l.length = l := by simp [sealB]
  rw [h1, h2, if_pos rfl]

theorem openB_is (l m : List UInt8) (h : openB l = some m) : l = sealB m := by
  unfold openB at h
  split at h
  · cases h
  · split at h
    · rename_i hd
      cases h
      unfold sealB
      rw [← hd, List.take_append_drop]
    · cases h

/-- What is sealed, one byte another one, is not opened. -/
theorem openB_other (l : List UInt8) (i : Nat) (hi : i < (sealB l).length) (x : UInt8) (hx : x ≠ (sealB l)[i]) : openB ((sealB l).set i x) = none := by
  cases h : openB ((sealB l).set i x) with
  | none => rfl
  | some m =>
    exfalso
    have he := openB_is _ m h
    have hl : m.length = l.length := by
      have := congrArg List.length he
      rw [List.length_set, sealB_length, sealB_length] at this
      omega
    by_cases hp : i < l.length
    · have hs : (sealB l).set i x = l.set i x ++ tailB l := by simp [sealB, hp]
      rw [hs] at he
      have h1 : l.set i x = m := (List.append_inj he (by simp [hl])).1
      have h2 : tailB l = tailB m := (List.append_inj he (by simp [hl])).2
      have h3 := be4_inj _ _ (crcSum_lt l) (crcSum_lt m) h2
      have hg : (sealB l)[i] = l[i] := by simp [sealB, List.getElem_append_left hp]
      have hd : l = l.take i ++ l[i] :: l.drop (i + 1) := by rw [List.getElem_cons_drop, List.take_append_drop]
      have hd' : m = l.take i ++ x :: l.drop (i + 1) := by rw [← h1]; rw [List.set_eq_take_append_cons_drop, if_pos hp]
      apply hx
      rw [hg]
      have h5 : crcSum (l.take i ++ l[i] :: l.drop (i + 1)) = crcSum (l.take i ++ x :: l.drop (i + 1)) := by
        rw [← hd, ← hd', ← h1]
        have : m = l.set i x := h1.symm
        rw [← this]
        exact be4_inj _ _ (crcSum_lt l) (crcSum_lt m) h2
      exact (crcSum_other _ _ _ _ h5).symm
    · have hs : (sealB l).set i x = l ++ (tailB l).set (i - l.length) x := by unfold sealB; rw [List.set_append, if_neg hp]
      rw [hs] at he
      have h1 : l = m := (List.append_inj he hl.symm).1
      have h2 : (tailB l).set (i - l.length) x = tailB m := (List.append_inj he hl.symm).2
      subst h1
      have hj : i - l.length < (tailB l).length := by rw [tailB_length]; rw [sealB_length] at hi; omega
      have h3 : ((tailB l).set (i - l.length) x)[i - l.length]'(by simpa using hj) = (tailB l)[i - l.length] := by simp only [h2]
      rw [List.getElem_set_self] at h3
      apply hx
      rw [h3]
      simp only [sealB]
      rw [List.getElem_append_right (by omega)]

end Go.Proofs.YtjllpbckmioiiaaDoor


/- FPure, WiPure. -/
import Derived.Test.YtjllpbckmioiiaaDoorQ0
import Derived.Test.YtjllpbckmioiiaaDoorQ5
import Derived.Lib.ItoaNum
/- Plain facts on a text's frame and sectors: how they are laid, that they tell the text, that nothing shorter or longer is a text's, that one other byte behind the first two is found. Nothing here speaks of the program. -/
namespace Go.Proofs.YtjllpbckmioiiaaDoor
open Go
set_option maxRecDepth 100000

def nsec (n : Nat) : Nat := (n + 37) / 32
def pad (l : List UInt8) : List UInt8 := l ++ List.replicate (32 - l.length) 0
def len2 (n : Nat) : List UInt8 := [UInt8.ofNat (n / 256 % 256), UInt8.ofNat (n % 256)]
def headB (t : List UInt8) : List UInt8 := len2 t.length ++ be4 (crcSum t)
def rawB (t : List UInt8) : List UInt8 := headB t ++ t
def wholeB (t : List UInt8) : List UInt8 := rawB t ++ List.replicate (nsec t.length * 32 - 6 - t.length) 0
def secAt (f : List UInt8) (i : Nat) : List UInt8 := (f.drop (32 * i)).take 32
def chunks (k : Nat) (f : List UInt8) : List (List UInt8) := (List.range k).map (secAt f)
def cutsB (k : Nat) (f : List UInt8) : List (List UInt8) := (List.range k).map fun i => pad (secAt f i)
def secs (t : List UInt8) : List (List UInt8) := cutsB (nsec t.length) (rawB t)
def IsText (ps : List (List UInt8)) (t : List UInt8) : Prop := t.length ≤ 8192 ∧ ps = secs t

theorem headB_length (t : List UInt8) : (headB t).length = 6 := rfl
theorem rawB_length (t : List UInt8) : (rawB t).length = t.length + 6 := by simp [rawB, headB_length]; omega
theorem nsec_le (n : Nat) : n + 6 ≤ nsec n * 32 := by unfold nsec; omega
theorem nsec_pos (n : Nat) : 0 < nsec n := by unfold nsec; omega
theorem wholeB_length (t : List UInt8) : (wholeB t).length = 32 * nsec t.length := by
  have := nsec_le t.length
  simp [wholeB, rawB_length]; omega
theorem secs_length (t : List UInt8) : (secs t).length = nsec t.length := by simp [secs, cutsB]
theorem chunks_length (k : Nat) (f : List UInt8) : (chunks k f).length = k := by simp [chunks]
theorem cutsB_length (k : Nat) (f : List UInt8) : (cutsB k f).length = k := by simp [cutsB]
theorem cutsB_snoc (k : Nat) (f : List UInt8) : cutsB (k + 1) f = cutsB k f ++ [pad (secAt f k)] := by simp [cutsB, List.range_succ]
theorem chunks_snoc (k : Nat) (f : List UInt8) : chunks (k + 1) f = chunks k f ++ [secAt f k] := by simp [chunks, List.range_succ]
theorem secAt_length_le (f : List UInt8) (i : Nat) : (secAt f i).length ≤ 32 := by simp [secAt]; omega
theorem pad_length (l : List UInt8) (h : l.length ≤ 32) : (pad l).length = 32 := by simp [pad]; omega

theorem pad_secAt (t : List UInt8) (i : Nat) (h : i < nsec t.length) : pad (secAt (rawB t) i) = secAt (wholeB t) i := by
  have hl := rawB_length t
  have hn := nsec_le t.length
  have hi : 32 * i ≤ (rawB t).length := by unfold nsec at h; omega
  have ht : 32 * (i + 1) ≤ nsec t.length * 32 := by omega
  unfold pad secAt wholeB
  rw [List.drop_append_of_le_length hi, List.take_append, List.take_replicate, List.length_take, List.length_drop]
  congr 1
  congr 1
  omega

theorem secs_chunks (t : List UInt8) : secs t = chunks (nsec t.length) (wholeB t) := by
  unfold secs cutsB chunks
  apply List.map_congr_left
  intro i hi
  exact pad_secAt t i (by simpa using hi)

theorem flatten_chunks (f : List UInt8) : ∀ k, (chunks k f).flatten = f.take (32 * k)
  | 0 => by simp [chunks]
  | k + 1 => by
    rw [chunks_snoc, List.flatten_append, flatten_chunks f k]
    simp only [List.flatten_cons, List.flatten_nil, List.append_nil, secAt]
    rw [show 32 * (k + 1) = 32 * k + 32 from by omega, List.take_add]

theorem flatten_secs (t : List UInt8) : (secs t).flatten = wholeB t := by
  rw [secs_chunks, flatten_chunks, List.take_of_length_le]
  rw [wholeB_length]; exact Nat.le_refl _

theorem secs_each (t : List UInt8) (i : Nat) (h : i < (secs t).length) : (secs t)[i].length = 32 := by
  simp only [secs, cutsB, List.getElem_map]
  exact pad_length _ (secAt_length_le _ _)

theorem chunks_succ (k : Nat) (f : List UInt8) : chunks (k + 1) f = f.take 32 :: chunks k (f.drop 32) := by
  simp only [chunks, List.range_succ_eq_map, List.map_cons, List.map_map, secAt]
  congr 1
  apply List.map_congr_left
  intro i _
  simp only [Function.comp, secAt, List.drop_drop]
  rw [show 32 * (i + 1) = 32 + 32 * i from by omega]

theorem chunks_flatten : ∀ ps : List (List UInt8), (∀ i (h : i < ps.length), ps[i].length = 32) → chunks ps.length ps.flatten = ps
  | [], _ => rfl
  | p :: ps, h => by
    have h0 : p.length = 32 := h 0 (by simp)
    have ih := chunks_flatten ps fun i hi => h (i + 1) (Nat.succ_lt_succ hi)
    rw [List.length_cons, chunks_succ, List.flatten_cons, List.take_left' h0, List.drop_left' h0, ih]

theorem flatten_length32 : ∀ ps : List (List UInt8), (∀ i (h : i < ps.length), ps[i].length = 32) → ps.flatten.length = 32 * ps.length
  | [], _ => rfl
  | p :: ps, h => by
    have h0 : p.length = 32 := h 0 (by simp)
    have ih := flatten_length32 ps fun i hi => h (i + 1) (Nat.succ_lt_succ hi)
    rw [List.flatten_cons, List.length_append, ih, h0, List.length_cons]; omega

/-- Sectors that are together a text's frame are that text's. -/
theorem is_secs (ps : List (List UInt8)) (t : List UInt8) (h32 : ∀ i (h : i < ps.length), ps[i].length = 32) (h : ps.flatten = wholeB t) : ps = secs t := by
  have hl := flatten_length32 ps h32
  rw [h, wholeB_length] at hl
  have hn : ps.length = nsec t.length := by omega
  rw [secs_chunks, ← h, ← hn, chunks_flatten ps h32]

/-! ### What a frame's first bytes tell -/

theorem wholeB_0 (t : List UInt8) : (wholeB t)[0]? = some (UInt8.ofNat (t.length / 256 % 256)) := rfl
theorem wholeB_1 (t : List UInt8) : (wholeB t)[1]? = some (UInt8.ofNat (t.length % 256)) := rfl
theorem wholeB_take2 (t : List UInt8) : (wholeB t).take 2 = len2 t.length := rfl
theorem wholeB_take6 (t : List UInt8) : (wholeB t).take 6 = headB t := rfl
theorem wholeB_drop6 (t : List UInt8) : (wholeB t).drop 6 = t ++ List.replicate (nsec t.length * 32 - 6 - t.length) 0 := rfl
theorem wholeB_text (t : List UInt8) : ((wholeB t).drop 6).take t.length = t := by rw [wholeB_drop6]; simp

theorem len2_inj (n m : Nat) (hn : n < 65536) (hm : m < 65536) (h : len2 n = len2 m) : n = m := by
  simp only [len2, List.cons.injEq, and_true] at h
  have := ofNat_inj _ _ (by omega) (by omega) h.1
  have := ofNat_inj _ _ (by omega) (by omega) h.2
  omega

theorem len2_val (n : Nat) (h : n < 65536) : 256 * (UInt8.ofNat (n / 256 % 256)).toNat + (UInt8.ofNat (n % 256)).toNat = n := by
  simp [UInt8.toNat_ofNat']; omega

theorem wholeB_inj (t u : List UInt8) (ht : t.length < 65536) (hu : u.length < 65536) (h : wholeB t = wholeB u) : t = u := by
  have hl := len2_inj _ _ ht hu (by rw [← wholeB_take2, ← wholeB_take2, h])
  rw [← wholeB_text t, ← wholeB_text u, h, hl]

theorem secs_inj (t u : List UInt8) (ht : t.length < 65536) (hu : u.length < 65536) (h : secs t = secs u) : t = u :=
  wholeB_inj t u ht hu (by rw [← flatten_secs, ← flatten_secs, h])

theorem isText_one (ps : List (List UInt8)) (t u : List UInt8) (ht : IsText ps t) (hu : IsText ps u) : t = u :=
  secs_inj t u (by have := ht.1; omega) (by have := hu.1; omega) (by rw [← ht.2, ← hu.2])

theorem wholeB_firsts (t u r s : List UInt8) (ht : t.length < 65536) (hu : u.length < 65536) (p : List UInt8) (hp : 2 ≤ p.length) (h : wholeB t = p ++ r) (g : wholeB u = p ++ s) : t.length = u.length := by
  refine len2_inj _ _ ht hu ?_
  rw [← wholeB_take2, ← wholeB_take2, h, g, List.take_append_of_le_length hp, List.take_append_of_le_length hp]

/-- A text's sectors less the last one, and with one more, are no text's. -/
theorem less_none (t : List UInt8) (ht : t.length ≤ 8192) (u : List UInt8) (h : IsText ((secs t).take ((secs t).length - 1)) u) : False := by
  have hu := h.1
  have hl := congrArg List.length h.2
  rw [List.length_take, secs_length, secs_length] at hl
  have hnp := nsec_pos u.length
  have hnt := nsec_pos t.length
  have he : (secs t).take ((secs t).length - 1) = secs u := h.2
  have hf : secs t = secs u ++ (secs t).drop ((secs t).length - 1) := by rw [← he, List.take_append_drop]
  have hw := congrArg List.flatten hf
  rw [List.flatten_append, flatten_secs, flatten_secs] at hw
  have := wholeB_firsts t u _ [] (by omega) (by omega) (wholeB u) (by rw [wholeB_length]; omega) hw (by simp)
  rw [this] at hl
  omega

theorem more_none (t : List UInt8) (ht : t.length ≤ 8192) (z u : List UInt8) (h : IsText (secs t ++ [z]) u) : False := by
  have hu := h.1
  have hl := congrArg List.length h.2
  rw [List.length_append, secs_length, secs_length] at hl
  have hnt := nsec_pos t.length
  have hw := congrArg List.flatten h.2
  rw [List.flatten_append, flatten_secs, flatten_secs] at hw
  have := wholeB_firsts t u [] _ (by omega) (by omega) (wholeB t) (by rw [wholeB_length]; omega) (by simp) hw.symm
  rw [this] at hl
  simp at hl

/-- One byte behind the first two that is another one: no text's. -/
theorem other_whole (t u : List UInt8) (ht : t.length < 65536) (hu : u.length < 65536) (k : Nat) (hk2 : 2 ≤ k) (hk : k < (wholeB t).length) (x : UInt8) (hx : x ≠ (wholeB t)[k]) (h : wholeB u = (wholeB t).set k x) : False := by
  have hl : u.length = t.length := by
    refine len2_inj _ _ hu ht ?_
    rw [← wholeB_take2, ← wholeB_take2, h, List.take_set_of_le hk2]
  have hku : k < (wholeB u).length := by rw [h, List.length_set]; exact hk
  have hxu : (wholeB u)[k] = x := by simp only [h, List.getElem_set_self]
  have hr6 := rawB_length t
  by_cases h6 : k < 6
  · have hd : (wholeB u).drop 6 = (wholeB t).drop 6 := by rw [h, List.drop_set_of_lt h6]
    have hut : u = t := by rw [← wholeB_text u, ← wholeB_text t, hd, hl]
    subst hut
    exact hx hxu.symm
  · have hd : headB u = headB t := by rw [← wholeB_take6, ← wholeB_take6, h, List.take_set_of_le (by omega)]
    have hs : crcSum u = crcSum t := by
      have : (headB u).drop 2 = (headB t).drop 2 := by rw [hd]
      exact be4_inj _ _ (crcSum_lt u) (crcSum_lt t) this
    by_cases hkt : k - 6 < t.length
    · have hu' : u = t.set (k - 6) x := by
        have e := wholeB_text u
        rw [hl, h, List.drop_set, if_neg h6, List.take_set, wholeB_text t] at e
        exact e.symm
      have hxt : (wholeB t)[k] = t[k - 6] := by
        have e1 : (wholeB t)[k]? = ((wholeB t).drop 6)[k - 6]? := by rw [List.getElem?_drop]; congr 1; omega
        rw [wholeB_drop6, List.getElem?_append_left hkt, List.getElem?_eq_getElem hk, List.getElem?_eq_getElem hkt] at e1
        exact Option.some.inj e1
      have hd1 : t = t.take (k - 6) ++ t[k - 6] :: t.drop (k - 6 + 1) := by rw [List.getElem_cons_drop, List.take_append_drop]
      have hd2 : u = t.take (k - 6) ++ x :: t.drop (k - 6 + 1) := by rw [hu', List.set_eq_take_append_cons_drop, if_pos hkt]
      have h5 : crcSum (t.take (k - 6) ++ x :: t.drop (k - 6 + 1)) = crcSum (t.take (k - 6) ++ t[k - 6] :: t.drop (k - 6 + 1)) := by rw [← hd1, ← hd2]; exact hs
      exact hx (by rw [hxt]; exact crcSum_other _ _ _ _ h5)
    · have hz : ∀ v : List UInt8, v.length = t.length → ∀ hv : k < (wholeB v).length, (wholeB v)[k] = 0 := by
        intro v hvl hv
        have hvr := rawB_length v
        have : (wholeB v)[k]? = (List.replicate (nsec v.length * 32 - 6 - v.length) (0 : UInt8))[k - (rawB v).length]? := by
          unfold wholeB
          rw [List.getElem?_append_right (by omega)]
        rw [wholeB_length] at hv
        rw [List.getElem?_replicate, if_pos (by omega), List.getElem?_eq_getElem (by rw [wholeB_length]; exact hv)] at this
        exact Option.some.inj this
      exact hx (by rw [hz t rfl hk, ← hxu, hz u hl hku])

theorem set_flatten : ∀ (ps : List (List UInt8)) (_h32 : ∀ i (h : i < ps.length), ps[i].length = 32) (k : Nat) (hk : k / 32 < ps.length) (x : UInt8),
    (ps.set (k / 32) (ps[k / 32].set (k % 32) x)).flatten = ps.flatten.set k x
  | [], _, _, hk, _ => by simp at hk
  | p :: ps, h32, k, hk, x => by
    have h0 : p.length = 32 := h32 0 (by simp)
    have h32' : ∀ i (h : i < ps.length), ps[i].length = 32 := fun i hi => h32 (i + 1) (Nat.succ_lt_succ hi)
    by_cases hlt : k < 32
    · have hd : k / 32 = 0 := by omega
      have hm : k % 32 = k := by omega
      simp only [hd, hm, List.getElem_cons_zero, List.set_cons_zero, List.flatten_cons]
      rw [List.set_append, if_pos (by omega)]
    · obtain ⟨j, rfl⟩ : ∃ j, k = j + 32 := ⟨k - 32, by omega⟩
      have hd : (j + 32) / 32 = j / 32 + 1 := by omega
      have hm : (j + 32) % 32 = j % 32 := by omega
      have hj : j / 32 < ps.length := by simp at hk; omega
      have ih := set_flatten ps h32' j hj x
      simp only [hd, hm, List.getElem_cons_succ, List.set_cons_succ, List.flatten_cons]
      rw [ih, List.set_append, if_neg (by omega), h0]
      simp

theorem getElem_flatten32 : ∀ (ps : List (List UInt8)) (h32 : ∀ i (h : i < ps.length), ps[i].length = 32) (k : Nat) (hk : k / 32 < ps.length),
    ps.flatten[k]? = some (ps[k / 32][k % 32]'(by rw [h32 _ hk]; omega))
  | [], _, _, hk => by simp at hk
  | p :: ps, h32, k, hk => by
    have h0 : p.length = 32 := h32 0 (by simp)
    have h32' : ∀ i (h : i < ps.length), ps[i].length = 32 := fun i hi => h32 (i + 1) (Nat.succ_lt_succ hi)
    by_cases hlt : k < 32
    · have hd : k / 32 = 0 := by omega
      have hm : k % 32 = k := by omega
      simp only [hd, hm, List.getElem_cons_zero, List.flatten_cons]
      rw [List.getElem?_append_left (by omega), List.getElem?_eq_getElem]
    · obtain ⟨j, rfl⟩ : ∃ j, k = j + 32 := ⟨k - 32, by omega⟩
      have hd : (j + 32) / 32 = j / 32 + 1 := by omega
      have hm : (j + 32) % 32 = j % 32 := by omega
      have hj : j / 32 < ps.length := by simp at hk; omega
      have ih := getElem_flatten32 ps h32' j hj
      simp only [hd, hm, List.getElem_cons_succ, List.flatten_cons]
      rw [List.getElem?_append_right (by omega), h0, Nat.add_sub_cancel, ih]

/-- .. said of the sectors. -/
theorem other_none (t : List UInt8) (ht : t.length ≤ 8192) (k : Nat) (hk2 : 2 ≤ k) (hk : k / 32 < (secs t).length) (hm : k % 32 < (secs t)[k / 32].length) (x : UInt8) (hx : x ≠ (secs t)[k / 32][k % 32]) (u : List UInt8)
    (h : IsText ((secs t).set (k / 32) ((secs t)[k / 32].set (k % 32) x)) u) : False := by
  have hu := h.1
  have h32 := secs_each t
  have hw := congrArg List.flatten h.2
  rw [set_flatten _ h32 k hk, flatten_secs, flatten_secs] at hw
  have hl : k < (wholeB t).length := by rw [wholeB_length]; rw [secs_length] at hk; omega
  have hg := getElem_flatten32 (secs t) h32 k hk
  simp only [flatten_secs, List.getElem?_eq_getElem hl, Option.some.injEq] at hg
  exact other_whole t u (by omega) (by omega) k hk2 hl x (by rw [hg]; exact hx) hw.symm

/-! ### As many bytes behind a head as that says -/

def insB (f : List UInt8) : Option (List UInt8) :=
  match f with
  | a :: b :: _ :: _ :: _ :: _ :: r => if r.length < 256 * a.toNat + b.toNat then none else some (r.take (256 * a.toNat + b.toNat))
  | _ => none

theorem insB_short (f : List UInt8) (h : f.length < 6) : insB f = none := by
  unfold insB
  split
  · simp at h; omega
  · rfl

theorem insB_eq (f : List UInt8) (h : 6 ≤ f.length) : insB f = if f.length - 6 < 256 * f[0].toNat + f[1].toNat then none else some ((f.drop 6).take (256 * f[0].toNat + f[1].toNat)) := by
  match f, h with
  | a :: b :: _ :: _ :: _ :: _ :: r, _ => simp [insB]

theorem insB_whole (t : List UInt8) (ht : t.length < 65536) : insB (wholeB t) = some t := by
  have hl := nsec_le t.length
  have hw := wholeB_length t
  have h0 : (wholeB t)[0]'(by omega) = UInt8.ofNat (t.length / 256 % 256) := rfl
  have h1 : (wholeB t)[1]'(by omega) = UInt8.ofNat (t.length % 256) := rfl
  rw [insB_eq _ (by omega), h0, h1, len2_val _ ht, if_neg (by omega), wholeB_text]

end Go.Proofs.YtjllpbckmioiiaaDoor

/- Plain facts on numbers and lists of bytes: the digits of a number in base 256, the bytes that stand for a number and for a text, and how they are read. Nothing here speaks of the program. -/
namespace Go.Proofs.YtjllpbckmioiiaaDoor.wi
open Go
set_option maxRecDepth 100000

def digsF : Nat → Nat → List UInt8
  | 0, _ => []
  | f + 1, n => if n = 0 then [] else digsF f (n / 256) ++ [UInt8.ofNat (n % 256)]

def digs (n : Nat) : List UInt8 := digsF 8 n
def numB (n : Nat) : List UInt8 := UInt8.ofNat (digs n).length :: digs n
def textB (t : List UInt8) : List UInt8 := numB t.length ++ t

def valF : Nat → List UInt8 → Nat
  | a, [] => a
  | a, b :: l => valF (a * 256 + b.toNat) l
def val (l : List UInt8) : Nat := valF 0 l

theorem digsF_zero (f : Nat) : digsF f 0 = [] := by cases f <;> simp [digsF]

theorem digsF_more : ∀ (f n : Nat), n < 256 ^ f → digsF (f + 1) n = digsF f n
  | 0, n, h => by
    have : n = 0 := by simpa using h
    subst this; simp [digsF]
  | f + 1, n, h => by
    by_cases h0 : n = 0
    · subst h0; simp [digsF]
    · have h1 : n / 256 < 256 ^ f := by
        rw [Nat.pow_succ] at h
        exact (Nat.div_lt_iff_lt_mul (by omega)).2 h
      rw [digsF, if_neg h0, digsF_more f _ h1, digsF, if_neg h0]

theorem digs_zero : digs 0 = [] := rfl

theorem digs_pos (n : Nat) (h0 : n ≠ 0) (h : n < 18446744073709551616) : digs n = digs (n / 256) ++ [UInt8.ofNat (n % 256)] := by
  have h1 : n < 256 ^ 8 := by simpa using h
  have e : digs n = digsF 9 n := (digsF_more 8 n h1).symm
  rw [e, digsF, if_neg h0]; rfl

theorem digsF_len : ∀ (f n : Nat), (digsF f n).length ≤ f
  | 0, _ => by simp [digsF]
  | f + 1, n => by
    unfold digsF
    split
    · simp
    · have := digsF_len f (n / 256); simp; omega

theorem digs_len (n : Nat) : (digs n).length ≤ 8 := digsF_len 8 n

theorem digs_len_pos (n : Nat) (h0 : n ≠ 0) (h : n < 18446744073709551616) : 1 ≤ (digs n).length := by
  rw [digs_pos n h0 h]; simp

theorem bitLen_zero : Lib.bitLen 0 = 0 := by simp [Lib.bitLen, Lib.bitLenAux_zero]

theorem bitLen_pos (n : Nat) (h0 : n ≠ 0) (h : n < 18446744073709551616) : 1 ≤ Lib.bitLen n :=
  (Lib.bitLenAux_bounds 64 n (by simpa using h) h0).1

theorem count_eqF : ∀ (f n : Nat), f ≤ 8 → n < 256 ^ f → (Lib.bitLen n + 7) / 8 = (digsF f n).length
  | 0, n, _, h => by
    have : n = 0 := by simpa using h
    subst this; simp [digsF, bitLen_zero]
  | f + 1, n, hf, h => by
    by_cases h0 : n = 0
    · subst h0; simp [digsF, bitLen_zero]
    · have h1 : n / 256 < 256 ^ f := by
        rw [Nat.pow_succ] at h
        exact (Nat.div_lt_iff_lt_mul (by omega)).2 h
      have h64 : n < 18446744073709551616 := by
        have : 256 ^ (f + 1) ≤ 256 ^ 8 := Nat.pow_le_pow_right (by omega) hf
        have e : (256 : Nat) ^ 8 = 18446744073709551616 := by decide
        omega
      have ih := count_eqF f (n / 256) (by omega) h1
      rw [digsF, if_neg h0]
      simp only [List.length_append, List.length_cons, List.length_nil]
      by_cases hb : 256 ≤ n
      · rw [Lib.bitLen_shift8 n hb h64]; omega
      · have e : n / 256 = 0 := by omega
        rw [e, digsF_zero]
        have a := bitLen_pos n h0 h64
        have b := Lib.bitLen_le n 8 (by omega) (by omega)
        simp; omega

theorem count_eq (n : Nat) (h : n < 18446744073709551616) : (Lib.bitLen n + 7) / 8 = (digs n).length :=
  count_eqF 8 n (by omega) (by simpa using h)

theorem valF_append : ∀ (a : Nat) (l m : List UInt8), valF a (l ++ m) = valF (valF a l) m
  | _, [], _ => rfl
  | a, b :: l, m => by simp [valF, valF_append]

theorem val_snoc (l : List UInt8) (b : UInt8) : val (l ++ [b]) = val l * 256 + b.toNat := by
  simp [val, valF_append, valF]

theorem val_digsF : ∀ (f n : Nat), n < 256 ^ f → val (digsF f n) = n
  | 0, n, h => by
    have : n = 0 := by simpa using h
    subst this; rfl
  | f + 1, n, h => by
    by_cases h0 : n = 0
    · subst h0; simp [digsF, val, valF]
    · have h1 : n / 256 < 256 ^ f := by
        rw [Nat.pow_succ] at h
        exact (Nat.div_lt_iff_lt_mul (by omega)).2 h
      rw [digsF, if_neg h0, val_snoc, val_digsF f _ h1]
      have : (UInt8.ofNat (n % 256)).toNat = n % 256 := by
        simp [UInt8.toNat_ofNat']
      rw [this]; omega

theorem val_digs (n : Nat) (h : n < 18446744073709551616) : val (digs n) = n := val_digsF 8 n (by simpa using h)

theorem val_lt (l : List UInt8) : val l < 256 ^ l.length := by
  have key : ∀ (l : List UInt8) (a : Nat), valF a l < (a + 1) * 256 ^ l.length := by
    intro l
    induction l with
    | nil => intro a; simp [valF]
    | cons b l ih =>
      intro a
      have h := ih (a * 256 + b.toNat)
      have hb : b.toNat < 256 := b.toNat_lt
      simp only [valF, List.length_cons, Nat.pow_succ]
      calc valF (a * 256 + b.toNat) l < (a * 256 + b.toNat + 1) * 256 ^ l.length := h
        _ ≤ ((a + 1) * 256) * 256 ^ l.length := Nat.mul_le_mul_right _ (by omega)
        _ = (a + 1) * (256 ^ l.length * 256) := by rw [Nat.mul_assoc, Nat.mul_comm 256]
  have := key l 0
  simpa [val] using this

theorem val_lt64 (l : List UInt8) (h : l.length ≤ 8) : val l < 18446744073709551616 := by
  have a := val_lt l
  have b : 256 ^ l.length ≤ 256 ^ 8 := Nat.pow_le_pow_right (by omega) h
  have e : (256 : Nat) ^ 8 = 18446744073709551616 := by decide
  omega

/-- Digits without a 0 ahead are the digits of their number. -/
theorem digsF_val : ∀ (l : List UInt8) (f : Nat), l.length ≤ f → (∀ b m, l = b :: m → b ≠ 0) → digsF f (val l) = l := by
  intro l
  have key : ∀ (k : Nat) (l : List UInt8), l.length = k → ∀ f, l.length ≤ f → (∀ b m, l = b :: m → b ≠ 0) → digsF f (val l) = l ∧ (l ≠ [] → val l ≠ 0) := by
    intro k
    induction k with
    | zero =>
      intro l hl f _ _
      have : l = [] := List.length_eq_zero_iff.1 hl
      subst this
      exact ⟨digsF_zero f, fun h => absurd rfl h⟩
    | succ k ih =>
      intro l hl f hf hz
      have hne : l ≠ [] := by intro h; subst h; simp at hl
      have hs : l = l.dropLast ++ [l.getLast hne] := (List.dropLast_concat_getLast hne).symm
      generalize l.dropLast = p at hs
      generalize l.getLast hne = b at hs
      subst hs
      have hp : p.length = k := by simpa using hl
      obtain ⟨f, rfl⟩ : ∃ g, f = g + 1 := ⟨f - 1, by simp at hf; omega⟩
      have ihp := ih p hp f (by simp at hf; omega) (fun c m h => hz c (m ++ [b]) (by rw [h]; rfl))
      have hb : b.toNat < 256 := b.toNat_lt
      rw [val_snoc]
      have hnz : val p * 256 + b.toNat ≠ 0 := by
        by_cases hpe : p = []
        · subst hpe
          have hb0 := hz b [] rfl
          have : b.toNat ≠ 0 := fun h => hb0 (by apply UInt8.toNat_inj.1; simpa using h)
          omega
        · have := ihp.2 hpe; omega
      refine ⟨?_, fun _ => hnz⟩
      rw [digsF, if_neg hnz, show (val p * 256 + b.toNat) / 256 = val p by omega, ihp.1, show (val p * 256 + b.toNat) % 256 = b.toNat by omega]
      simp
  intro f hf hz
  exact (key l.length l rfl f hf hz).1

theorem digs_val (l : List UInt8) (hl : l.length ≤ 8) (hz : ∀ b m, l = b :: m → b ≠ 0) : digs (val l) = l := digsF_val l 8 hl hz

theorem digs_head (n : Nat) (h : n < 18446744073709551616) (b : UInt8) (m : List UInt8) (e : digs n = b :: m) : b ≠ 0 := by
  have key : ∀ (f n : Nat), n < 256 ^ f → ∀ b m, digsF f n = b :: m → b ≠ 0 := by
    intro f
    induction f with
    | zero => intro n _ b m e; simp [digsF] at e
    | succ f ih =>
      intro n hn b m e
      by_cases h0 : n = 0
      · subst h0; simp [digsF] at e
      · have h1 : n / 256 < 256 ^ f := by
          rw [Nat.pow_succ] at hn
          exact (Nat.div_lt_iff_lt_mul (by omega)).2 hn
        rw [digsF, if_neg h0] at e
        by_cases hq : n / 256 = 0
        · rw [hq, digsF_zero] at e
          simp at e
          intro hb
          have : (UInt8.ofNat (n % 256)).toNat = 0 := by rw [e.1, hb]; rfl
          simp [UInt8.toNat_ofNat'] at this
          omega
        · cases hd : digsF f (n / 256) with
          | nil =>
            have v := val_digsF f _ h1
            rw [hd] at v
            exact absurd v.symm hq
          | cons c r =>
            rw [hd] at e
            simp at e
            rw [← e.1]
            exact ih _ h1 c r hd
  exact key 8 n (by simpa using h) b m e

/-! ### Reading -/

/-- What is left, read as a number's bytes: the number and what is left behind it; nothing where none begins there. -/
def rdNum (l : List UInt8) : Option (Nat × List UInt8) :=
  match l with
  | [] => none
  | k :: r =>
    if 8 < k.toNat then none
    else if r.length < k.toNat then none
    else if (r.take k.toNat).head? = some 0 then none
    else some (val (r.take k.toNat), r.drop k.toNat)

def rdText (l : List UInt8) : Option (List UInt8 × List UInt8) :=
  match rdNum l with
  | none => none
  | some (n, r) => if r.length < n then none else some (r.take n, r.drop n)


/-- A number's bytes, whatever stands behind them, are read as the number. -/
theorem rdNum_put (n : Nat) (h : n < 18446744073709551616) (r : List UInt8) : rdNum (numB n ++ r) = some (n, r) := by
  have hl := digs_len n
  have e : (UInt8.ofNat (digs n).length).toNat = (digs n).length := ofNat_small _ (by omega)
  have ht : (digs n ++ r).take (digs n).length = digs n := by simp
  have hh : ¬ (digs n).head? = some 0 := by
    intro hc
    cases hd : digs n with
    | nil => rw [hd] at hc; simp at hc
    | cons b m =>
      rw [hd] at hc
      simp at hc
      exact digs_head n h b m hd hc
  show rdNum (UInt8.ofNat (digs n).length :: (digs n ++ r)) = _
  unfold rdNum
  simp only [e]
  rw [if_neg (by omega), if_neg (by simp), ht, if_neg hh, val_digs n h]
  simp

theorem rdText_put (t : List UInt8) (h : t.length < 18446744073709551616) (r : List UInt8) : rdText (textB t ++ r) = some (t, r) := by
  unfold rdText textB
  rw [List.append_assoc, rdNum_put _ h]
  simp

/-- What is read as a number is that number's bytes. -/
theorem rdNum_is (l : List UInt8) (n : Nat) (r : List UInt8) (h : rdNum l = some (n, r)) : l = numB n ++ r ∧ n < 18446744073709551616 := by
  cases l with
  | nil => simp [rdNum] at h
  | cons k q =>
    unfold rdNum at h
    by_cases h1 : 8 < k.toNat
    · simp [h1] at h
    by_cases h2 : q.length < k.toNat
    · simp [h1, h2] at h
    by_cases h3 : (q.take k.toNat).head? = some 0
    · simp [h1, h2, h3] at h
    · simp only [h1, h2, h3, if_false, Option.some.injEq, Prod.mk.injEq] at h
      obtain ⟨rfl, rfl⟩ := h
      have hl : (q.take k.toNat).length = k.toNat := by simp; omega
      have hz : ∀ b m, q.take k.toNat = b :: m → b ≠ 0 := by
        intro b m e hb
        apply h3
        rw [e, hb]; rfl
      have hd := digs_val (q.take k.toNat) (by omega) hz
      refine ⟨?_, val_lt64 _ (by omega)⟩
      unfold numB
      rw [hd, hl]
      have ek : UInt8.ofNat k.toNat = k := by simp
      rw [ek]
      simp

theorem rdText_is (l t r : List UInt8) (h : rdText l = some (t, r)) : l = textB t ++ r := by
  unfold rdText at h
  cases hn : rdNum l with
  | none => simp [hn] at h
  | some p =>
    obtain ⟨n, q⟩ := p
    simp only [hn] at h
    by_cases hq : q.length < n
    · simp [hq] at h
    · simp only [hq, if_false, Option.some.injEq, Prod.mk.injEq] at h
      obtain ⟨rfl, rfl⟩ := h
      have := (rdNum_is l n q hn).1
      unfold textB
      have hl : (q.take n).length = n := by simp; omega
      rw [hl, this]
      simp

/-- No beginning of a number's bytes is one's. -/
theorem rdNum_cut (n : Nat) (h : n < 18446744073709551616) (i : Nat) (hi : i < (numB n).length) : rdNum ((numB n).take i) = none := by
  cases hc : rdNum ((numB n).take i) with
  | none => rfl
  | some p =>
    obtain ⟨m, r⟩ := p
    have h1 := rdNum_is _ m r hc
    have h2 : numB n = numB m ++ (r ++ (numB n).drop i) := by
      rw [← List.append_assoc, ← h1.1, List.take_append_drop]
    have h3 := rdNum_put n h []
    rw [List.append_nil, h2, rdNum_put m h1.2] at h3
    simp only [Option.some.injEq, Prod.mk.injEq] at h3
    have h4 : (numB n).drop i = [] := by
      have := h3.2
      simp at this
      have h5 := this.2
      simpa using h5
    have h6 : (numB n).length ≤ i := by simpa using h4
    omega

/-! ### Strings as lists of bytes -/



def flat (ps : List ByteArray) : List UInt8 := (ps.map bl).flatten

theorem flat_snoc (ps : List ByteArray) (k : Nat) (h : k < ps.length) : flat (ps.take (k + 1)) = flat (ps.take k) ++ bl ps[k] := by
  unfold flat
  rw [List.take_succ_eq_append_getElem h, List.map_append, List.flatten_append]
  simp

theorem flat_take_len (ps : List ByteArray) (k : Nat) : (flat (ps.take k)).length ≤ (flat ps).length := by
  have : flat ps = flat (ps.take k) ++ flat (ps.drop k) := by
    unfold flat
    rw [← List.flatten_append, ← List.map_append, List.take_append_drop]
  rw [this]; simp

end Go.Proofs.YtjllpbckmioiiaaDoor.wi


/- What the calls that lay numbers and texts as bytes do: count, size, digits, put, PutNum and PutText of package wire, one contract each. -/
import Derived.Test.YtijjpnpjdnddoaaShelf
import Derived.Test.YtijjpnpjdnddoaaPure
import Derived.WalkKit
import Derived.WalkSpells
import Derived.WalkLawsBesides
import Derived.BigCall
import Derived.Lib.Hide
namespace Go.Proofs.Ytijjpnpjdnddoaa
open Go.RowKit

theorem below_step {w A B : World} (h : Below w.heap.size w A) (g : Below A.heap.size A B) : Below w.heap.size w B := h.trans (g.mono h.size)
theorem below_new {w A : World} (h : Below w.heap.size w A) (o : Obj) : Below w.heap.size w (A.alloc o) := h.alloc h.size o

set_option maxHeartbeats 400000 in
theorem count_any (n : Int) (w : World) (h0 : 0 ≤ n) (h1 : n ≤ 18446744073709551615) :
    Calls Try.prog 32 #[.int .u64 n] w fun e w' => e = .returned (.int .i64 ((digs n.toNat).length : Nat)) ∧ w = w' := by
  have hc := count_eq n.toNat (by omega)
  have hb : Lib.bitLen n.toNat ≤ 64 := Lib.bitLen_le _ 64 (by omega) (by omega)
  have e1 : ((digs n.toNat).length : Int) = ((Lib.bitLen n.toNat : Nat) + 7 : Int) / 8 := by omega
  have E1 := Lib.hid e1
  clear e1 hc
  go_enter Try.func32, Try.ntmps32
  go_wp2_with (go_at_call 35; refine (Try.bits_Len64 n _ h0 h1).mono ?_; rintro e w' ⟨rfl, rfl⟩)
  go_ret
  exact ⟨by rw [E1.out]; rfl, rfl⟩

theorem Try.info5 : (Try.prog.info? 5).map (fun i => (i.zero, i.size, i.bytes)) = some (some (.int .u8 0), 1, 1) := by kernel_rfl

def okSize (n : Nat) (w : World) (e : Ending) (w' : World) : Prop :=
  e = .returned (.string (str [UInt8.ofNat (digs n).length])) ∧ Below w.heap.size w w'

theorem conv1 (k : Nat) (hk : k < 256) (w : World) :
    (convert 42 9 (.slice (some ⟨w.heap.size, 0, none⟩) 1 1)).run Try.prog (w.alloc (.cells #[.int .u8 (k : Int)] 5)) = .ok (.string (str [UInt8.ofNat k])) (w.alloc (.cells #[.int .u8 (k : Int)] 5)) := by
  refine run_convert_bytes_back (P := Try.prog) _ 42 9 5 ⟨w.heap.size, 0, none⟩ 1 [UInt8.ofNat k] Try.underlying42 Try.underlying5 Try.underlying9 ?_
  intro j hj
  have : j = 0 := by simpa using hj
  subst this
  have e : (UInt8.ofNat k).toNat = k := ofNat_small k hk
  simp [Addr.add, e, World.cell?, World.alloc, -World.alloc_eq]

set_option maxHeartbeats 400000 in
theorem size_any (n : Int) (w : World) (h0 : 0 ≤ n) (h1 : n ≤ 18446744073709551615) :
    Calls Try.prog 23 #[.int .u64 n] w (okSize n.toNat w) := by
  have hl := digs_len n.toNat
  have hcv := conv1 (digs n.toNat).length (by omega) w
  go_enter Try.func23, Try.ntmps23
  go_wp2_with (go_at_call 32; refine (count_any n _ h0 h1).mono ?_; rintro e w' ⟨rfl, rfl⟩)
  go_ret
  exact ⟨rfl, (Below.refl _ _).alloc (Nat.le_refl _) _⟩

theorem addr_add (b o j : Nat) : (⟨b, o, none⟩ : Addr).add j = ⟨b, o + j, none⟩ := by
  unfold Addr.add
  split
  · subst_vars; rfl
  · rfl

def digCells (D : List UInt8) (k : Nat) : List Value := List.replicate k (.int .u8 0) ++ Lib.byteCells (D.drop k)

def okDigits (n : Nat) (w : World) (e : Ending) (w' : World) : Prop :=
  e = .returned (.string (str (digs n))) ∧ Below w.heap.size w w'

def DigRel (D : List UInt8) (w : World) (n i : Value) (wr : World) : Prop :=
  ∃ k m : Nat, i = .int .i64 ((k : Int) - 1) ∧ n = .int .u64 (m : Int) ∧ m < 18446744073709551616 ∧ digs m = D.take k ∧ k ≤ D.length ∧
    wr.ownsRow w.heap.size 5 1 (.slice (some ⟨w.heap.size, 0, none⟩) D.length D.length) D.length (digCells D k) ∧ Below w.heap.size w wr

theorem digCells_len (D : List UInt8) (k : Nat) (h : k ≤ D.length) : (digCells D k).length = D.length := by
  simp [digCells, Lib.byteCells_length]; omega

theorem digCells_set (D : List UInt8) (k : Nat) (h : k < D.length) : (digCells D (k + 1)).set k (.int .u8 (D[k].toNat : Int)) = digCells D k := by
  unfold digCells
  rw [List.replicate_succ', List.append_assoc, List.set_append_right _ _ (by simp), List.length_replicate, Nat.sub_self, List.drop_eq_getElem_cons h]
  rfl

theorem dig_last (D : List UInt8) (m k : Nat) (hm : m < 18446744073709551616) (hk : k < D.length) (h : digs m = D.take (k + 1)) :
    m ≠ 0 ∧ digs (m / 256) = D.take k ∧ D[k].toNat = m % 256 := by
  have h0 : m ≠ 0 := by
    intro e
    subst e
    have := congrArg List.length h
    simp [digs_zero] at this
    omega
  have e := digs_pos m h0 hm
  rw [h, List.take_succ_eq_append_getElem hk] at e
  have e' := List.append_inj' e rfl
  refine ⟨h0, e'.1.symm, ?_⟩
  have := e'.2
  simp at this
  rw [this, ofNat_small _ (by omega)]

set_option maxHeartbeats 400000 in
theorem digits_any (n : Int) (w : World) (h0 : 0 ≤ n) (h1 : n ≤ 18446744073709551615) :
    Calls Try.prog 24 #[.int .u64 n] w (okDigits n.toNat w) := by
  have hl := digs_len n.toNat
  obtain ⟨i0, hi, hz0, hz1, hz2⟩ := info_parts Try.info5
  have hmk := run_make (P := Try.prog) w 42 5 i0 (.int .u8 0) Try.underlying42 hi hz0 .i64 .i64 ((digs n.toNat).length : Int) ((digs n.toNat).length : Int) (by omega) (by omega) (by rw [hz2]; omega) (by omega)
  have hown0 : (w.alloc (.cells (madeCells #[.int .u8 0] (digs n.toNat).length) 5)).ownsRow w.heap.size 5 1 (.slice (some ⟨w.heap.size, 0, none⟩) (digs n.toNat).length (digs n.toNat).length) (digs n.toNat).length (digCells (digs n.toNat) (digs n.toNat).length) := by
    have := World.ownsRow_lit (e := 5) (size := 1) (base := w.heap.size) w (madeCells #[.int .u8 0] (digs n.toNat).length) (digs n.toNat).length (Nat.le_refl _) (by unfold maxLen; omega) (by simp [size_madeCells])
    have e : (madeCells #[.int .u8 0] (digs n.toNat).length).toList = digCells (digs n.toNat) (digs n.toNat).length := by
      apply List.ext_getElem?
      intro j
      by_cases hj : j < (digs n.toNat).length <;> simp [madeCells, digCells, Lib.byteCells, hj, Nat.mod_one]
    rw [← e]
    exact this
  have hb0 : Below w.heap.size w (w.alloc (.cells (madeCells #[.int .u8 0] (digs n.toNat).length) 5)) := (Below.refl _ _).alloc (Nat.le_refl _) _
  have hn : ((n.toNat : Nat) : Int) = n := by omega
  have Hn := Lib.hid hn
  clear hn
  rw [hz1] at hmk
  clear hi hz0 hz1 hz2
  go_enter Try.func24, Try.ntmps24
  go_wp2_with (go_at_call 32; refine (count_any n _ h0 h1).mono ?_; rintro e w' ⟨rfl, rfl⟩)
  go_loopw [0, 4] (fun n' i wr => DigRel (digs n.toNat) w n' i wr) (fun _ i _ => (intOf i + 1).toNat)
  case atStart => exact ⟨(digs n.toNat).length, n.toNat, rfl, by rw [Hn.out], by omega, by simp, Nat.le_refl _, hown0, hb0⟩
  case round =>
    obtain ⟨k, m, rfl, rfl, hm, hd, hk, hown, hb⟩ := hrel
    cases k with
    | zero =>
      have hcv := run_convert_bytes_back (P := Try.prog) wr 42 9 5 ⟨w.heap.size, 0, none⟩ (digs n.toNat).length (digs n.toNat) Try.underlying42 Try.underlying5 Try.underlying9 (by
        intro j hj
        have := hown.cellAt j (by omega)
        rw [addr_add, Nat.zero_add, this]
        simp [digCells, Lib.byteCells, List.getElem?_eq_getElem hj])
      have hcv' : (convert 42 9 (.slice (some ⟨w.heap.size, 0, none⟩) (digs n.toNat).length (digs n.toNat).length)).run Try.prog wr = .ok (.string (str (digs n.toNat))) wr := hcv
      clear hcv
      go_wp2
      go_ret
      exact ⟨rfl, hb⟩
    | succ k =>
      have hx := hown.cellAt k (by omega)
      rw [show (digCells (digs n.toNat) (k + 1))[k]? = some (.int .u8 0) from by simp [digCells, List.getElem?_append]] at hx
      have hf := hown.frozenAt k
      have hs := hown.stored k (.int .u8 (((digs n.toNat)[k]'(by omega)).toNat : Int))
      rw [digCells_set _ _ (by omega)] at hs
      obtain ⟨hs1, hs2⟩ := hs
      obtain ⟨hm0, hd', hlast⟩ := dig_last (digs n.toNat) m k hm (by omega) hd
      have Hs1 := Lib.hid hs1
      have Hs2 := Lib.hid hs2
      have Hd := Lib.hid hd'
      have Hl := Lib.hid hlast
      clear hs1 hs2 hd' hlast hd hown
      go_wp2
      have e : ((m : Int) % 256) = (((digs n.toNat)[k]'(by omega)).toNat : Int) := by rw [Hl.out]; omega
      rw [e]
      exact ⟨⟨k, m / 256, rfl, rfl, by omega, Hd.out, by omega, Hs1.out, hb.grown Hs2.out (by have := hb.size; omega) (fun j hj => by cases hj; exact Nat.le_refl _)⟩, by simp [intOf]⟩

theorem size_nat (n : Nat) (w : World) (h : n < 18446744073709551616) : Calls Try.prog 23 #[.int .u64 (n : Int)] w (okSize n w) := by
  have := size_any (n : Int) w (by omega) (by omega)
  rwa [Int.toNat_natCast] at this

theorem digits_nat (n : Nat) (w : World) (h : n < 18446744073709551616) : Calls Try.prog 24 #[.int .u64 (n : Int)] w (okDigits n w) := by
  have := digits_any (n : Int) w (by omega) (by omega)
  rwa [Int.toNat_natCast] at this

/-- The cells of a slice of strings. -/
def StrCells (w : World) (b o : Nat) (ps : List ByteArray) : Prop := ∀ i (h : i < ps.length), w.cell? ⟨b, o + i, none⟩ = some (.string ps[i])

def okPut (s : ByteArray) (ps : List ByteArray) (w : World) (e : Ending) (w' : World) : Prop :=
  e = .returned (.string (str (bl s ++ flat ps))) ∧ Below w.heap.size w w'

def PutRel (s : ByteArray) (ps : List ByteArray) (w : World) (i : Value) (wr : World) : Prop :=
  ∃ k : Nat, k ≤ ps.length ∧ i = .int .i64 (k : Int) ∧ Lib.IsBuilder 51 5 w.heap.size w.heap.size (Lib.byteCells (bl s ++ flat (ps.take k))) wr ∧ Below w.heap.size w wr

set_option maxHeartbeats 400000 in
theorem put_any (s : ByteArray) (b o c : Nat) (ps : List ByteArray) (w : World) (hb : b < w.heap.size) (hc : StrCells w b o ps) (hl : ps.length ≤ 1000000) (hs : s.size + (flat ps).length ≤ 140737488355328) :
    Calls Try.prog 22 #[.string s, .slice (some ⟨b, o, none⟩) ps.length c] w (okPut s ps w) := by
  have h0 : Lib.IsBuilder 51 5 w.heap.size w.heap.size [] (w.alloc (.cells #[.pointer none, .slice none 0 0] 51)) := Lib.fresh_isBuilder 51 5 w
  have b0 : Below w.heap.size w (w.alloc (.cells #[.pointer none, .slice none 0 0] 51)) := (Below.refl _ w).alloc (Nat.le_refl _) _
  go_enter Try.func22, Try.ntmps22
  go_wp2_with (go_at_call 30; refine (Try.Builder_WriteString w.heap.size w.heap.size [] s _ h0 (by simp; omega) b0.size).mono ?_)
  rintro e W1 ⟨rfl, h1, b1⟩
  have h1' : Lib.IsBuilder 51 5 w.heap.size w.heap.size (Lib.byteCells (bl s)) W1 := by
    rw [List.nil_append, Lib.strCells_eq] at h1
    exact Or.inr h1
  have b1' := b0.trans b1
  clear h1 b1 h0 b0
  go_wp2
  go_loopw [12] (fun i wr => PutRel s ps w i wr) (fun i _ => ps.length - (intOf i).toNat)
  case atStart => exact ⟨0, Nat.zero_le _, rfl, by simpa [flat] using h1', b1'⟩
  case round =>
    obtain ⟨k, hk, rfl, hI, hB⟩ := hrel
    by_cases hlt : k < ps.length
    · have hcell : wr.cell? ⟨b, o + k, none⟩ = some (.string ps[k]) := by
        rw [hB.cell (p := ⟨b, o + k, none⟩) hb]; exact hc k hlt
      have hfl := flat_snoc ps k hlt
      have hfm := flat_take_len ps (k + 1)
      have hbl := bl_len s
      have hbp := bl_len ps[k]
      have hlen : (Lib.byteCells (bl s ++ flat (ps.take k))).length + ps[k].size ≤ 140737488355328 := by
        rw [Lib.byteCells_length]
        rw [hfl] at hfm
        simp at hfm ⊢
        omega
      have Hfl := Lib.hid hfl
      clear hfl hfm hbl hbp
      go_wp2_with (go_at_call 30; refine (Try.Builder_WriteString w.heap.size w.heap.size _ ps[k] _ hI hlen hB.size).mono ?_)
      rintro e W2 ⟨rfl, h2, b2⟩
      have h2' : Lib.IsBuilder 51 5 w.heap.size w.heap.size (Lib.byteCells (bl s ++ flat (ps.take (k + 1)))) W2 := by
        rw [Lib.strCells_eq, ← Lib.byteCells_append] at h2
        rw [Hfl.out, ← List.append_assoc]
        exact Or.inr h2
      have b2' := hB.trans b2
      clear h2 b2 hI hB
      go_wp2
      go_roundw
      case rel => exact ⟨k + 1, by omega, by go_num, h2', b2'⟩
      case measure => simp [intOf]; omega
    · have hk' : k = ps.length := by omega
      subst hk'
      rw [List.take_length] at hI
      go_wp2_with (go_at_call 31; refine (Try.Builder_String_any w.heap.size w.heap.size _ _ hI hB.size).mono ?_)
      rintro e W2 ⟨rfl, b2⟩
      have b2' := hB.trans b2
      clear b2 hI hB
      go_wp2
      go_ret
      exact ⟨rfl, b2'⟩

theorem strCells_new (ps : List ByteArray) (w : World) : StrCells (w.alloc (.cells (ps.map Value.string).toArray 9)) w.heap.size 0 ps := by
  intro i h
  simp [World.cell?, World.alloc, -World.alloc_eq]

theorem strCells_two (a b : ByteArray) (w : World) : StrCells (w.alloc (.cells #[.string a, .string b] 9)) w.heap.size 0 [a, b] := strCells_new [a, b] w
theorem strCells_three (a b c : ByteArray) (w : World) : StrCells (w.alloc (.cells #[.string a, .string b, .string c] 9)) w.heap.size 0 [a, b, c] := strCells_new [a, b, c] w

def okPutNum (s : ByteArray) (n : Nat) (w : World) (e : Ending) (w' : World) : Prop :=
  e = .returned (.string (str (bl s ++ numB n))) ∧ Below w.heap.size w w'

set_option maxHeartbeats 400000 in
theorem putNum_any (s : ByteArray) (n : Int) (w : World) (h0 : 0 ≤ n) (h1 : n ≤ 18446744073709551615) (hs : s.size ≤ 140737488355000) :
    Calls Try.prog 8 #[.string s, .int .u64 n] w (okPutNum s n.toNat w) := by
  have hl := digs_len n.toNat
  go_enter Try.func8, Try.ntmps8
  go_wp2_with (go_at_call 23; refine (size_any n _ h0 h1).mono ?_)
  rintro e W1 ⟨rfl, b1⟩
  go_wp2_with (go_at_call 24; refine (digits_any n _ h0 h1).mono ?_)
  rintro e W2 ⟨rfl, b2⟩
  go_wp2_with (go_at_call 22; refine (put_any s W2.heap.size 0 2 [str [UInt8.ofNat (digs n.toNat).length], str (digs n.toNat)] _ ?_ (strCells_two _ _ _) (by simp) ?_).mono ?_)
  · simp
  · simp [flat, bl_str]; omega
  · rintro e W3 ⟨rfl, b3⟩
    have b' := below_step (below_new (below_step b1 b2) _) b3
    clear b1 b2 b3
    go_wp2
    go_ret
    exact ⟨by simp [flat, bl_str, numB], b'⟩

theorem putNum_nat (s : ByteArray) (n : Nat) (w : World) (h : n < 18446744073709551616) (hs : s.size ≤ 140737488355000) :
    Calls Try.prog 8 #[.string s, .int .u64 (n : Int)] w (okPutNum s n w) := by
  have := putNum_any s (n : Int) w (by omega) (by omega) hs
  rwa [Int.toNat_natCast] at this

def okPutText (s t : ByteArray) (w : World) (e : Ending) (w' : World) : Prop :=
  e = .returned (.string (str (bl s ++ textB (bl t)))) ∧ Below w.heap.size w w'

set_option maxHeartbeats 400000 in
theorem putText_any (s t : ByteArray) (w : World) (hs : s.size ≤ 70368744177000) (ht : t.size ≤ 70368744177000) :
    Calls Try.prog 10 #[.string s, .string t] w (okPutText s t w) := by
  have hl := digs_len t.size
  have hbl := bl_len t
  have Hbl := Lib.hid hbl
  clear hbl
  go_enter Try.func10, Try.ntmps10
  go_wp2_with (go_at_call 23; refine (size_nat t.size _ (by omega)).mono ?_)
  rintro e W1 ⟨rfl, b1⟩
  go_wp2_with (go_at_call 24; refine (digits_nat t.size _ (by omega)).mono ?_)
  rintro e W2 ⟨rfl, b2⟩
  go_wp2_with (go_at_call 22; refine (put_any s W2.heap.size 0 3 [str [UInt8.ofNat (digs t.size).length], str (digs t.size), t] _ ?_ (strCells_three _ _ _ _) (by simp) ?_).mono ?_)
  · simp
  · have := Hbl.out
    simp [flat, bl_str]; omega
  · rintro e W3 ⟨rfl, b3⟩
    have b' := below_step (below_new (below_step b1 b2) _) b3
    clear b1 b2 b3
    go_wp2
    go_ret
    exact ⟨by simp [flat, bl_str, textB, numB, Hbl.out], b'⟩

end Go.Proofs.Ytijjpnpjdnddoaa

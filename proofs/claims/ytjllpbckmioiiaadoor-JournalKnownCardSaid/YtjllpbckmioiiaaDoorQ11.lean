/- WiPut, WiRead. -/
import Derived.Test.YtjllpbckmioiiaaDoorQ10
import Derived.Test.YtjllpbckmioiiaaDoorQ3
import Derived.Test.YtjllpbckmioiiaaDoorQ6
import Derived.WalkKit
import Derived.WalkSpells
import Derived.WalkLawsBesides
import Derived.BigCall
import Derived.Lib.Hide
import Derived.Lib.ConvBytes
/- What the calls that lay numbers and texts as bytes do: count, size, digits, put, PutNum and PutText of package wire, one contract each. -/
namespace Go.Proofs.YtjllpbckmioiiaaDoor.wi
open Go.RowKit
set_option maxRecDepth 100000


set_option maxHeartbeats 400000 in
theorem count_any (n : Int) (w : World) (h0 : 0 ≤ n) (h1 : n ≤ 18446744073709551615) :
    Calls Tryd.prog 82 #[.int .u64 n] w fun e w' => e = .returned (.int .i64 ((digs n.toNat).length : Nat)) ∧ w = w' := by
  have hc := count_eq n.toNat (by omega)
  have hb : Lib.bitLen n.toNat ≤ 64 := Lib.bitLen_le _ 64 (by omega) (by omega)
  have e1 : ((digs n.toNat).length : Int) = ((Lib.bitLen n.toNat : Nat) + 7 : Int) / 8 := by omega
  have E1 := Lib.hid e1
  clear e1 hc
  go_enter Tryd.func82, Tryd.ntmps82
  go_wp2_with (go_at_call 90; refine (Tryd.bits_Len64 n _ h0 h1).mono ?_; rintro e w' ⟨rfl, rfl⟩)
  go_ret
  exact ⟨by rw [E1.out]; rfl, rfl⟩


def okSize (n : Nat) (w : World) (e : Ending) (w' : World) : Prop :=
  e = .returned (.string (str [UInt8.ofNat (digs n).length])) ∧ Below w.heap.size w w'

theorem conv1 (k : Nat) (hk : k < 256) (w : World) :
    (convert 68 9 (.slice (some ⟨w.heap.size, 0, none⟩) 1 1)).run Tryd.prog (w.alloc (.cells #[.int .u8 (k : Int)] 5)) = .ok (.string (str [UInt8.ofNat k])) (w.alloc (.cells #[.int .u8 (k : Int)] 5)) := by
  refine run_convert_bytes_back (P := Tryd.prog) _ 68 9 5 ⟨w.heap.size, 0, none⟩ 1 [UInt8.ofNat k] Tryd.underlying68 Tryd.underlying5 Tryd.underlying9 ?_
  intro j hj
  have : j = 0 := by simpa using hj
  subst this
  have e : (UInt8.ofNat k).toNat = k := ofNat_small k hk
  simp [Addr.add, e, World.cell?, World.alloc, -World.alloc_eq]

set_option maxHeartbeats 400000 in
theorem size_any (n : Int) (w : World) (h0 : 0 ≤ n) (h1 : n ≤ 18446744073709551615) :
    Calls Tryd.prog 67 #[.int .u64 n] w (okSize n.toNat w) := by
  have hl := digs_len n.toNat
  have hcv := conv1 (digs n.toNat).length (by omega) w
  go_enter Tryd.func67, Tryd.ntmps67
  go_wp2_with (go_at_call 82; refine (count_any n _ h0 h1).mono ?_; rintro e w' ⟨rfl, rfl⟩)
  go_ret
  exact ⟨rfl, (Below.refl _ _).alloc (Nat.le_refl _) _⟩


def digCells (D : List UInt8) (k : Nat) : List Value := List.replicate k (.int .u8 0) ++ Lib.byteCells (D.drop k)

def okDigits (n : Nat) (w : World) (e : Ending) (w' : World) : Prop :=
  e = .returned (.string (str (digs n))) ∧ Below w.heap.size w w'

def DigRel (D : List UInt8) (w : World) (n i : Value) (wr : World) : Prop :=
  ∃ k m : Nat, i = .int .i64 ((k : Int) - 1) ∧ n = .int .u64 (m : Int) ∧ m < 18446744073709551616 ∧ digs m = D.take k ∧ k ≤ D.length ∧
    wr.ownsRow w.heap.size 5 1 (.slice (some ⟨w.heap.size, 0, none⟩) D.length D.length) D.length (digCells D k) ∧ Below w.heap.size w wr

theorem digCells_len (D : List UInt8) (k : Nat) (h : k ≤ D.length) : (digCells D k).length = D.length := by
  simp [digCells, Lib.byteCells_length]; omega

theorem digCells_set (D : List UInt8) (k : Nat) (h : k < D.length) : (digCells D (k + 1)).set k (.int .u8 (D[k].toNat : Int)) = digCells D k := by
  unfold digCells
  rw [List.replicate_succ', List.append_assoc, List.set_append_right _ _ (by simp), List.length_replicate, Nat.sub_self, List.drop_eq_getElem_cons h]
  rfl

theorem dig_last (D : List UInt8) (m k : Nat) (hm : m < 18446744073709551616) (hk : k < D.length) (h : digs m = D.take (k + 1)) :
    m ≠ 0 ∧ digs (m / 256) = D.take k ∧ D[k].toNat = m % 256 := by
  have h0 : m ≠ 0 := by
    intro e
    subst e
    have := congrArg List.length h
    simp [digs_zero] at this
    omega
  have e := digs_pos m h0 hm
  rw [h, List.take_succ_eq_append_getElem hk] at e
  have e' := List.append_inj' e rfl
  refine ⟨h0, e'.1.symm, ?_⟩
  have := e'.2
  simp at this
  rw [this, ofNat_small _ (by omega)]

set_option maxHeartbeats 400000 in
theorem digits_any (n : Int) (w : World) (h0 : 0 ≤ n) (h1 : n ≤ 18446744073709551615) :
    Calls Tryd.prog 68 #[.int .u64 n] w (okDigits n.toNat w) := by
  have hl := digs_len n.toNat
  obtain ⟨i0, hi, hz0, hz1, hz2⟩ := info_parts Tryd.info5
  have hmk := run_make (P := Tryd.prog) w 68 5 i0 (.int .u8 0) Tryd.underlying68 hi hz0 .i64 .i64 ((digs n.toNat).length : Int) ((digs n.toNat).length : Int) (by omega) (by omega) (by rw [hz2]; omega) (by omega)
  have hown0 : (w.alloc (.cells (madeCells #[.int .u8 0] (digs n.toNat).length) 5)).ownsRow w.heap.size 5 1 (.slice (some ⟨w.heap.size, 0, none⟩) (digs n.toNat).length (digs n.toNat).length) (digs n.toNat).length (digCells (digs n.toNat) (digs n.toNat).length) := by
    have := World.ownsRow_lit (e := 5) (size := 1) (base := w.heap.size) w (madeCells #[.int .u8 0] (digs n.toNat).length) (digs n.toNat).length (Nat.le_refl _) (by unfold maxLen; omega) (by simp [size_madeCells])
    have e : (madeCells #[.int .u8 0] (digs n.toNat).length).toList = digCells (digs n.toNat) (digs n.toNat).length := by
      apply List.ext_getElem?
      intro j
      by_cases hj : j < (digs n.toNat).length <;> simp [madeCells, digCells, Lib.byteCells, hj, Nat.mod_one]
    rw [← e]
    exact this
  have hb0 : Below w.heap.size w (w.alloc (.cells (madeCells #[.int .u8 0] (digs n.toNat).length) 5)) := (Below.refl _ _).alloc (Nat.le_refl _) _
  have hn : ((n.toNat : Nat) : Int) = n := by omega
  have Hn := Lib.hid hn
  clear hn
  rw [hz1] at hmk
  clear hi hz0 hz1 hz2
  go_enter Tryd.func68, Tryd.ntmps68
  go_wp2_with (go_at_call 82; refine (count_any n _ h0 h1).mono ?_; rintro e w' ⟨rfl, rfl⟩)
  go_loopw [0, 4] (fun n' i wr => DigRel (digs n.toNat) w n' i wr) (fun _ i _ => (intOf i + 1).toNat)
  case atStart => exact ⟨(digs n.toNat).length, n.toNat, rfl, by rw [Hn.out], by omega, by simp, Nat.le_refl _, hown0, hb0⟩
  case round =>
    obtain ⟨k, m, rfl, rfl, hm, hd, hk, hown, hb⟩ := hrel
    cases k with
    | zero =>
      have hcv := run_convert_bytes_back (P := Tryd.prog) wr 68 9 5 ⟨w.heap.size, 0, none⟩ (digs n.toNat).length (digs n.toNat) Tryd.underlying68 Tryd.underlying5 Tryd.underlying9 (by
        intro j hj
        have := hown.cellAt j (by omega)
        rw [addr_add, Nat.zero_add, this]
        simp [digCells, Lib.byteCells, List.getElem?_eq_getElem hj])
      have hcv' : (convert 68 9 (.slice (some ⟨w.heap.size, 0, none⟩) (digs n.toNat).length (digs n.toNat).length)).run Tryd.prog wr = .ok (.string (str (digs n.toNat))) wr := hcv
      clear hcv
      go_wp2
      go_ret
      exact ⟨rfl, hb⟩
    | succ k =>
      have hx := hown.cellAt k (by omega)
      rw [show (digCells (digs n.toNat) (k + 1))[k]? = some (.int .u8 0) from by simp [digCells, List.getElem?_append]] at hx
      have hf := hown.frozenAt k
      have hs := hown.stored k (.int .u8 (((digs n.toNat)[k]'(by omega)).toNat : Int))
      rw [digCells_set _ _ (by omega)] at hs
      obtain ⟨hs1, hs2⟩ := hs
      obtain ⟨hm0, hd', hlast⟩ := dig_last (digs n.toNat) m k hm (by omega) hd
      have Hs1 := Lib.hid hs1
      have Hs2 := Lib.hid hs2
      have Hd := Lib.hid hd'
      have Hl := Lib.hid hlast
      clear hs1 hs2 hd' hlast hd hown
      go_wp2
      have e : ((m : Int) % 256) = (((digs n.toNat)[k]'(by omega)).toNat : Int) := by rw [Hl.out]; omega
      rw [e]
      exact ⟨⟨k, m / 256, rfl, rfl, by omega, Hd.out, by omega, Hs1.out, hb.grown Hs2.out (by have := hb.size; omega) (fun j hj => by cases hj; exact Nat.le_refl _)⟩, by simp [intOf]⟩

theorem size_nat (n : Nat) (w : World) (h : n < 18446744073709551616) : Calls Tryd.prog 67 #[.int .u64 (n : Int)] w (okSize n w) := by
  have := size_any (n : Int) w (by omega) (by omega)
  rwa [Int.toNat_natCast] at this

theorem digits_nat (n : Nat) (w : World) (h : n < 18446744073709551616) : Calls Tryd.prog 68 #[.int .u64 (n : Int)] w (okDigits n w) := by
  have := digits_any (n : Int) w (by omega) (by omega)
  rwa [Int.toNat_natCast] at this

/-- The cells of a slice of strings. -/
def StrCells (w : World) (b o : Nat) (ps : List ByteArray) : Prop := ∀ i (h : i < ps.length), w.cell? ⟨b, o + i, none⟩ = some (.string ps[i])

def okPut (s : ByteArray) (ps : List ByteArray) (w : World) (e : Ending) (w' : World) : Prop :=
  e = .returned (.string (str (bl s ++ flat ps))) ∧ Below w.heap.size w w'

def PutRel (s : ByteArray) (ps : List ByteArray) (w : World) (i : Value) (wr : World) : Prop :=
  ∃ k : Nat, k ≤ ps.length ∧ i = .int .i64 (k : Int) ∧ Lib.IsBuilder 119 5 w.heap.size w.heap.size (Lib.byteCells (bl s ++ flat (ps.take k))) wr ∧ Below w.heap.size w wr

set_option maxHeartbeats 400000 in
theorem put_any (s : ByteArray) (b o c : Nat) (ps : List ByteArray) (w : World) (hb : b < w.heap.size) (hc : StrCells w b o ps) (hl : ps.length ≤ 1000000) (hs : s.size + (flat ps).length ≤ 140737488355328) :
    Calls Tryd.prog 66 #[.string s, .slice (some ⟨b, o, none⟩) ps.length c] w (okPut s ps w) := by
  have h0 : Lib.IsBuilder 119 5 w.heap.size w.heap.size [] (w.alloc (.cells #[.pointer none, .slice none 0 0] 119)) := Lib.fresh_isBuilder 119 5 w
  have b0 : Below w.heap.size w (w.alloc (.cells #[.pointer none, .slice none 0 0] 119)) := (Below.refl _ w).alloc (Nat.le_refl _) _
  go_enter Tryd.func66, Tryd.ntmps66
  go_wp2_with (go_at_call 64; refine (Tryd.Builder_WriteString w.heap.size w.heap.size [] s _ h0 (by simp; omega) b0.size).mono ?_)
  rintro e W1 ⟨rfl, h1, b1⟩
  have h1' : Lib.IsBuilder 119 5 w.heap.size w.heap.size (Lib.byteCells (bl s)) W1 := by
    rw [List.nil_append, Lib.strCells_eq] at h1
    exact Or.inr h1
  have b1' := b0.trans b1
  clear h1 b1 h0 b0
  go_wp2
  go_loopw [12] (fun i wr => PutRel s ps w i wr) (fun i _ => ps.length - (intOf i).toNat)
  case atStart => exact ⟨0, Nat.zero_le _, rfl, by simpa [flat] using h1', b1'⟩
  case round =>
    obtain ⟨k, hk, rfl, hI, hB⟩ := hrel
    by_cases hlt : k < ps.length
    · have hcell : wr.cell? ⟨b, o + k, none⟩ = some (.string ps[k]) := by
        rw [hB.cell (p := ⟨b, o + k, none⟩) hb]; exact hc k hlt
      have hfl := flat_snoc ps k hlt
      have hfm := flat_take_len ps (k + 1)
      have hbl := bl_len s
      have hbp := bl_len ps[k]
      have hlen : (Lib.byteCells (bl s ++ flat (ps.take k))).length + ps[k].size ≤ 140737488355328 := by
        rw [Lib.byteCells_length]
        rw [hfl] at hfm
        simp at hfm ⊢
        omega
      have Hfl := Lib.hid hfl
      clear hfl hfm hbl hbp
      go_wp2_with (go_at_call 64; refine (Tryd.Builder_WriteString w.heap.size w.heap.size _ ps[k] _ hI hlen hB.size).mono ?_)
      rintro e W2 ⟨rfl, h2, b2⟩
      have h2' : Lib.IsBuilder 119 5 w.heap.size w.heap.size (Lib.byteCells (bl s ++ flat (ps.take (k + 1)))) W2 := by
        rw [Lib.strCells_eq, ← Lib.byteCells_append] at h2
        rw [Hfl.out, ← List.append_assoc]
        exact Or.inr h2
      have b2' := hB.trans b2
      clear h2 b2 hI hB
      go_wp2
      go_roundw
      case rel => exact ⟨k + 1, by omega, by go_num, h2', b2'⟩
      case measure => simp [intOf]; omega
    · have hk' : k = ps.length := by omega
      subst hk'
      rw [List.take_length] at hI
      go_wp2_with (go_at_call 65; refine (Tryd.Builder_String_any w.heap.size w.heap.size _ _ hI hB.size).mono ?_)
      rintro e W2 ⟨rfl, b2⟩
      have b2' := hB.trans b2
      clear b2 hI hB
      go_wp2
      go_ret
      exact ⟨rfl, b2'⟩

theorem strCells_new (ps : List ByteArray) (w : World) : StrCells (w.alloc (.cells (ps.map Value.string).toArray 9)) w.heap.size 0 ps := by
  intro i h
  simp [World.cell?, World.alloc, -World.alloc_eq]

theorem strCells_two (a b : ByteArray) (w : World) : StrCells (w.alloc (.cells #[.string a, .string b] 9)) w.heap.size 0 [a, b] := strCells_new [a, b] w
theorem strCells_three (a b c : ByteArray) (w : World) : StrCells (w.alloc (.cells #[.string a, .string b, .string c] 9)) w.heap.size 0 [a, b, c] := strCells_new [a, b, c] w

def okPutNum (s : ByteArray) (n : Nat) (w : World) (e : Ending) (w' : World) : Prop :=
  e = .returned (.string (str (bl s ++ numB n))) ∧ Below w.heap.size w w'

set_option maxHeartbeats 400000 in
theorem putNum_any (s : ByteArray) (n : Int) (w : World) (h0 : 0 ≤ n) (h1 : n ≤ 18446744073709551615) (hs : s.size ≤ 140737488355000) :
    Calls Tryd.prog 49 #[.string s, .int .u64 n] w (okPutNum s n.toNat w) := by
  have hl := digs_len n.toNat
  go_enter Tryd.func49, Tryd.ntmps49
  go_wp2_with (go_at_call 67; refine (size_any n _ h0 h1).mono ?_)
  rintro e W1 ⟨rfl, b1⟩
  go_wp2_with (go_at_call 68; refine (digits_any n _ h0 h1).mono ?_)
  rintro e W2 ⟨rfl, b2⟩
  go_wp2_with (go_at_call 66; refine (put_any s W2.heap.size 0 2 [str [UInt8.ofNat (digs n.toNat).length], str (digs n.toNat)] _ ?_ (strCells_two _ _ _) (by simp) ?_).mono ?_)
  · simp
  · simp [flat, bl_str]; omega
  · rintro e W3 ⟨rfl, b3⟩
    have b' := below_step (below_new (below_step b1 b2) _) b3
    clear b1 b2 b3
    go_wp2
    go_ret
    exact ⟨by simp [flat, bl_str, numB], b'⟩

theorem putNum_nat (s : ByteArray) (n : Nat) (w : World) (h : n < 18446744073709551616) (hs : s.size ≤ 140737488355000) :
    Calls Tryd.prog 49 #[.string s, .int .u64 (n : Int)] w (okPutNum s n w) := by
  have := putNum_any s (n : Int) w (by omega) (by omega) hs
  rwa [Int.toNat_natCast] at this

def okPutText (s t : ByteArray) (w : World) (e : Ending) (w' : World) : Prop :=
  e = .returned (.string (str (bl s ++ textB (bl t)))) ∧ Below w.heap.size w w'

set_option maxHeartbeats 400000 in
theorem putText_any (s t : ByteArray) (w : World) (hs : s.size ≤ 70368744177000) (ht : t.size ≤ 70368744177000) :
    Calls Tryd.prog 50 #[.string s, .string t] w (okPutText s t w) := by
  have hl := digs_len t.size
  have hbl := bl_len t
  have Hbl := Lib.hid hbl
  clear hbl
  go_enter Tryd.func50, Tryd.ntmps50
  go_wp2_with (go_at_call 67; refine (size_nat t.size _ (by omega)).mono ?_)
  rintro e W1 ⟨rfl, b1⟩
  go_wp2_with (go_at_call 68; refine (digits_nat t.size _ (by omega)).mono ?_)
  rintro e W2 ⟨rfl, b2⟩
  go_wp2_with (go_at_call 66; refine (put_any s W2.heap.size 0 3 [str [UInt8.ofNat (digs t.size).length], str (digs t.size), t] _ ?_ (strCells_three _ _ _ _) (by simp) ?_).mono ?_)
  · simp
  · have := Hbl.out
    simp [flat, bl_str]; omega
  · rintro e W3 ⟨rfl, b3⟩
    have b' := below_step (below_new (below_step b1 b2) _) b3
    clear b1 b2 b3
    go_wp2
    go_ret
    exact ⟨by simp [flat, bl_str, textB, numB, Hbl.out], b'⟩

end Go.Proofs.YtjllpbckmioiiaaDoor.wi

/- What a reader of package wire is in memory, and what making one, asking it and cutting bytes off it does. -/
namespace Go.Proofs.YtjllpbckmioiiaaDoor.wi
open Go.RowKit
set_option maxRecDepth 100000

/-- Cells o, o + 1 .. of block g hold the bytes l. -/
def Row (w : World) (g o : Nat) (l : List UInt8) : Prop :=
  ∃ cs fr, w.heap[g]? = some (.cells cs 5 fr) ∧ ∀ i (h : i < l.length), cs[o + i]? = some (.int .u8 (l[i].toNat : Int))

/-- Block b is a reader that has l left, in block g from o on. -/
def RdOf (b g o cap : Nat) (l : List UInt8) (bad : Bool) (w : World) : Prop :=
  w.heap[b]? = some (.cells #[.slice (some ⟨g, o, none⟩) l.length cap, .bool bad] 111 (0, 0)) ∧ Row w g o l ∧ l.length ≤ cap ∧ l.length ≤ 140737488355328

/-- Block b is a reader that has l left. -/
def RdAt (b : Nat) (l : List UInt8) (bad : Bool) (w : World) : Prop := ∃ g o cap, RdOf b g o cap l bad w

theorem lt_of_some {w : World} {b : Nat} {o : Obj} (h : w.heap[b]? = some o) : b < w.heap.size := by
  rcases Nat.lt_or_ge b w.heap.size with h' | h'
  · exact h'
  · simp [Array.getElem?_eq_none h'] at h

theorem Row.cell {w : World} {g o : Nat} {l : List UInt8} (h : Row w g o l) (i : Nat) (hi : i < l.length) : w.cell? ⟨g, o + i, none⟩ = some (.int .u8 (l[i].toNat : Int)) := by
  obtain ⟨cs, fr, hg, hc⟩ := h
  simp [World.cell?, hg, hc i hi]

theorem Row.keep {w w' : World} {g o : Nat} {l : List UInt8} (h : Row w g o l) (hk : w'.heap[g]? = w.heap[g]?) : Row w' g o l := by
  obtain ⟨cs, fr, hg, hc⟩ := h
  exact ⟨cs, fr, hk.trans hg, hc⟩

theorem Row.drop {w : World} {g o : Nat} {l : List UInt8} (h : Row w g o l) (n : Nat) : Row w g (o + n) (l.drop n) := by
  obtain ⟨cs, fr, hg, hc⟩ := h
  refine ⟨cs, fr, hg, fun i hi => ?_⟩
  have := hc (n + i) (by simp at hi; omega)
  rw [Nat.add_assoc, this]
  simp

theorem Row.take {w : World} {g o : Nat} {l : List UInt8} (h : Row w g o l) (n : Nat) : Row w g o (l.take n) := by
  obtain ⟨cs, fr, hg, hc⟩ := h
  refine ⟨cs, fr, hg, fun i hi => ?_⟩
  have := hc i (by simp at hi; omega)
  rw [this]
  simp

theorem Row.nil0 {w : World} {g o : Nat} {l : List UInt8} (h : Row w g o l) (o' : Nat) : Row w g o' [] := by
  obtain ⟨cs, fr, hg, _⟩ := h
  exact ⟨cs, fr, hg, fun i hi => by simp at hi⟩

/-- A reader stays as it is where no block that was there has turned but one of another reader. -/
theorem RdAt.keep {b c : Nat} {l m : List UInt8} {x y : Bool} {w w' : World} (h : RdAt b l x w) (k : RdAt c m y w) (hne : b ≠ c) (hg : w.grownBy w' (some c)) : RdAt b l x w' := by
  obtain ⟨g, o, cap, hb, hr, h1, h2⟩ := h
  obtain ⟨_, _, _, hc, _⟩ := k
  have hgc : g ≠ c := by
    intro e
    subst e
    obtain ⟨cs, fr, hg', _⟩ := hr
    rw [hc] at hg'
    simp at hg'
  have hgl : g < w.heap.size := by obtain ⟨cs, fr, hg', _⟩ := hr; exact lt_of_some hg'
  exact ⟨g, o, cap, (hg.block b (lt_of_some hb) (by simpa using hne)).trans hb, hr.keep (hg.block g hgl (by simpa using hgc)), h1, h2⟩

theorem RdAt.below {b : Nat} {l : List UInt8} {x : Bool} {w w' : World} (h : RdAt b l x w) (hg : Below w.heap.size w w') : RdAt b l x w' := by
  obtain ⟨g, o, cap, hb, hr, h1, h2⟩ := h
  have hgl : g < w.heap.size := by obtain ⟨cs, fr, hg', _⟩ := hr; exact lt_of_some hg'
  exact ⟨g, o, cap, (hg.block b (lt_of_some hb)).trans hb, hr.keep (hg.block g hgl), h1, h2⟩

theorem RdAt.lt {b : Nat} {l : List UInt8} {x : Bool} {w : World} (h : RdAt b l x w) : b < w.heap.size := by
  obtain ⟨_, _, _, hb, _⟩ := h
  exact lt_of_some hb

def okNew (s : ByteArray) (w : World) (e : Ending) (w' : World) : Prop :=
  ∃ b, e = .returned (.pointer (some ⟨b, 0, none⟩)) ∧ w.heap.size ≤ b ∧ RdAt b (bl s) false w' ∧ Below w.heap.size w w'

set_option maxHeartbeats 400000 in
theorem new_any (s : ByteArray) (w : World) (hs : s.size ≤ 140737488355328) :
    Calls Tryd.prog 43 #[.string s] w (okNew s w) := by
  have hcv := Lib.run_convert_string_bytes (P := Tryd.prog) w 9 68 5 s Tryd.underlying9 Tryd.underlying68 Tryd.underlying5
  have hsz := Lib.bytesWorld_size w 5 s
  have hnew := Lib.bytesWorld_at_new w 5 s
  have hold := Lib.bytesWorld_at_old w 5 s
  have hcap := grownCap_ge w s.size 0 5
  have hcell : ∀ i (h : i < (bl s).length), (Lib.bytesCells w 5 s)[0 + i]? = some (.int .u8 ((bl s)[i].toNat : Int)) := by
    intro i hi
    have hi' : i < s.size := by rw [← bl_len]; exact hi
    have := Lib.bytesWorld_cell w 5 s i hi'
    simp [World.cell?, hnew] at this
    rw [Nat.zero_add, this]
    simp [bl, hi']
  have hos : (Lib.bytesWorld w 5 s).os = w.os ∧ (Lib.bytesWorld w 5 s).tape = w.tape ∧ (Lib.bytesWorld w 5 s).output = w.output := ⟨rfl, rfl, rfl⟩
  have hbel : Below w.heap.size w (Lib.bytesWorld w 5 s) := ⟨hos.1, hos.2.1, hos.2.2, by omega, fun k hk => hold k hk⟩
  have hlen := bl_len s
  generalize Lib.bytesWorld w 5 s = W1 at *
  generalize grownCap w s.size 0 5 = cap at *
  have Hsz := Lib.hid hsz
  have Hnew := Lib.hid hnew
  have Hcell := Lib.hid hcell
  have Hlen := Lib.hid hlen
  clear hsz hnew hcell hold hos hlen
  go_enter Tryd.func43, Tryd.ntmps43
  go_wp2
  go_ret
  have Hl := Hlen.out
  have hW : (W1.alloc (.cells #[.slice (some ⟨w.heap.size, 0, none⟩) s.size cap, .bool false] 111)).heap[W1.heap.size]? = some (.cells #[.slice (some ⟨w.heap.size, 0, none⟩) s.size cap, .bool false] 111 (0, 0)) := by
    show (W1.heap.push _)[W1.heap.size]? = _
    simp
  have hO := Below.heap_alloc W1 (.cells #[.slice (some ⟨w.heap.size, 0, none⟩) s.size cap, .bool false] 111) w.heap.size (by have := Hsz.out; omega)
  refine ⟨W1.heap.size, rfl, by have := Hsz.out; omega, ⟨w.heap.size, 0, cap, by rw [Hl]; exact hW, ⟨_, _, hO.trans Hnew.out, Hcell.out⟩, by omega, by omega⟩, below_new hbel _⟩

/-! ### Asking -/

theorem ok_yes (b : Nat) (l : List UInt8) (w : World) (h : RdAt b l false w) :
    Calls Tryd.prog 79 #[.pointer (some ⟨b, 0, none⟩)] w fun e w' => e = .returned (.bool true) ∧ w = w' := by
  obtain ⟨g, o, cap, hb, _⟩ := h
  have h1 : w.cell? ⟨b, 1, none⟩ = some (.bool false) := by simp [World.cell?, hb]
  clear hb
  go_enter Tryd.func79, Tryd.ntmps79
  go_wp2
  go_ret
  exact ⟨rfl, rfl⟩

theorem ok_no (b : Nat) (l : List UInt8) (w : World) (h : RdAt b l true w) :
    Calls Tryd.prog 79 #[.pointer (some ⟨b, 0, none⟩)] w fun e w' => e = .returned (.bool false) ∧ w = w' := by
  obtain ⟨g, o, cap, hb, _⟩ := h
  have h1 : w.cell? ⟨b, 1, none⟩ = some (.bool true) := by simp [World.cell?, hb]
  clear hb
  go_enter Tryd.func79, Tryd.ntmps79
  go_wp2
  go_ret
  exact ⟨rfl, rfl⟩

theorem ok_nil (w : World) :
    Calls Tryd.prog 79 #[.pointer none] w fun e w' => e = .returned (.bool false) ∧ w = w' := by
  go_enter Tryd.func79, Tryd.ntmps79
  go_wp2
  go_ret
  exact ⟨rfl, rfl⟩

theorem end_nil (w : World) :
    Calls Tryd.prog 78 #[.pointer none] w fun e w' => e = .returned (.bool false) ∧ w = w' := by
  go_enter Tryd.func78, Tryd.ntmps78
  go_wp2_with (go_at_call 79; refine (ok_nil _).mono ?_; rintro e w' ⟨rfl, rfl⟩)
  go_ret
  exact ⟨rfl, rfl⟩

theorem end_bad (b : Nat) (l : List UInt8) (w : World) (h : RdAt b l true w) :
    Calls Tryd.prog 78 #[.pointer (some ⟨b, 0, none⟩)] w fun e w' => e = .returned (.bool false) ∧ w = w' := by
  go_enter Tryd.func78, Tryd.ntmps78
  go_wp2_with (go_at_call 79; refine (ok_no b l _ h).mono ?_; rintro e w' ⟨rfl, rfl⟩)
  go_ret
  exact ⟨rfl, rfl⟩

theorem end_good (b : Nat) (l : List UInt8) (w : World) (h : RdAt b l false w) :
    Calls Tryd.prog 78 #[.pointer (some ⟨b, 0, none⟩)] w fun e w' => e = .returned (.bool l.isEmpty) ∧ w = w' := by
  obtain ⟨g, o, cap, hb, hr⟩ := h
  have h1 : w.cell? ⟨b, 0, none⟩ = some (.slice (some ⟨g, o, none⟩) l.length cap) := by simp [World.cell?, hb]
  have he : ((l.length : Int) == 0) = l.isEmpty := by cases l <;> simp; omega
  have hR : RdAt b l false w := ⟨g, o, cap, hb, hr⟩
  have hlen : l.length ≤ 140737488355328 := hr.2.2
  clear hb hr
  go_enter Tryd.func78, Tryd.ntmps78
  go_wp2_with (go_at_call 79; refine (ok_yes b l _ hR).mono ?_; rintro e w' ⟨rfl, rfl⟩)
  go_ret
  exact ⟨rfl, rfl⟩

/-! ### Cutting -/

def tailOff (o len n : Nat) : Nat := if len = n then o else o + n

def okTake (b g o : Nat) (l : List UInt8) (n : Nat) (x : Bool) (w : World) (e : Ending) (w' : World) : Prop :=
  e = .returned (.tuple #[.slice (some ⟨g, o, none⟩) n n, .bool true]) ∧ RdOf b g (tailOff o l.length n) (l.length - n) (l.drop n) x w' ∧ w.grownBy w' (some b) ∧ Row w' g o (l.take n)

theorem slice_head (g o len cap : Nat) (n : Int) (h0 : 0 ≤ n) (hn : n.toNat ≤ cap) (w : World) :
    (Instr.slice 68 (.slice (some ⟨g, o, none⟩) len cap) none (some (.int .u64 n)) (some (.int .u64 n))).run Tryd.prog w = .ok (.slice (some ⟨g, o, none⟩) n.toNat n.toNat) w := by
  have h1 : n ≤ (cap : Int) := by omega
  rw [run_slice_any (P := Tryd.prog) w 68 (some ⟨g, o, none⟩) len cap Tryd.underlying68]
  simp [Instr.sliceBounds, run_sliceBound, h0, h1, go_sem]
  intro h
  omega


theorem slice_tail (g o len cap : Nat) (n : Int) (h0 : 0 ≤ n) (hn : n.toNat ≤ len) (hc : len ≤ cap) (w : World) :
    (Instr.slice 68 (.slice (some ⟨g, o, none⟩) len cap) (some (.int .u64 n)) (some (.int .i64 (len : Int))) (some (.int .i64 (len : Int)))).run Tryd.prog w = .ok (.slice (some ⟨g, tailOff o len n.toNat, none⟩) (len - n.toNat) (len - n.toNat)) w := by
  have h1 : n ≤ (len : Int) := by omega
  have h2 : (len : Int) ≤ (cap : Int) := by omega
  rw [run_slice_any (P := Tryd.prog) w 68 (some ⟨g, o, none⟩) len cap Tryd.underlying68]
  unfold tailOff
  by_cases hl : len = n.toNat
  · simp [Instr.sliceBounds, run_sliceBound, h0, h1, hc, go_sem]
    rw [if_pos hl, if_pos hl]
  · simp [Instr.sliceBounds, run_sliceBound, h0, h1, hc, hl, go_sem]

theorem row_tail {w : World} {g o : Nat} {l : List UInt8} (h : Row w g o l) (n : Nat) : Row w g (tailOff o l.length n) (l.drop n) := by
  unfold tailOff
  split
  · have e : l.drop n = [] := by simp; omega
    rw [e]
    exact h.nil0 o
  · exact h.drop n

set_option maxHeartbeats 400000 in
theorem take_yes (b g o cap : Nat) (l : List UInt8) (x : Bool) (n : Int) (w : World) (hR : RdOf b g o cap l x w) (h0 : 0 ≤ n) (hn : n.toNat ≤ l.length) :
    Calls Tryd.prog 80 #[.pointer (some ⟨b, 0, none⟩), .int .u64 n] w (okTake b g o l n.toNat x w) := by
  obtain ⟨hb, hr, hc, hl⟩ := hR
  have h1 : w.cell? ⟨b, 0, none⟩ = some (.slice (some ⟨g, o, none⟩) l.length cap) := by simp [World.cell?, hb]
  have h2 : w.frozen? ⟨b, 0, none⟩ = false := by simp [World.frozen?, hb]
  have hs1 := slice_head g o l.length cap n h0 (by omega) w
  have hs2 := slice_tail g o l.length cap n h0 hn hc w
  have ht : ¬ ((l.length : Int) < n) := by omega
  have hw := heap_setCell_same w b 0 _ 111 (.slice (some ⟨g, tailOff o l.length n.toNat, none⟩) (l.length - n.toNat) (l.length - n.toNat)) hb
  have hgr : w.grownBy (w.setCell ⟨b, 0, none⟩ (.slice (some ⟨g, tailOff o l.length n.toNat, none⟩) (l.length - n.toNat) (l.length - n.toNat))) (some b) :=
    ⟨rfl, rfl, rfl, by simp [World.setCell], fun k _ hk => Below.heap_setCell _ _ _ _ (fun e => hk (by simp [e]))⟩
  have hgb : g ≠ b := by
    intro e
    subst e
    obtain ⟨cs, fr, hg', _⟩ := hr
    rw [hb] at hg'
    simp at hg'
  have hgk := Below.heap_setCell w ⟨b, 0, none⟩ (.slice (some ⟨g, tailOff o l.length n.toNat, none⟩) (l.length - n.toNat) (l.length - n.toNat)) g hgb
  have hr1 := (row_tail hr n.toNat).keep hgk
  have hr2 := (hr.take n.toNat).keep hgk
  have hfin : RdOf b g (tailOff o l.length n.toNat) (l.length - n.toNat) (l.drop n.toNat) x (w.setCell ⟨b, 0, none⟩ (.slice (some ⟨g, tailOff o l.length n.toNat, none⟩) (l.length - n.toNat) (l.length - n.toNat))) := by
    refine ⟨?_, hr1, by simp, by simp; omega⟩
    rw [hw]
    simp
  have Hf := Lib.hid hfin
  have Hg := Lib.hid hgr
  have Hr2 := Lib.hid hr2
  clear hfin hgr hr1 hr2 hgk hw hb
  go_enter Tryd.func80, Tryd.ntmps80
  go_wp2
  go_ret2
  exact ⟨rfl, Hf.out, Hg.out, Hr2.out⟩

def okTakeNo (w : World) (e : Ending) (w' : World) : Prop := e = .returned (.tuple #[.slice none 0 0, .bool false]) ∧ w = w'

set_option maxHeartbeats 400000 in
theorem take_no (b g o cap : Nat) (l : List UInt8) (x : Bool) (n : Int) (w : World) (hR : RdOf b g o cap l x w) (hn : (l.length : Int) < n) :
    Calls Tryd.prog 80 #[.pointer (some ⟨b, 0, none⟩), .int .u64 n] w (okTakeNo w) := by
  obtain ⟨hb, _, _, hl⟩ := hR
  have h1 : w.cell? ⟨b, 0, none⟩ = some (.slice (some ⟨g, o, none⟩) l.length cap) := by simp [World.cell?, hb]
  clear hb
  go_enter Tryd.func80, Tryd.ntmps80
  go_wp2
  go_ret2
  exact ⟨rfl, rfl⟩

theorem grown_trans {w w1 w2 : World} {r : Option Nat} (h : w.grownBy w1 r) (k : w1.grownBy w2 r) : w.grownBy w2 r :=
  ⟨k.os.trans h.os, k.tape.trans h.tape, k.output.trans h.output, Nat.le_trans h.size k.size,
    fun i hi hr => (k.block i (Nat.lt_of_lt_of_le hi h.size) hr).trans (h.block i hi hr)⟩

theorem grown_refl (w : World) (r : Option Nat) : w.grownBy w r := ⟨rfl, rfl, rfl, Nat.le_refl _, fun _ _ _ => rfl⟩

end Go.Proofs.YtjllpbckmioiiaaDoor.wi


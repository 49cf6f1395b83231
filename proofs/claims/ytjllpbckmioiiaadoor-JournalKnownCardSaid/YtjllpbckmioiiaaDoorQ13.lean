/- FPut, FIns, FCopy, FCut. -/
import Derived.Test.YtjllpbckmioiiaaDoorQ10
import Derived.Test.YtjllpbckmioiiaaDoorQ12
import Derived.BigQuiet
import Derived.Laws.BitsAllLaws
import Derived.Lib.BufferWrite
import Derived.Deep.WholeRow
/- What put and digits of package frame do. -/
namespace Go.Proofs.YtjllpbckmioiiaaDoor
open Go.RowKit
set_option maxRecDepth 100000

theorem flatten_take_snoc (ps : List (List UInt8)) (k : Nat) (h : k < ps.length) : (ps.take (k + 1)).flatten = (ps.take k).flatten ++ ps[k] := by
  rw [List.take_succ_eq_append_getElem h, List.flatten_append]
  simp only [List.flatten_cons, List.flatten_nil, List.append_nil]

theorem flatten_take_len (ps : List (List UInt8)) (k : Nat) : (ps.take k).flatten.length ≤ ps.flatten.length := by
  have h : ps.flatten = (ps.take k).flatten ++ (ps.drop k).flatten := by rw [← List.flatten_append, List.take_append_drop]
  rw [h]; simp

def FPutRel (ps : List (List UInt8)) (w : World) (i : Value) (wr : World) : Prop :=
  ∃ k : Nat, k ≤ ps.length ∧ i = .int .i64 (k : Int) ∧ Lib.IsBuilder 119 5 w.heap.size w.heap.size (Lib.byteCells (ps.take k).flatten) wr ∧ Below w.heap.size w wr

set_option maxHeartbeats 400000 in
theorem fput_any (a : Option Addr) (c : Nat) (ps : List (List UInt8)) (w : World) (hc : StrsAt w a ps) (hl : ps.length ≤ 4611686018427387904) (hs : ps.flatten.length ≤ 140737488355328) :
    Calls Tryd.prog 48 #[.slice a ps.length c] w (okStr (str ps.flatten) w) := by
  have h0 : Lib.IsBuilder 119 5 w.heap.size w.heap.size [] (w.alloc (.cells #[.pointer none, .slice none 0 0] 119)) := Lib.fresh_isBuilder 119 5 w
  have b0 : Below w.heap.size w (w.alloc (.cells #[.pointer none, .slice none 0 0] 119)) := (Below.refl _ w).alloc (Nat.le_refl _) _
  have HC := Lib.hid hc
  clear hc
  go_enter Tryd.func48, Tryd.ntmps48
  go_wp2
  go_loopw [8] (fun i wr => FPutRel ps w i wr) (fun i _ => ps.length - (intOf i).toNat)
  case atStart => exact ⟨0, Nat.zero_le _, rfl, by simpa [Lib.byteCells] using h0, b0⟩
  case round =>
    clear h0 b0
    obtain ⟨k, hk, rfl, hI, hB⟩ := hrel
    by_cases hlt : k < ps.length
    · obtain ⟨b, o, rfl, hb, hcell0⟩ := HC.out k hlt
      have hcell : wr.cell? ⟨b, o + k, none⟩ = some (.string (str ps[k])) := by
        rw [hB.cell (p := ⟨b, o + k, none⟩) hb]; exact hcell0
      have hfl := flatten_take_snoc ps k hlt
      have hfm := flatten_take_len ps (k + 1)
      have hbp := bl_str ps[k]
      have hsz := str_size ps[k]
      have hlen : (Lib.byteCells (ps.take k).flatten).length + (str ps[k]).size ≤ 140737488355328 := by
        rw [Lib.byteCells_length, hsz]
        rw [hfl, List.length_append] at hfm
        omega
      have Hfl := Lib.hid hfl
      have Hbp := Lib.hid hbp
      clear hfl hfm hbp hcell0 hsz
      generalize str ps[k] = s at *
      go_wp2_with (go_at_call 64; refine (Tryd.Builder_WriteString w.heap.size w.heap.size _ s _ hI hlen hB.size).mono ?_)
      rintro e W2 ⟨rfl, h2, b2⟩
      have h2' : Lib.IsBuilder 119 5 w.heap.size w.heap.size (Lib.byteCells (ps.take (k + 1)).flatten) W2 := by
        rw [Lib.strCells_eq, ← Lib.byteCells_append] at h2
        rw [Hfl.out, ← Hbp.out]
        exact Or.inr h2
      have b2' := hB.trans b2
      clear h2 b2 hI hB
      go_wp2
      go_roundw
      case rel => exact ⟨k + 1, by omega, by go_num, h2', b2'⟩
      case measure => simp [intOf]; omega
    · have hk' : k = ps.length := by omega
      subst hk'
      rw [List.take_length] at hI
      go_wp2_with (go_at_call 65; refine (Tryd.Builder_String_any w.heap.size w.heap.size _ _ hI hB.size).mono ?_)
      rintro e W2 ⟨rfl, b2⟩
      have b2' := hB.trans b2
      clear b2 hI hB
      go_wp2
      go_ret
      exact ⟨rfl, b2'⟩

/-! ### digits -/

def digB : Nat → Nat → List UInt8
  | 0, _ => []
  | k + 1, n => digB k (n / 256) ++ [UInt8.ofNat (n % 256)]

theorem digB_length : ∀ k n, (digB k n).length = k
  | 0, _ => rfl
  | k + 1, n => by simp [digB, digB_length k]

theorem digB_two (n : Nat) : digB 2 n = len2 n := rfl
theorem digB_four (n : Nat) : digB 4 n = be4 n := by
  simp [digB, be4, Nat.div_div_eq_div_mul]

def fdigCells (D : List UInt8) (k : Nat) : List Value := List.replicate k (.int .u8 0) ++ Lib.byteCells (D.drop k)

def FDigRel (D : List UInt8) (w : World) (n i : Value) (wr : World) : Prop :=
  ∃ k m : Nat, i = .int .i64 ((k : Int) - 1) ∧ n = .int .u32 (m : Int) ∧ m < 4294967296 ∧ digB k m = D.take k ∧ k ≤ D.length ∧
    wr.ownsRow w.heap.size 5 1 (.slice (some ⟨w.heap.size, 0, none⟩) D.length D.length) D.length (fdigCells D k) ∧ Below w.heap.size w wr

theorem fdigCells_set (D : List UInt8) (k : Nat) (h : k < D.length) : (fdigCells D (k + 1)).set k (.int .u8 (D[k].toNat : Int)) = fdigCells D k := by
  unfold fdigCells
  rw [List.replicate_succ', List.append_assoc, List.set_append_right _ _ (by simp), List.length_replicate, Nat.sub_self, List.drop_eq_getElem_cons h]
  rfl

theorem fdig_last (D : List UInt8) (m k : Nat) (hk : k < D.length) (h : digB (k + 1) m = D.take (k + 1)) :
    digB k (m / 256) = D.take k ∧ D[k].toNat = m % 256 := by
  have e : digB k (m / 256) ++ [UInt8.ofNat (m % 256)] = D.take (k + 1) := h
  rw [List.take_succ_eq_append_getElem hk] at e
  have e' := List.append_inj' e rfl
  refine ⟨e'.1, ?_⟩
  have := e'.2
  simp at this
  rw [← this, ofNat_small _ (by omega)]

set_option maxHeartbeats 400000 in
theorem fdigits_list (n : Nat) (D : List UInt8) (w : World) (hn : n < 4294967296) (hl : D.length ≤ 100) (hD : digB D.length n = D) :
    Calls Tryd.prog 45 #[.int .u32 (n : Int), .int .i64 (D.length : Int)] w (okStr (str D) w) := by
  obtain ⟨i0, hi, hz0, hz1, hz2⟩ := info_parts Tryd.info5
  have hmk := run_make (P := Tryd.prog) w 68 5 i0 (.int .u8 0) Tryd.underlying68 hi hz0 .i64 .i64 (D.length : Int) (D.length : Int) (by omega) (by omega) (by rw [hz2]; omega) (by omega)
  have hown0 : (w.alloc (.cells (madeCells #[.int .u8 0] D.length) 5)).ownsRow w.heap.size 5 1 (.slice (some ⟨w.heap.size, 0, none⟩) D.length D.length) D.length (fdigCells D D.length) := by
    have := World.ownsRow_lit (e := 5) (size := 1) (base := w.heap.size) w (madeCells #[.int .u8 0] D.length) D.length (Nat.le_refl _) (by unfold maxLen; omega) (by simp [size_madeCells])
    have e : (madeCells #[.int .u8 0] D.length).toList = fdigCells D D.length := by
      apply List.ext_getElem?
      intro j
      by_cases hj : j < D.length <;> simp [madeCells, fdigCells, Lib.byteCells, hj, Nat.mod_one]
    rw [← e]
    exact this
  have hb0 : Below w.heap.size w (w.alloc (.cells (madeCells #[.int .u8 0] D.length) 5)) := (Below.refl _ _).alloc (Nat.le_refl _) _
  have HD := Lib.hid hD
  clear hD
  rw [hz1] at hmk
  clear hi hz0 hz1 hz2
  go_enter Tryd.func45, Tryd.ntmps45
  go_wp2
  go_loopw [0, 6] (fun n' i wr => FDigRel D w n' i wr) (fun _ i _ => (intOf i + 1).toNat)
  case atStart => exact ⟨D.length, n, rfl, rfl, hn, by rw [HD.out]; simp, Nat.le_refl _, hown0, hb0⟩
  case round =>
    obtain ⟨k, m, rfl, rfl, hm, hd, hk, hown, hb⟩ := hrel
    cases k with
    | zero =>
      have hcv := run_convert_bytes_back (P := Tryd.prog) wr 68 9 5 ⟨w.heap.size, 0, none⟩ D.length D Tryd.underlying68 Tryd.underlying5 Tryd.underlying9 (by
        intro j hj
        have := hown.cellAt j (by omega)
        rw [addr_add, Nat.zero_add, this]
        simp [fdigCells, Lib.byteCells, List.getElem?_eq_getElem hj])
      have hcv' : (convert 68 9 (.slice (some ⟨w.heap.size, 0, none⟩) D.length D.length)).run Tryd.prog wr = .ok (.string (str D)) wr := hcv
      clear hcv
      go_wp2
      go_ret
      exact ⟨rfl, hb⟩
    | succ k =>
      have hx := hown.cellAt k (by omega)
      rw [show (fdigCells D (k + 1))[k]? = some (.int .u8 0) from by simp [fdigCells, List.getElem?_append]] at hx
      have hf := hown.frozenAt k
      have hs := hown.stored k (.int .u8 ((D[k]'(by omega)).toNat : Int))
      rw [fdigCells_set _ _ (by omega)] at hs
      obtain ⟨hs1, hs2⟩ := hs
      obtain ⟨hd', hlast⟩ := fdig_last D m k (by omega) hd
      have Hs1 := Lib.hid hs1
      have Hs2 := Lib.hid hs2
      have Hd := Lib.hid hd'
      have Hl := Lib.hid hlast
      clear hs1 hs2 hd' hlast hd hown
      go_wp2
      have e : ((m : Int) % 256) = ((D[k]'(by omega)).toNat : Int) := by rw [Hl.out]; omega
      rw [e]
      exact ⟨⟨k, m / 256, rfl, rfl, by omega, Hd.out, by omega, Hs1.out, hb.grown Hs2.out (by have := hb.size; omega) (fun j hj => by cases hj; exact Nat.le_refl _)⟩, by simp [intOf]⟩

theorem fdigits_two (n : Nat) (w : World) (hn : n < 4294967296) : Calls Tryd.prog 45 #[.int .u32 (n : Int), .int .i64 2] w (okStr (str (len2 n)) w) :=
  fdigits_list n (len2 n) w hn (by show 2 ≤ 100; decide) (digB_two n)
theorem fdigits_four (n : Nat) (w : World) (hn : n < 4294967296) : Calls Tryd.prog 45 #[.int .u32 (n : Int), .int .i64 4] w (okStr (str (be4 n)) w) :=
  fdigits_list n (be4 n) w hn (by show 4 ≤ 100; decide) (digB_four n)

end Go.Proofs.YtjllpbckmioiiaaDoor

/- What inside and Size of package frame do, and the document's own Size. -/
namespace Go.Proofs.YtjllpbckmioiiaaDoor
open Go.RowKit
set_option maxRecDepth 100000

/-- A text, if there is one; else no bytes. -/
def okOpt (r : Option (List UInt8)) (w : World) (e : Ending) (w' : World) : Prop :=
  e = .returned (.tuple #[.string (str (r.getD [])), .bool r.isSome]) ∧ Below w.heap.size w w'

theorem wrap_i64_nat (n : Nat) (h : n < 9223372036854775808) : IntKind.i64.wrap (n : Int) = (n : Int) := by
  have e : (n : Int) % 2 ^ 64 = n := Int.emod_eq_of_lt (by omega) (by omega)
  simp only [IntKind.wrap, IntKind.bits, IntKind.signed, e]
  rw [if_neg]
  simp
  omega

theorem bits_len (a b : Nat) (ha : a < 256) (hb : b < 256) : bits .or .i64 ((a : Int) * 256) (b : Int) = ((256 * a + b : Nat) : Int) := by
  have e : ((a : Int) * 256) = ((a * 256 : Nat) : Int) := by omega
  rw [e]
  show IntKind.i64.wrap ((BitVec.ofInt 64 ((a * 256 : Nat) : Int) ||| BitVec.ofInt 64 (b : Int)).toNat : Int) = _
  rw [BitVec.toNat_or, ofInt_u64 _ (by omega), ofInt_u64 b (by omega)]
  have e2 : a * 256 ||| b = 256 * a + b := by
    rw [show a * 256 = a <<< 8 from by rw [Nat.shiftLeft_eq], ← Nat.shiftLeft_add_eq_or_of_lt (by omega), Nat.shiftLeft_eq]
    omega
  rw [e2]
  exact wrap_i64_nat _ (by omega)

set_option maxHeartbeats 400000 in
theorem inside_short (s : ByteArray) (w : World) (h6 : s.size < 6) :
    Calls Tryd.prog 75 #[.string s] w (okOpt (insB (bl s)) w) := by
  rw [insB_short (bl s) (by rw [bl_len]; exact h6)]
  go_enter Tryd.func75, Tryd.ntmps75
  go_wp2
  go_ret2
  exact ⟨rfl, Below.refl _ _⟩

set_option maxHeartbeats 400000 in
theorem inside_long (s : ByteArray) (w : World) (hs : s.size ≤ 140737488355328) (h6 : 6 ≤ s.size) :
    Calls Tryd.prog 75 #[.string s] w (okOpt (insB (bl s)) w) := by
  have hi := insB_eq (bl s) (by rw [bl_len]; exact h6)
  have h0 := (s[0]'(by omega)).toNat_lt
  have h1 := (s[1]'(by omega)).toNat_lt
  have hbits := bits_len _ _ h0 h1
  obtain ⟨n, hn⟩ : ∃ n : Nat, n = 256 * (s[0]'(by omega)).toNat + (s[1]'(by omega)).toNat := ⟨_, rfl⟩
  have e0 : (bl s)[0]'(by rw [bl_len]; omega) = s[0]'(by omega) := rfl
  have e1 : (bl s)[1]'(by rw [bl_len]; omega) = s[1]'(by omega) := rfl
  rw [e0, e1, ← hn, bl_len] at hi
  rw [← hn] at hbits
  have w0 : wrap64 ((s[0]'(by omega)).toNat : Int) = ((s[0]'(by omega)).toNat : Int) := by unfold wrap64; omega
  have w1 : wrap64 ((s[1]'(by omega)).toNat : Int) = ((s[1]'(by omega)).toNat : Int) := by unfold wrap64; omega
  have w2 : wrap64 (((s[0]'(by omega)).toNat : Int) * 256) = ((s[0]'(by omega)).toNat : Int) * 256 := by unfold wrap64; omega
  have hw : bits .or .i64 (wrap64 (wrap64 ((s[0]'(by omega)).toNat : Int) * 256)) (wrap64 ((s[1]'(by omega)).toNat : Int)) = (n : Int) := by rw [w0, w1, w2]; exact hbits
  have Hw := Lib.hid hw
  clear hbits w0 w1 w2 hw
  have hnl : n < 65536 := by omega
  have j0 : 0 < s.size := by omega
  have j1 : 1 < s.size := by omega
  have i0 : (0 : Int) < (s.size : Int) := by omega
  have i1 : (1 : Int) < (s.size : Int) := by omega
  have Hi := Lib.hid hi
  clear hi hn e0 e1 h0 h1
  go_enter Tryd.func75, Tryd.ntmps75
  go_wp2
  go_quiet (fail)
  rw [Hw.out]
  have hz : (s.extract 6 s.size).size = s.size - 6 := by simp
  have hx : bl (s.extract 6 s.size) = (bl s).drop 6 := bl_from s 6
  have Hx := Lib.hid hx
  clear hx
  generalize s.extract 6 s.size = t at *
  by_cases hlt : s.size - 6 < n
  · have hc : (t.size : Int) < (n : Int) := by omega
    go_wp2
    go_ret2
    exact ⟨by rw [Hi.out, if_pos hlt]; rfl, below_drewN (Below.refl _ _) _⟩
  · have hc : ¬ (t.size : Int) < (n : Int) := by omega
    go_wp2
    go_ret2
    refine ⟨?_, below_drewN (Below.refl _ _) _⟩
    rw [Hi.out, if_neg hlt]
    have : t.extract 0 n = str (((bl s).drop 6).take n) := by rw [← Hx.out, ← bl_upto, str_bl]
    rw [this]
    rfl

theorem inside_any (s : ByteArray) (w : World) (hs : s.size ≤ 140737488355328) :
    Calls Tryd.prog 75 #[.string s] w (okOpt (insB (bl s)) w) := by
  by_cases h : s.size < 6
  · exact inside_short s w h
  · exact inside_long s w hs (by omega)

end Go.Proofs.YtjllpbckmioiiaaDoor

/- What cut of package frame does. -/
namespace Go.Proofs.YtjllpbckmioiiaaDoor
open Go.RowKit
set_option maxRecDepth 100000

/-- 'copy' of a string into an array of 32 bytes that was just made. -/
theorem run_copy32 (w : World) (x : ByteArray) :
    (Builtin.copy_ #[68, 9] 3 #[.slice (some ⟨w.heap.size, 0, none⟩) 32 32, .string x]).run Tryd.prog (w.alloc (.cells #[Value.int IntKind.u8 0, Value.int IntKind.u8 0, Value.int IntKind.u8 0, Value.int IntKind.u8 0, Value.int IntKind.u8 0, Value.int IntKind.u8 0, Value.int IntKind.u8 0, Value.int IntKind.u8 0, Value.int IntKind.u8 0, Value.int IntKind.u8 0, Value.int IntKind.u8 0, Value.int IntKind.u8 0, Value.int IntKind.u8 0, Value.int IntKind.u8 0, Value.int IntKind.u8 0, Value.int IntKind.u8 0, Value.int IntKind.u8 0, Value.int IntKind.u8 0, Value.int IntKind.u8 0, Value.int IntKind.u8 0, Value.int IntKind.u8 0, Value.int IntKind.u8 0, Value.int IntKind.u8 0, Value.int IntKind.u8 0, Value.int IntKind.u8 0, Value.int IntKind.u8 0, Value.int IntKind.u8 0, Value.int IntKind.u8 0, Value.int IntKind.u8 0, Value.int IntKind.u8 0, Value.int IntKind.u8 0, Value.int IntKind.u8 0] 76)) =
      .ok (.int .i64 ((min x.size 32 : Nat) : Int)) (w.alloc (.cells (Lib.byteCells (pad ((bl x).take 32))).toArray 76)) := by
  obtain ⟨i0, hi, hz0, hz1, hz2⟩ := info_parts Tryd.info5
  have hlen : (Lib.byteCells ((bl x).take 32)).length = min x.size 32 := by rw [Lib.byteCells_length, List.length_take, bl_len, Nat.min_comm]
  have hst := run_storeCells_at Tryd.prog w.heap.size 0 76 (Lib.byteCells ((bl x).take 32)) 0 #[Value.int IntKind.u8 0, Value.int IntKind.u8 0, Value.int IntKind.u8 0, Value.int IntKind.u8 0, Value.int IntKind.u8 0, Value.int IntKind.u8 0, Value.int IntKind.u8 0, Value.int IntKind.u8 0, Value.int IntKind.u8 0, Value.int IntKind.u8 0, Value.int IntKind.u8 0, Value.int IntKind.u8 0, Value.int IntKind.u8 0, Value.int IntKind.u8 0, Value.int IntKind.u8 0, Value.int IntKind.u8 0, Value.int IntKind.u8 0, Value.int IntKind.u8 0, Value.int IntKind.u8 0, Value.int IntKind.u8 0, Value.int IntKind.u8 0, Value.int IntKind.u8 0, Value.int IntKind.u8 0, Value.int IntKind.u8 0, Value.int IntKind.u8 0, Value.int IntKind.u8 0, Value.int IntKind.u8 0, Value.int IntKind.u8 0, Value.int IntKind.u8 0, Value.int IntKind.u8 0, Value.int IntKind.u8 0, Value.int IntKind.u8 0] (w.alloc (.cells #[Value.int IntKind.u8 0, Value.int IntKind.u8 0, Value.int IntKind.u8 0, Value.int IntKind.u8 0, Value.int IntKind.u8 0, Value.int IntKind.u8 0, Value.int IntKind.u8 0, Value.int IntKind.u8 0, Value.int IntKind.u8 0, Value.int IntKind.u8 0, Value.int IntKind.u8 0, Value.int IntKind.u8 0, Value.int IntKind.u8 0, Value.int IntKind.u8 0, Value.int IntKind.u8 0, Value.int IntKind.u8 0, Value.int IntKind.u8 0, Value.int IntKind.u8 0, Value.int IntKind.u8 0, Value.int IntKind.u8 0, Value.int IntKind.u8 0, Value.int IntKind.u8 0, Value.int IntKind.u8 0, Value.int IntKind.u8 0, Value.int IntKind.u8 0, Value.int IntKind.u8 0, Value.int IntKind.u8 0, Value.int IntKind.u8 0, Value.int IntKind.u8 0, Value.int IntKind.u8 0, Value.int IntKind.u8 0, Value.int IntKind.u8 0] 76)) (heap_alloc_new w _) (by rw [hlen]; simp; omega) (Lib.byteCells_one _)
  rw [World.setRow_alloc_new, hlen] at hst
  have hrow : (List.take (0 + 0) (#[Value.int IntKind.u8 0, Value.int IntKind.u8 0, Value.int IntKind.u8 0, Value.int IntKind.u8 0, Value.int IntKind.u8 0, Value.int IntKind.u8 0, Value.int IntKind.u8 0, Value.int IntKind.u8 0, Value.int IntKind.u8 0, Value.int IntKind.u8 0, Value.int IntKind.u8 0, Value.int IntKind.u8 0, Value.int IntKind.u8 0, Value.int IntKind.u8 0, Value.int IntKind.u8 0, Value.int IntKind.u8 0, Value.int IntKind.u8 0, Value.int IntKind.u8 0, Value.int IntKind.u8 0, Value.int IntKind.u8 0, Value.int IntKind.u8 0, Value.int IntKind.u8 0, Value.int IntKind.u8 0, Value.int IntKind.u8 0, Value.int IntKind.u8 0, Value.int IntKind.u8 0, Value.int IntKind.u8 0, Value.int IntKind.u8 0, Value.int IntKind.u8 0, Value.int IntKind.u8 0, Value.int IntKind.u8 0, Value.int IntKind.u8 0] : Array Value).toList ++ Lib.byteCells ((bl x).take 32) ++ List.drop (0 + 0 + min x.size 32) (#[Value.int IntKind.u8 0, Value.int IntKind.u8 0, Value.int IntKind.u8 0, Value.int IntKind.u8 0, Value.int IntKind.u8 0, Value.int IntKind.u8 0, Value.int IntKind.u8 0, Value.int IntKind.u8 0, Value.int IntKind.u8 0, Value.int IntKind.u8 0, Value.int IntKind.u8 0, Value.int IntKind.u8 0, Value.int IntKind.u8 0, Value.int IntKind.u8 0, Value.int IntKind.u8 0, Value.int IntKind.u8 0, Value.int IntKind.u8 0, Value.int IntKind.u8 0, Value.int IntKind.u8 0, Value.int IntKind.u8 0, Value.int IntKind.u8 0, Value.int IntKind.u8 0, Value.int IntKind.u8 0, Value.int IntKind.u8 0, Value.int IntKind.u8 0, Value.int IntKind.u8 0, Value.int IntKind.u8 0, Value.int IntKind.u8 0, Value.int IntKind.u8 0, Value.int IntKind.u8 0, Value.int IntKind.u8 0, Value.int IntKind.u8 0] : Array Value).toList) = Lib.byteCells (pad ((bl x).take 32)) := by
    have hz : (#[Value.int IntKind.u8 0, Value.int IntKind.u8 0, Value.int IntKind.u8 0, Value.int IntKind.u8 0, Value.int IntKind.u8 0, Value.int IntKind.u8 0, Value.int IntKind.u8 0, Value.int IntKind.u8 0, Value.int IntKind.u8 0, Value.int IntKind.u8 0, Value.int IntKind.u8 0, Value.int IntKind.u8 0, Value.int IntKind.u8 0, Value.int IntKind.u8 0, Value.int IntKind.u8 0, Value.int IntKind.u8 0, Value.int IntKind.u8 0, Value.int IntKind.u8 0, Value.int IntKind.u8 0, Value.int IntKind.u8 0, Value.int IntKind.u8 0, Value.int IntKind.u8 0, Value.int IntKind.u8 0, Value.int IntKind.u8 0, Value.int IntKind.u8 0, Value.int IntKind.u8 0, Value.int IntKind.u8 0, Value.int IntKind.u8 0, Value.int IntKind.u8 0, Value.int IntKind.u8 0, Value.int IntKind.u8 0, Value.int IntKind.u8 0] : Array Value).toList = List.replicate 32 (Value.int IntKind.u8 0) := rfl
    rw [hz, List.drop_replicate]
    simp [pad, Lib.byteCells, bl_len, Nat.min_comm]
  rw [hrow] at hst
  have htk : List.take (x.size.min 32) (List.map (fun b : UInt8 => Value.int IntKind.u8 (b.toNat : Int)) x.data.toList) = Lib.byteCells ((bl x).take 32) := by
    unfold Lib.byteCells bl
    rw [← List.map_take]
    congr 1
    show List.take (min x.size 32) x.data.toList = _
    rw [show x.size = x.data.toList.length from (bl_len x).symm, Nat.min_comm, ← List.take_take, List.take_length]
  simp [Builtin.copy_, run_underlying Tryd.underlying68, Builtin.lenOf, Builtin.firstCells, sizeOf, typeInfo, hi]
  rw [htk, hst]
  simp [Result.andThen]
  rfl

end Go.Proofs.YtjllpbckmioiiaaDoor

/- What cut of package frame does. -/
namespace Go.Proofs.YtjllpbckmioiiaaDoor
open Go.RowKit
set_option maxRecDepth 100000

def FCutRel (f : List UInt8) (w : World) (v left : Value) (wr : World) : Prop :=
  ∃ k : Nat, left = .string (str (f.drop (32 * k))) ∧ 32 * k < f.length + 32 ∧ OwnsStrs wr w.heap.size v (cutsB k f) ∧ Below w.heap.size w wr

def okOwns (ps : List (List UInt8)) (w : World) (e : Ending) (w' : World) : Prop :=
  ∃ v, e = .returned v ∧ OwnsStrs w' w.heap.size v ps ∧ Below w.heap.size w w'

theorem convert32 (w : World) (P : List UInt8) (h : P.length = 32) :
    (convert 68 9 (.slice (some ⟨w.heap.size, 0, none⟩) 32 32)).run Tryd.prog (w.alloc (.cells (Lib.byteCells P).toArray 76)) = .ok (.string (str P)) (w.alloc (.cells (Lib.byteCells P).toArray 76)) := by
  have := run_convert_bytes_back (P := Tryd.prog) (w.alloc (.cells (Lib.byteCells P).toArray 76)) 68 9 5 ⟨w.heap.size, 0, none⟩ 32 P Tryd.underlying68 Tryd.underlying5 Tryd.underlying9 (by
    intro j hj
    rw [addr_add, Nat.zero_add]
    simp [World.cell?, World.alloc, -World.alloc_eq, Lib.byteCells, hj])
  rw [h] at this
  exact this

theorem own_two {wr : World} {B : Nat} {v : Value} {ps : List (List UInt8)} (h : OwnsStrs wr B v ps) (A : Array Value) (p : List UInt8) :
    ((wr.alloc (.cells A 76)).alloc (.cells #[.string (str p)] 9)).ownsRow B 9 1 v ps.length (strVals ps) :=
  World.ownsRow.alloc (World.ownsRow.alloc h (.cells A 76)) (.cells #[.string (str p)] 9)

theorem last_news (w : World) (o : Obj) (p : List UInt8) :
    ∀ j u, ([Value.string (str p)] : List Value)[j]? = some u → ((w.alloc o).alloc (.cells #[.string (str p)] 9)).cell? ((⟨w.heap.size + 1, 0, none⟩ : Addr).add j) = some u := by
  intro j u hj
  match j, hj with
  | 0, hj =>
    simp at hj
    subst hj
    obtain ⟨b, q, he, _, hc⟩ := strsAt_new [p] (w.alloc o) 0 (by simp)
    rw [addr_add]
    simp only [Option.some.injEq, Addr.mk.injEq, and_true] at he
    obtain ⟨h1, h2⟩ := he
    have hsz : (w.alloc o).heap.size = w.heap.size + 1 := by simp
    rw [← h1, ← h2, hsz] at hc
    exact hc

theorem owns_snoc {w : World} {B : Nat} {v : Value} {ps : List (List UInt8)} {p : List UInt8} {k : Nat} (hl : ps.length = k) (h : w.ownsRow B 9 1 v (k + 1) (strVals ps ++ [.string (str p)])) : OwnsStrs w B v (ps ++ [p]) := by
  unfold OwnsStrs
  rw [strVals_snoc, List.length_append, hl]
  exact h

set_option maxHeartbeats 800000 in
theorem cut_any (f : List UInt8) (w : World) (hs : f.length ≤ 1000000) :
    Calls Tryd.prog 47 #[.string (str f)] w (okOwns (cutsB ((f.length + 31) / 32) f) w) := by
  obtain ⟨i0, hi, hz0, hz1, hz2⟩ := info_parts Tryd.info9
  have hd0 : str (f.drop (32 * 0)) = str f := by simp
  have Hd0 := Lib.hid hd0
  clear hd0
  go_enter Tryd.func47, Tryd.ntmps47
  go_wp2
  go_loopw [3, 4] (fun v left wr => FCutRel f w v left wr) (fun _ left _ => match left with | .string x => x.size | _ => 0)
  case atStart => exact ⟨0, by rw [Hd0.out], by omega, World.ownsRow_nil _ _ _ _, Below.refl _ _⟩
  case round =>
    obtain ⟨k, rfl, hk, hown, hB⟩ := hrel
    by_cases hlt : 32 * k < f.length
    · have hz := str_size (f.drop (32 * k))
      rw [List.length_drop] at hz
      have hq : (str (f.drop (32 * k))).toList.isEmpty = false := by
        rw [toList_bl, bl_str, List.isEmpty_eq_false_iff]
        intro h
        have := congrArg List.length h
        simp at this
        omega
      have hcp := run_copy32 wr (str (f.drop (32 * k)))
      have hcv := convert32 wr (pad (secAt f k)) (pad_length _ (secAt_length_le _ _))
      have hsec : (bl (str (f.drop (32 * k)))).take 32 = secAt f k := by rw [bl_str]; rfl
      rw [hsec] at hcp
      have hleft : (str (f.drop (32 * k))).extract (min (str (f.drop (32 * k))).size 32) (str (f.drop (32 * k))).size = str (f.drop (32 * (k + 1))) := by
        rw [← str_bl (ByteArray.extract _ _ _), bl_from, bl_str, List.drop_drop, hz]
        congr 1
        by_cases h : f.length - 32 * k ≤ 32
        · rw [Nat.min_eq_left h, List.drop_of_length_le (by omega), List.drop_of_length_le (by omega)]
        · rw [Nat.min_eq_right (by omega)]
          rw [show 32 * (k + 1) = 32 * k + 32 from by omega]
      have hsnoc := cutsB_snoc k f
      have hlen := cutsB_length k f
      have hvl := strVals_length (cutsB k f)
      have hmeas : (str (f.drop (32 * (k + 1)))).size < (str (f.drop (32 * k))).size := by rw [hz, str_size, List.length_drop]; omega
      have hxs : 0 < (str (f.drop (32 * k))).size := by omega
      have Hz := Lib.hid hz
      clear hz
      have Hleft := Lib.hid hleft
      have Hsnoc := Lib.hid hsnoc
      have Hmeas := Lib.hid hmeas
      clear hleft hsnoc hmeas hsec
      generalize str (f.drop (32 * k)) = x at *
      generalize pad (secAt f k) = p at *
      generalize (Lib.byteCells p).toArray = A at *
      have hown2 := own_two hown A p
      rw [hlen] at hown2
      have hB2 := below_new (below_new hB (.cells A 76)) (.cells #[.string (str p)] 9)
      have Hown2 := Lib.hid hown2
      have hnews := last_news wr (.cells A 76) p
      have h1c : ∀ u ∈ ([Value.string (str p)] : List Value), u.oneCell' = true := by
        intro u hu
        simp at hu
        subst hu
        rfl
      have Hnews := Lib.hid hnews
      have H1c := Lib.hid h1c
      have hb2s := hB2.size
      clear hnews h1c hown2 hown hB
      go_wp2_with (at_builtin; refine wpList_append_own _ rfl (.tmp 13) (.tmp 16) 34 rfl w.heap.size 9 i0 (.string ByteArray.empty) 1 16 Tryd.underlying34 hi hz0 hz1 hz2 rfl (by decide) _ k _ rfl Hown2.out ⟨wr.heap.size + 1, 0, none⟩ 1 1 [.string (str p)] rfl rfl Hnews.out H1c.out ?_ ?_ hb2s ?_)
      · unfold maxLen; omega
      · omega
      · intro v' w1 hown1 hgrow _
        have hn1 := owns_snoc hlen hown1
        have hb1 := hB2.grown hgrow hb2s (fun j hj => (Hown2.out.lt j hj).1)
        rw [← Hsnoc.out] at hn1
        clear hown1 hgrow hB2 hcp hcv
        go_wp2
        go_roundw
        case rel => exact ⟨k + 1, by rw [← Hleft.out], by omega, hn1, hb1⟩
        case measure => have := Hmeas.out; rw [← Hleft.out] at this; simpa using this
    · have hk' : (f.length + 31) / 32 = k := by omega
      have hq : (str (f.drop (32 * k))).toList.isEmpty = true := by
        rw [toList_bl, bl_str, List.drop_of_length_le (by omega)]; rfl
      have Hk := Lib.hid hk'
      clear hk'
      generalize str (f.drop (32 * k)) = x at *
      go_wp2
      go_ret
      exact ⟨_, rfl, by rw [Hk.out]; exact hown, hB⟩

end Go.Proofs.YtjllpbckmioiiaaDoor


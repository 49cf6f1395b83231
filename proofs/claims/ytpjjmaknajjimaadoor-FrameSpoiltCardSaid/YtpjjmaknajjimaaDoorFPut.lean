/- What put and digits of package frame do. -/
import Derived.Test.YtpjjmaknajjimaaDoorFMem
import Derived.Test.YtpjjmaknajjimaaDoorShBuilder
namespace Go.Proofs.YtpjjmaknajjimaaDoor
open Go.RowKit

theorem flatten_take_snoc (ps : List (List UInt8)) (k : Nat) (h : k < ps.length) : (ps.take (k + 1)).flatten = (ps.take k).flatten ++ ps[k] := by
  rw [List.take_succ_eq_append_getElem h, List.flatten_append]
  simp only [List.flatten_cons, List.flatten_nil, List.append_nil]

theorem flatten_take_len (ps : List (List UInt8)) (k : Nat) : (ps.take k).flatten.length ≤ ps.flatten.length := by
  have h : ps.flatten = (ps.take k).flatten ++ (ps.drop k).flatten := by rw [← List.flatten_append, List.take_append_drop]
  rw [h]; simp

def FPutRel (ps : List (List UInt8)) (w : World) (i : Value) (wr : World) : Prop :=
  ∃ k : Nat, k ≤ ps.length ∧ i = .int .i64 (k : Int) ∧ Lib.IsBuilder 51 5 w.heap.size w.heap.size (Lib.byteCells (ps.take k).flatten) wr ∧ Below w.heap.size w wr

set_option maxHeartbeats 400000 in
theorem fput_any (a : Option Addr) (c : Nat) (ps : List (List UInt8)) (w : World) (hc : StrsAt w a ps) (hl : ps.length ≤ 4611686018427387904) (hs : ps.flatten.length ≤ 140737488355328) :
    Calls Tryd.prog 19 #[.slice a ps.length c] w (okStr (str ps.flatten) w) := by
  have h0 : Lib.IsBuilder 51 5 w.heap.size w.heap.size [] (w.alloc (.cells #[.pointer none, .slice none 0 0] 51)) := Lib.fresh_isBuilder 51 5 w
  have b0 : Below w.heap.size w (w.alloc (.cells #[.pointer none, .slice none 0 0] 51)) := (Below.refl _ w).alloc (Nat.le_refl _) _
  have HC := Lib.hid hc
  clear hc
  go_enter Tryd.func19, Tryd.ntmps19
  go_wp2
  go_loopw [8] (fun i wr => FPutRel ps w i wr) (fun i _ => ps.length - (intOf i).toNat)
  case atStart => exact ⟨0, Nat.zero_le _, rfl, by simpa [Lib.byteCells] using h0, b0⟩
  case round =>
    clear h0 b0
    obtain ⟨k, hk, rfl, hI, hB⟩ := hrel
    by_cases hlt : k < ps.length
    · obtain ⟨b, o, rfl, hb, hcell0⟩ := HC.out k hlt
      have hcell : wr.cell? ⟨b, o + k, none⟩ = some (.string (str ps[k])) := by
        rw [hB.cell (p := ⟨b, o + k, none⟩) hb]; exact hcell0
      have hfl := flatten_take_snoc ps k hlt
      have hfm := flatten_take_len ps (k + 1)
      have hbp := bl_str ps[k]
      have hsz := str_size ps[k]
      have hlen : (Lib.byteCells (ps.take k).flatten).length + (str ps[k]).size ≤ 140737488355328 := by
        rw [Lib.byteCells_length, hsz]
        rw [hfl, List.length_append] at hfm
        omega
      have Hfl := Lib.hid hfl
      have Hbp := Lib.hid hbp
      clear hfl hfm hbp hcell0 hsz
      generalize str ps[k] = s at *
      go_wp2_with (go_at_call 24; refine (Tryd.Builder_WriteString w.heap.size w.heap.size _ s _ hI hlen hB.size).mono ?_)
      rintro e W2 ⟨rfl, h2, b2⟩
      have h2' : Lib.IsBuilder 51 5 w.heap.size w.heap.size (Lib.byteCells (ps.take (k + 1)).flatten) W2 := by
        rw [Lib.strCells_eq, ← Lib.byteCells_append] at h2
        rw [Hfl.out, ← Hbp.out]
        exact Or.inr h2
      have b2' := hB.trans b2
      clear h2 b2 hI hB
      go_wp2
      go_roundw
      case rel => exact ⟨k + 1, by omega, by go_num, h2', b2'⟩
      case measure => simp [intOf]; omega
    · have hk' : k = ps.length := by omega
      subst hk'
      rw [List.take_length] at hI
      go_wp2_with (go_at_call 25; refine (Tryd.Builder_String_any w.heap.size w.heap.size _ _ hI hB.size).mono ?_)
      rintro e W2 ⟨rfl, b2⟩
      have b2' := hB.trans b2
      clear b2 hI hB
      go_wp2
      go_ret
      exact ⟨rfl, b2'⟩

/-! ### digits -/

def digB : Nat → Nat → List UInt8
  | 0, _ => []
  | k + 1, n => digB k (n / 256) ++ [UInt8.ofNat (n % 256)]

theorem digB_length : ∀ k n, (digB k n).length = k
  | 0, _ => rfl
  | k + 1, n => by simp [digB, digB_length k]

theorem digB_two (n : Nat) : digB 2 n = len2 n := rfl
theorem digB_four (n : Nat) : digB 4 n = be4 n := by
  simp [digB, be4, Nat.div_div_eq_div_mul]

def fdigCells (D : List UInt8) (k : Nat) : List Value := List.replicate k (.int .u8 0) ++ Lib.byteCells (D.drop k)

def FDigRel (D : List UInt8) (w : World) (n i : Value) (wr : World) : Prop :=
  ∃ k m : Nat, i = .int .i64 ((k : Int) - 1) ∧ n = .int .u32 (m : Int) ∧ m < 4294967296 ∧ digB k m = D.take k ∧ k ≤ D.length ∧
    wr.ownsRow w.heap.size 5 1 (.slice (some ⟨w.heap.size, 0, none⟩) D.length D.length) D.length (fdigCells D k) ∧ Below w.heap.size w wr

theorem fdigCells_set (D : List UInt8) (k : Nat) (h : k < D.length) : (fdigCells D (k + 1)).set k (.int .u8 (D[k].toNat : Int)) = fdigCells D k := by
  unfold fdigCells
  rw [List.replicate_succ', List.append_assoc, List.set_append_right _ _ (by simp), List.length_replicate, Nat.sub_self, List.drop_eq_getElem_cons h]
  rfl

theorem fdig_last (D : List UInt8) (m k : Nat) (hk : k < D.length) (h : digB (k + 1) m = D.take (k + 1)) :
    digB k (m / 256) = D.take k ∧ D[k].toNat = m % 256 := by
  have e : digB k (m / 256) ++ [UInt8.ofNat (m % 256)] = D.take (k + 1) := h
  rw [List.take_succ_eq_append_getElem hk] at e
  have e' := List.append_inj' e rfl
  refine ⟨e'.1, ?_⟩
  have := e'.2
  simp at this
  rw [← this, ofNat_small _ (by omega)]

set_option maxHeartbeats 400000 in
theorem fdigits_list (n : Nat) (D : List UInt8) (w : World) (hn : n < 4294967296) (hl : D.length ≤ 100) (hD : digB D.length n = D) :
    Calls Tryd.prog 16 #[.int .u32 (n : Int), .int .i64 (D.length : Int)] w (okStr (str D) w) := by
  obtain ⟨i0, hi, hz0, hz1, hz2⟩ := info_parts Tryd.info5
  have hmk := run_make (P := Tryd.prog) w 33 5 i0 (.int .u8 0) Tryd.underlying33 hi hz0 .i64 .i64 (D.length : Int) (D.length : Int) (by omega) (by omega) (by rw [hz2]; omega) (by omega)
  have hown0 : (w.alloc (.cells (madeCells #[.int .u8 0] D.length) 5)).ownsRow w.heap.size 5 1 (.slice (some ⟨w.heap.size, 0, none⟩) D.length D.length) D.length (fdigCells D D.length) := by
    have := World.ownsRow_lit (e := 5) (size := 1) (base := w.heap.size) w (madeCells #[.int .u8 0] D.length) D.length (Nat.le_refl _) (by unfold maxLen; omega) (by simp [size_madeCells])
    have e : (madeCells #[.int .u8 0] D.length).toList = fdigCells D D.length := by
      apply List.ext_getElem?
      intro j
      by_cases hj : j < D.length <;> simp [madeCells, fdigCells, Lib.byteCells, hj, Nat.mod_one]
    rw [← e]
    exact this
  have hb0 : Below w.heap.size w (w.alloc (.cells (madeCells #[.int .u8 0] D.length) 5)) := (Below.refl _ _).alloc (Nat.le_refl _) _
  have HD := Lib.hid hD
  clear hD
  rw [hz1] at hmk
  clear hi hz0 hz1 hz2
  go_enter Tryd.func16, Tryd.ntmps16
  go_wp2
  go_loopw [0, 6] (fun n' i wr => FDigRel D w n' i wr) (fun _ i _ => (intOf i + 1).toNat)
  case atStart => exact ⟨D.length, n, rfl, rfl, hn, by rw [HD.out]; simp, Nat.le_refl _, hown0, hb0⟩
  case round =>
    obtain ⟨k, m, rfl, rfl, hm, hd, hk, hown, hb⟩ := hrel
    cases k with
    | zero =>
      have hcv := run_convert_bytes_back (P := Tryd.prog) wr 33 9 5 ⟨w.heap.size, 0, none⟩ D.length D Tryd.underlying33 Tryd.underlying5 Tryd.underlying9 (by
        intro j hj
        have := hown.cellAt j (by omega)
        rw [addr_add, Nat.zero_add, this]
        simp [fdigCells, Lib.byteCells, List.getElem?_eq_getElem hj])
      have hcv' : (convert 33 9 (.slice (some ⟨w.heap.size, 0, none⟩) D.length D.length)).run Tryd.prog wr = .ok (.string (str D)) wr := hcv
      clear hcv
      go_wp2
      go_ret
      exact ⟨rfl, hb⟩
    | succ k =>
      have hx := hown.cellAt k (by omega)
      rw [show (fdigCells D (k + 1))[k]? = some (.int .u8 0) from by simp [fdigCells, List.getElem?_append]] at hx
      have hf := hown.frozenAt k
      have hs := hown.stored k (.int .u8 ((D[k]'(by omega)).toNat : Int))
      rw [fdigCells_set _ _ (by omega)] at hs
      obtain ⟨hs1, hs2⟩ := hs
      obtain ⟨hd', hlast⟩ := fdig_last D m k (by omega) hd
      have Hs1 := Lib.hid hs1
      have Hs2 := Lib.hid hs2
      have Hd := Lib.hid hd'
      have Hl := Lib.hid hlast
      clear hs1 hs2 hd' hlast hd hown
      go_wp2
      have e : ((m : Int) % 256) = ((D[k]'(by omega)).toNat : Int) := by rw [Hl.out]; omega
      rw [e]
      exact ⟨⟨k, m / 256, rfl, rfl, by omega, Hd.out, by omega, Hs1.out, hb.grown Hs2.out (by have := hb.size; omega) (fun j hj => by cases hj; exact Nat.le_refl _)⟩, by simp [intOf]⟩

theorem fdigits_two (n : Nat) (w : World) (hn : n < 4294967296) : Calls Tryd.prog 16 #[.int .u32 (n : Int), .int .i64 2] w (okStr (str (len2 n)) w) :=
  fdigits_list n (len2 n) w hn (by show 2 ≤ 100; decide) (digB_two n)
theorem fdigits_four (n : Nat) (w : World) (hn : n < 4294967296) : Calls Tryd.prog 16 #[.int .u32 (n : Int), .int .i64 4] w (okStr (str (be4 n)) w) :=
  fdigits_list n (be4 n) w hn (by show 4 ≤ 100; decide) (digB_four n)

end Go.Proofs.YtpjjmaknajjimaaDoor

/- The walk of CrcAdds. -/
import Derived.Test.YthmmdmmgabmgiaaDoorCWorks
import Derived.Deep.DeepCutAuto
namespace Go.Proofs.YthmmdmmgabmgiaaDoor
open Go.RowKit Go.Sort

theorem Tryd.info5 : (Tryd.prog.info? 5).map (fun i => (i.zero, i.size, i.bytes)) = some (some (.int .u8 0), 1, 1) := by kernel_rfl

theorem xorL_length : ∀ (l m r : List UInt8), m.length = l.length → r.length = l.length → (xorL l m r).length = l.length
  | [], [], [], _, _ => rfl
  | a :: l, b :: m, c :: r, h1, h2 => by
    simp only [xorL, List.length_cons]
    rw [xorL_length l m r (by simpa using h1) (by simpa using h2)]
  | [], _ :: _, _, h, _ => by simp at h
  | [], [], _ :: _, _, h => by simp at h
  | _ :: _, [], _, h, _ => by simp at h
  | _ :: _, _ :: _, [], _, h => by simp at h

theorem xorL_get : ∀ (l m r : List UInt8) (k : Nat) (h : k < (xorL l m r).length) (h0 : k < l.length) (h1 : k < m.length) (h2 : k < r.length), (xorL l m r)[k] = xor3 l[k] m[k] r[k]
  | a :: l, b :: m, c :: r, 0, _, _, _, _ => rfl
  | a :: l, b :: m, c :: r, k + 1, h, h0, h1, h2 => by
    simp only [xorL, List.getElem_cons_succ]
    exact xorL_get l m r k (by simpa [xorL] using h) (by simpa using h0) (by simpa using h1) (by simpa using h2)
  | [], _, _, _, _, h, _, _ => by simp at h
  | _ :: _, [], _, _, _, _, h, _ => by simp at h
  | _ :: _, _ :: _, [], _, _, _, _, h => by simp at h

/-- The cells of x in the round of number k. -/
def addCells (X : List UInt8) (k : Nat) : List Value := Lib.byteCells (X.take k) ++ List.replicate (X.length - k) (.int .u8 0)

theorem addCells_zero (X : List UInt8) : addCells X 0 = List.replicate X.length (.int .u8 0) := by simp [addCells, Lib.byteCells]

theorem addCells_all (X : List UInt8) : addCells X X.length = Lib.byteCells X := by simp [addCells]

theorem addCells_at (X : List UInt8) (k : Nat) (h : k < X.length) : (addCells X k)[k]? = some (.int .u8 0) := by
  unfold addCells
  rw [List.getElem?_append_right (by rw [Lib.byteCells_length, List.length_take]; omega), Lib.byteCells_length, List.length_take, Nat.min_eq_left (by omega), Nat.sub_self, List.getElem?_replicate, if_pos (by omega)]

theorem addCells_set (X : List UInt8) (k : Nat) (h : k < X.length) : (addCells X k).set k (.int .u8 (X[k].toNat : Int)) = addCells X (k + 1) := by
  unfold addCells
  have hl : (Lib.byteCells (X.take k)).length = k := by rw [Lib.byteCells_length, List.length_take]; omega
  rw [List.set_append_right _ _ (by omega), hl, Nat.sub_self, show X.length - k = (X.length - (k + 1)) + 1 from by omega, List.replicate_succ, List.set_cons_zero, List.take_succ_eq_append_getElem h, Lib.byteCells_append, List.append_assoc]
  rfl

def AddRel (X : List UInt8) (w wc : World) (i : Value) (wr : World) : Prop :=
  ∃ k : Nat, k ≤ X.length ∧ i = .int .i64 (k : Int) ∧ wr.ownsRow wc.heap.size 5 1 (.slice (some ⟨wc.heap.size, 0, none⟩) X.length X.length) X.length (addCells X k) ∧ Below w.heap.size w wr

/-- The bytes of x, and their sum. -/
theorem adds_bytes (a b c : ByteArray) (n : Nat) (hna : n ≤ a.size) (hnb : n ≤ b.size) (hnc : n ≤ c.size) :
    ∃ X : List UInt8, ∃ hX : X.length = n, (∀ k (h : k < n), X[k]'(by omega) = xor3 (a[k]'(by omega)) (b[k]'(by omega)) (c[k]'(by omega))) ∧
      crcSum X = crcSum ((bl a).take n) ^^^ crcSum ((bl b).take n) ^^^ crcSum ((bl c).take n) := by
  refine ⟨xorL ((bl a).take n) ((bl b).take n) ((bl c).take n), ?_, ?_, crcSum_xor3 _ _ _ (by simp [bl_len]; omega) (by simp [bl_len]; omega)⟩
  · rw [xorL_length _ _ _ (by simp [bl_len]; omega) (by simp [bl_len]; omega), List.length_take, bl_len]; omega
  · intro k h
    rw [xorL_get _ _ _ _ _ (by simp [bl_len]; omega) (by simp [bl_len]; omega) (by simp [bl_len]; omega), List.getElem_take, List.getElem_take, List.getElem_take]
    rfl

set_option maxHeartbeats 1600000 in
theorem crcAdds_walk (a : ByteArray) (s0 : a.size ≤ 140737488351232) (b : ByteArray) (s1 : b.size ≤ 140737488351232) (c : ByteArray) (s2 : c.size ≤ 140737488351232) (w : World) (ht : CTab w) :
    Calls Tryd.prog 6 #[.string a, .string b, .string c] w (okTrue w) := by
  have HT := Lib.hid ht
  have hg := ht.1
  clear ht
  obtain ⟨n, hn⟩ : ∃ n, n = min (min a.size b.size) c.size := ⟨_, rfl⟩
  have hna : n ≤ a.size := by omega
  have hnb : n ≤ b.size := by omega
  have hnc : n ≤ c.size := by omega
  obtain ⟨X, hX, hXg, hXs⟩ := adds_bytes a b c n hna hnb hnc
  subst hX
  have Hn := Lib.hid hn
  have HXs := Lib.hid hXs
  have HXg := Lib.hid hXg
  clear hn hXs hXg
  go_enter Tryd.func6, Tryd.ntmps6
  go_upto_region 3 with (go_at_call 13; refine (cworks_any _ HT.out).mono ?_; rintro e W1 ⟨rfl, b1⟩)
  go_cut [7] (fun t wx => t = .int .i64 (X.length : Int) ∧ wx = W1)
  case first =>
    go_wp2
    all_goals
      go_meet
      case rel =>
        refine ⟨?_, rfl⟩
        have hn := Hn.out
        congr 1
        first | omega | (split at * <;> omega)
  case rest =>
    obtain ⟨rfl, rfl⟩ := hcut
    obtain ⟨i0, hi, hz0, hz1, hz2⟩ := info_parts Tryd.info5
    have hmk := run_make (P := Tryd.prog) wc 29 5 i0 (.int .u8 0) Tryd.underlying29 hi hz0 .i64 .i64 (X.length : Int) (X.length : Int) (by omega) (by omega) (by rw [hz2]; omega) (by omega)
    have hown0 : (wc.alloc (.cells (madeCells #[.int .u8 0] X.length) 5)).ownsRow wc.heap.size 5 1 (.slice (some ⟨wc.heap.size, 0, none⟩) X.length X.length) X.length (addCells X 0) := by
      have := World.ownsRow_lit (e := 5) (size := 1) (base := wc.heap.size) wc (madeCells #[.int .u8 0] X.length) X.length (Nat.le_refl _) (by unfold maxLen; omega) (by simp [size_madeCells])
      have e : (madeCells #[.int .u8 0] X.length).toList = addCells X 0 := by
        rw [addCells_zero]
        apply List.ext_getElem?
        intro j
        by_cases hj : j < X.length <;> simp [madeCells, hj, Nat.mod_one]
      rw [← e]
      exact this
    have hb0 : Below w.heap.size w (wc.alloc (.cells (madeCells #[.int .u8 0] X.length) 5)) := below_new b1 _
    have hwc := b1.size
    rw [hz1] at hmk
    clear hi hz0 hz1 hz2 b1
    go_wp2
    go_loopw [9] (fun i wr => AddRel X w wc i wr) (fun i _ => X.length - (intOf i).toNat)
    case atStart => exact ⟨0, Nat.zero_le _, rfl, hown0, hb0⟩
    case round =>
      obtain ⟨k, hk, rfl, hown, hB⟩ := hrel
      by_cases hlt : k < X.length
      · have hx := hown.cellAt k (by omega)
        rw [addCells_at X k hlt] at hx
        have hf := hown.frozenAt k
        have hs := hown.stored k (.int .u8 (X[k].toNat : Int))
        rw [addCells_set _ _ hlt] at hs
        have ha : k < a.size := by omega
        have hb : k < b.size := by omega
        have hc : k < c.size := by omega
        have hxor : bits .xor .u8 (bits .xor .u8 (a[k].toNat : Int) (b[k].toNat : Int)) (c[k].toNat : Int) = (X[k].toNat : Int) := by
          have h1 := u8_lt a[k]
          have h2 := u8_lt b[k]
          have h3 := u8_lt c[k]
          rw [HXg.out k hlt, xor3_toNat, u8_xor_nat _ _ h1 h2, u8_xor_nat _ _ (Nat.xor_lt_two_pow (n := 8) h1 h2) h3]
        have Hs := Lib.hid hs
        clear hs hown
        go_wp2
        go_region
        all_goals
          go_wp2
          go_roundw
          case rel => exact ⟨k + 1, by omega, by go_num, Hs.out.1, (hB.grown Hs.out.2 (Nat.le_trans hB.size (Nat.le_refl _)) (fun j hj => by cases hj; exact hwc)).drew⟩
          case measure => simp [intOf]; omega
      · have hk' : k = X.length := by omega
        subst hk'
        rw [addCells_all] at hown
        have hcv : ∀ d os, (convert 29 9 (.slice (some ⟨wc.heap.size, 0, none⟩) X.length X.length)).run Tryd.prog (grow (redrawn wr d) os) = .ok (.string (str X)) (grow (redrawn wr d) os) := fun d os =>
          run_convert_bytes_back (P := Tryd.prog) (grow (redrawn wr d) os) 29 9 5 ⟨wc.heap.size, 0, none⟩ X.length X Tryd.underlying29 Tryd.underlying5 Tryd.underlying9 (fun j hj => by
            have := hown.cellAt j (by omega)
            rw [addr_add, Nat.zero_add]
            refine cell_regrown ?_ d os
            rw [this]
            simp [Lib.byteCells, List.getElem?_eq_getElem hj])
        have HT1 := Lib.hid (HT.out.below hB hg)
        have cX : ∀ d os, Calls Tryd.prog 9 #[.string (str X)] (grow (redrawn wr d) os) fun e w'' => e = .returned (.int .u32 (crcSum X : Int)) ∧ ∃ p : Regrown, w'' = grow (redrawn wr p.d) p.os := fun d os => by
          have := csum_any (str X) (grow (redrawn wr d) os) (by rw [str_size]; omega) (HT1.out.below (below_regrown wr d os) HT1.out.1)
          rw [bl_str] at this
          exact Calls.regrown_of this
        have cS : ∀ (s : ByteArray) d os, s.size ≤ 140737488351232 → Calls Tryd.prog 9 #[.string (s.extract 0 X.length)] (grow (redrawn wr d) os) fun e w'' => e = .returned (.int .u32 (crcSum ((bl s).take X.length) : Int)) ∧ ∃ p : Regrown, w'' = grow (redrawn wr p.d) p.os := fun s d os hs => by
          have := csum_any (s.extract 0 X.length) (grow (redrawn wr d) os) (by simp; omega) (HT1.out.below (below_regrown wr d os) HT1.out.1)
          rw [bl_upto] at this
          exact Calls.regrown_of this
        have la := crcSum_lt ((bl a).take X.length)
        have lb := crcSum_lt ((bl b).take X.length)
        have lc := crcSum_lt ((bl c).take X.length)
        have hxs : bits .xor .u32 (bits .xor .u32 (crcSum ((bl a).take X.length) : Int) (crcSum ((bl b).take X.length) : Int)) (crcSum ((bl c).take X.length) : Int) = (crcSum X : Int) := by
          rw [HXs.out, u32_xor_nat _ _ la lb, u32_xor_nat _ _ (Nat.xor_lt_two_pow (n := 32) la lb) lc]
        clear hown
        go_wp2
        refine wp_region_quiet_below cmixed (by kernel_rfl) ?_
        repeat (any_goals (first | go_big_quiet_step (first | with_reducible exact cX _ _ | with_reducible exact cS a _ _ s0 | with_reducible exact cS b _ _ s1 | with_reducible exact cS c _ _ s2) | quiet_step (first | with_reducible exact cX _ _ | with_reducible exact cS a _ _ s0 | with_reducible exact cS b _ _ s1 | with_reducible exact cS c _ _ s2)))
        refine wpQuiet_nil ?_
        intro _ hw'
        obtain ⟨⟨dq, osq⟩, hw''⟩ := hw'
        subst hw''
        go_wp2
        go_ret
        exact ⟨rfl, below_step hB (below_regrown wr dq osq)⟩

end Go.Proofs.YthmmdmmgabmgiaaDoor

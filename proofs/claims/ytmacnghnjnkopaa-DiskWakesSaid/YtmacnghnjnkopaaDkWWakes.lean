/- The walk of DiskWakes. -/
import Derived.Test.YtmacnghnjnkopaaDkWRoom
import Derived.OwnWalk
namespace Go.Proofs.Ytmacnghnjnkopaa.dk
open Go Go.RowKit

def cont (s : Sects) : List Bt := s.map (fun o => o.getD zz)
def vals (l : List Bt) : List Value := l.map fun v => .string (str v)

theorem cont_length (s : Sects) : (cont s).length = s.length := by simp [cont]
theorem cont_put (s : Sects) (k : Nat) (v : Bt) : cont (put s k v) = (cont s).set k v := by simp [cont, put, List.map_set]
theorem cont_get (s : Sects) (k : Nat) (h : k < s.length) : (cont s)[k]? = some ((look s (k : Int)).getD zz) := by
  simp [cont, look_nat, List.getElem?_eq_getElem h]
theorem vals_set (l : List Bt) (k : Nat) (v : Bt) : (vals l).toArray.setIfInBounds k (.string (str v)) = (vals (l.set k v)).toArray := by
  simp [vals, List.map_set]
theorem vals_get (l : List Bt) (k : Nat) (v : Bt) (h : l[k]? = some v) : (vals l).toArray[k]? = some (.string (str v)) := by
  simp [vals, h]
theorem vals_some (l : List Bt) (k : Nat) (h : k < l.length) : ∃ u, (vals l).toArray[k]? = some u := ⟨_, vals_get l k _ (List.getElem?_eq_getElem h)⟩

theorem cnt_lt (s : Sects) (k : Nat) (h : k < s.length) (hn : (look s (k : Int)).isSome = false) : cnt s < s.length := by
  have h1 := cnt_set_some s k zz h
  rw [hn] at h1
  have h2 := cnt_le (s.set k (some zz))
  simp at h1 h2
  omega

theorem write_room {d : DD} {k : Nat} {v : Bt} (hon : d.on = true) (hf : d.fuse = 0) (hk : k < d.n) (hv : v.length = 32) (hr : d.room = (d.n : Int)) : d.write (k : Int) v = (0, { d with more := d.more ++ [(k, v)] }) := by
  refine write_ok hon hf hk hv ?_
  by_cases h : (look d.now (k : Int)).isSome = true
  · exact .inl h
  · right
    have := cnt_lt d.now k (by rw [d.now_length]; exact hk) (by simpa using h)
    rw [d.now_length] at this
    unfold DD.used
    rw [hr]
    omega

theorem stay_app (M : List (Nat × Bt)) (x : Nat × Bt) (bs : List Bool) : stay (M ++ [x]) bs = stay M bs ++ (if bs[M.length]?.getD false then [x] else []) := by
  have := stay_snoc (M ++ [x]) bs M.length (by simp)
  rw [List.take_of_length_le (by simp), List.take_left' rfl] at this
  simpa using this

theorem exec_make_strs {ρ : Operand → Value} {o : Oper} {w : World} (x y : Operand) (z : Nat) (ho : o.op = .makeSlice 47 x y) (hx : ρ x = .int .i64 (z : Int)) (hy : ρ y = .int .i64 (z : Int)) (hz : z ≤ 1000000) :
    (execOp ρ o).run Try.prog w = .ok (.value (.slice (some ⟨w.heap.size, 0, none⟩) z z)) (w.alloc (.cells (vals (List.replicate z [])).toArray 9)) := by
  obtain ⟨i0, hi, hz0, hz1, hz2⟩ := info_parts Try.info9
  have hmk := run_make (P := Try.prog) w 47 9 i0 (.string ByteArray.empty) Try.underlying47 hi hz0 .i64 .i64 (z : Int) (z : Int) (by omega) (by omega) (by rw [hz2]; omega) (by omega)
  rw [hz1] at hmk
  have e : madeCells #[Value.string ByteArray.empty] z = (vals (List.replicate z [])).toArray := by
    apply Array.ext'
    apply List.ext_getElem?
    intro j
    by_cases hj : j < z
    · simp [madeCells, vals, hj, Nat.mod_one, str]
      rfl
    · simp [madeCells, vals, hj]
  have hr : (Instr.makeSlice 47 (.int .i64 (z : Int)) (.int .i64 (z : Int))).run Try.prog w = .ok (.slice (some ⟨w.heap.size, 0, none⟩) z z) (w.alloc (.cells (vals (List.replicate z [])).toArray 9)) := by
    rw [← e]
    simpa [Value.cells] using hmk
  simp [execOp, ho, hx, hy, hr, Result.andThen]

def blank : List Bt := List.replicate 20 []
theorem exec_make20 {ρ : Operand → Value} {o : Oper} {w : World} (x y : Operand) (ho : o.op = .makeSlice 47 x y) (hx : ρ x = .int .i64 20) (hy : ρ y = .int .i64 20) :
    (execOp ρ o).run Try.prog w = .ok (.value (.slice (some ⟨w.heap.size, 0, none⟩) 20 20)) (w.alloc (.cells (vals blank).toArray 9)) := exec_make_strs x y 20 ho hx hy (by decide)

/-- How far the first loop has come. -/
def zeros (k : Nat) : List Bt := List.replicate k zz ++ List.replicate (20 - k) []
theorem zeros_zero : zeros 0 = blank := rfl
theorem zeros_length (k : Nat) (h : k ≤ 20) : (zeros k).length = 20 := by simp [zeros]; omega
theorem zeros_set (k : Nat) (h : k < 20) : (zeros k).set k zz = zeros (k + 1) := by
  unfold zeros
  rw [List.set_append_right _ _ (by simp), show 20 - k = (20 - (k + 1)) + 1 by omega, List.replicate_succ, List.replicate_succ']
  simp

theorem zz_dat : zz = dat 0 := by decide +kernel

theorem letter (c : Nat) (h : c < 256) : ∃ cc : UInt8, (c : Int) % 200 = (cc.toNat : Int) ∧ (dat cc).length = 32 := by
  refine ⟨UInt8.ofNat (c % 200), ?_, ?_⟩
  · rw [ofNat_small _ (by omega)]
    omega
  · unfold dat
    rw [ofNat_small _ (by omega), if_pos (by omega), rep]
    simp

theorem read_now {d : DD} {k : Nat} (hon : d.on = true) (hk : k < d.n) : d.read (k : Int) = ((look d.now (k : Int)).getD zz, 0) := by
  have hh : d.has (k : Int) = true := by simp [DD.has]; omega
  unfold DD.read
  rw [if_neg (by rw [hon]; simp), if_neg (by rw [hh]; simp)]

theorem flush_ok {d : DD} (hon : d.on = true) (hf : d.fuse = 0) : d.flush = (0, { d with base := d.now, more := [] }) := by
  unfold DD.flush
  rw [if_neg (by rw [hon]; simp), oper_none hf, if_neg (by rw [hon]; simp)]

/-- Between two rounds of the loops that write. -/
structure St (d : DD) (base : Sects) (k : Nat) : Prop where
  on : d.on = true
  fuse : d.fuse = 0
  n : d.n = 20
  room : d.room = 20
  base : d.base = base
  more : d.more.length = k

def GW (w : World) (b : Nat) (j : Nat) : Prop := w.heap.size ≤ j ∧ j ≠ b

end Go.Proofs.Ytmacnghnjnkopaa.dk

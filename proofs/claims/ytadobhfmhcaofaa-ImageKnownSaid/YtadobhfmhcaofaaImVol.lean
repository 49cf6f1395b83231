/- Volumes: arrays of eight places, by value; what volumeAt does. -/
import Derived.Test.YtadobhfmhcaofaaImHyp
import Derived.Test.YtadobhfmhcaofaaStillW
import Derived.ChangeKeysEq
import Derived.Deep.WholeRow
import Derived.Laws.StructEq
namespace Go.Proofs.Ytadobhfmhcaofaa.im
open Go Go.RowKit Go.Proofs.Ytadobhfmhcaofaa.ib
set_option maxRecDepth 100000

/-- The first k of eight places from f on; the others are 0. -/
def volK (l : List Int) (f k : Nat) : List Int := (List.range 8).map fun j => if j < k then pl l (f + j) else 0
def vol (l : List Int) (f : Nat) : List Int := volK l f 8
theorem volK_len (l : List Int) (f k : Nat) : (volK l f k).length = 8 := by simp [volK]
theorem vol_len (l : List Int) (f : Nat) : (vol l f).length = 8 := volK_len l f 8
theorem volK_zero (l : List Int) (f : Nat) : volK l f 0 = List.replicate 8 0 := by
  apply List.ext_getElem
  · simp [volK]
  · intro i h1 h2
    rw [List.getElem_replicate]
    simp only [volK, List.getElem_map, Nat.not_lt_zero, if_false]
theorem volK_set (l : List Int) (f k : Nat) : (volK l f k).set k (pl l (f + k)) = volK l f (k + 1) := by
  apply List.ext_getElem
  · simp [volK]
  · intro i h1 h2
    rw [List.getElem_set]
    by_cases h : k = i
    · subst h
      simp [volK]
    · rw [if_neg h]
      simp only [volK, List.getElem_map, List.getElem_range]
      by_cases h3 : i < k
      · rw [if_pos h3, if_pos (by omega)]
      · rw [if_neg h3, if_neg (by omega)]
theorem volK_out {l : List Int} {f k : Nat} (h : l.length ≤ f + k) : volK l f (k + 1) = volK l f k := by
  apply List.ext_getElem
  · simp [volK]
  · intro i h1 h2
    simp only [volK, List.getElem_map, List.getElem_range]
    by_cases h3 : i < k
    · rw [if_pos h3, if_pos (by omega)]
    · by_cases h4 : i = k
      · rw [if_neg h3, if_pos (by omega), pl_out (by omega)]
      · rw [if_neg h3, if_neg (by omega)]
theorem vol_get (l : List Int) (f k : Nat) (h : k < (vol l f).length) : (vol l f)[k] = pl l (f + k) := by
  have h8 : k < 8 := by rw [vol_len] at h; exact h
  simp only [vol, volK, List.getElem_map, List.getElem_range, if_pos h8]
theorem pl_bound {l : List Int} (h : ∀ z ∈ l, i64B z) (i : Nat) : i64B (pl l i) := by
  by_cases hi : i < l.length
  · rw [pl_at hi]
    exact h _ (List.getElem_mem hi)
  · rw [pl_out (by omega)]
    unfold i64B
    omega
theorem vol_bound {l : List Int} (h : ∀ z ∈ l, i64B z) (f : Nat) : ∀ z ∈ vol l f, i64B z := by
  intro z hz
  obtain ⟨i, hi, rfl⟩ := List.getElem_of_mem hz
  rw [vol_get]
  exact pl_bound h _

theorem infoVol : (Try.prog.info? 38).map (·.size) = some 8 := by kernel_rfl
theorem ncells_one (V : List Int) : (ncells V).all (·.oneCell') = true := by
  rw [Array.all_eq_true']
  intro u hu
  simp only [ncells, List.mem_toArray, List.mem_map] at hu
  obtain ⟨z, _, rfl⟩ := hu
  rfl
theorem run_load_vol {w : World} {g : Nat} {V : List Int} (h : Blk w g 38 (ncells V)) (hl : V.length = 8) : (loadVar 38 ⟨g, 0, none⟩).run Try.prog w = .ok (.agg (ncells V)) w :=
  run_loadVar_row w g 38 38 _ (0, 0) _ h Try.underlying38 rfl (by rw [ncells_size, hl]; exact infoVol)
theorem exec_load_vol {ρ : Operand → Value} {o : Oper} {w : World} {g : Nat} {V : List Int} (x : Operand) (ho : o.op = .load 38 x) (hx : ρ x = .pointer (some ⟨g, 0, none⟩)) (h : Blk w g 38 (ncells V)) (hl : V.length = 8) :
    (execOp ρ o).run Try.prog w = .ok (.value (.agg (ncells V))) w := by
  simp only [execOp, ho, hx, Instr.loadAt, Instr.sureAddr, Sem.run_bind, Sem.run_pure, Result.andThen_ok, run_load_vol h hl]
theorem exec_store_vol {ρ : Operand → Value} {o : Oper} {w : World} {g : Nat} {V U : List Int} (x y : Operand) (ho : o.op = .store 38 x y) (hx : ρ x = .pointer (some ⟨g, 0, none⟩)) (hy : ρ y = .agg (ncells U)) (h : Blk w g 38 (ncells V)) (hl : V.length = 8) (hu : U.length = 8) :
    (execOp ρ o).run Try.prog w = .ok .skip (w.setRow g (ncells U)) := by
  simp only [execOp, ho, hx, hy, Instr.storeAt, Instr.sureAddr, Sem.run_bind, Sem.run_pure, Result.andThen_ok, run_storeVar_row w g 38 38 _ _ h (by rw [ncells_size, hu]; exact infoVol) (by rw [ncells_size, ncells_size, hl, hu]) (ncells_one U)]
theorem setRow_at {w : World} {g : Nat} {t : TypeId} {c c' : Array Value} (h : Blk w g t c) : Blk (w.setRow g c') g t c' := by
  unfold Blk at *
  simp [World.setRow, Array.getElem?_modify, h]
theorem setRow_other (w : World) {g k : Nat} (c : Array Value) (h : k ≠ g) : (w.setRow g c).heap[k]? = w.heap[k]? := by
  have h' : ¬ g = k := fun e => h e.symm
  simp [World.setRow, Array.getElem?_modify, h']
theorem setRow_size (w : World) (g : Nat) (c : Array Value) : (w.setRow g c).heap.size = w.heap.size := by simp [World.setRow]
theorem setRow_below {B : Nat} {w w' : World} (h : Below B w w') {g : Nat} (c : Array Value) (hg : B ≤ g) : Below B w (w'.setRow g c) :=
  ⟨h.os, h.tape, h.output, by rw [setRow_size]; exact h.size, fun k hk => by rw [setRow_other _ _ (by omega)]; exact h.block k hk⟩

/-- A volume. -/
def endV (V : List Int) (w : World) (e : Ending) (w' : World) : Prop := e = .returned (.agg (ncells V)) ∧ Below w.heap.size w w'
def VolRel (l : List Int) (f b : Nat) (w : World) (i : Value) (wr : World) : Prop :=
  ∃ k : Nat, k ≤ 8 ∧ i = .int .i64 (k : Int) ∧ Blk wr b 38 (ncells (volK l f k)) ∧ Blk wr w.heap.size 38 (ncells (List.replicate 8 0)) ∧ Below w.heap.size w wr

theorem results_cell1 {fn : Func} {p : Tmp} {ty : TypeId} (h : fn.results = #[.cell p ty]) (tmps : Array Value) (P : Program) (w : World) (a : Addr) (v1 : Value)
    (hp : tmps.getD p undef = .pointer (some a)) (h1 : (loadVar ty a).run P w = .ok v1 w) : (results fn tmps).run P w = .ok v1 w := by
  simp only [results, h]
  simp only [Array.getD_eq_getD_getElem?] at hp
  simp [Sem.run_bind, Result.andThen, asAddr, hp, h1]

set_option maxHeartbeats 3200000 in
theorem volumeAt_any (A : Option Addr) (c : Nat) (l : List Int) (f : Nat) (w : World) (hp : IntsAt w A l) (hl : l.length ≤ 1000) (hf : f ≤ 2000) :
    Calls Try.prog 20 #[.slice A l.length c, .int .i64 (f : Int)] w (endV (vol l f) w) := by
  have HP := Lib.hid hp
  have hsz : (w.alloc (.cells (ncells (List.replicate 8 0)) 38)).heap.size = w.heap.size + 1 := by simp
  have k0 : Blk ((w.alloc (.cells (ncells (List.replicate 8 0)) 38)).alloc (.cells (ncells (List.replicate 8 0)) 38)) (w.heap.size + 1) 38 (ncells (volK l f 0)) := by
    rw [volK_zero, ← hsz]
    exact Blk.new _ _ _
  have k1 : Blk ((w.alloc (.cells (ncells (List.replicate 8 0)) 38)).alloc (.cells (ncells (List.replicate 8 0)) 38)) w.heap.size 38 (ncells (List.replicate 8 0)) := by
    refine (Blk.new w 38 _).of_block (Below.heap_alloc _ _ _ (by rw [hsz]; omega))
  have b0 : Below w.heap.size w ((w.alloc (.cells (ncells (List.replicate 8 0)) 38)).alloc (.cells (ncells (List.replicate 8 0)) 38)) := ((Below.refl _ w).alloc (Nat.le_refl _) _).alloc (by simp) _
  have K0 := Lib.hid k0
  have K1 := Lib.hid k1
  have B0 := Lib.hid b0
  clear hp k0 k1 b0 hsz
  go_enter Try.func20, Try.ntmps20
  go_wp2_with fail
  go_loopw [7] (fun i wr => VolRel l f (w.heap.size + 1) w i wr) (fun i _ => 8 - (intOf i).toNat)
  case atStart => exact ⟨0, by omega, rfl, K0.out, K1.out, B0.out⟩
  case round =>
    clear K0 K1 B0
    obtain ⟨k, hk, rfl, hb, hz, hw⟩ := hrel
    have HB := Lib.hid hb
    have HZ := Lib.hid hz
    have HW := Lib.hid hw
    clear hb hz hw
    by_cases h8 : k < 8
    · have h8i : (k : Int) < 8 := by omega
      by_cases hin : f + k < l.length
      · have hini : (f : Int) + (k : Int) < (l.length : Int) := by omega
        obtain ⟨b, o, rfl, hbl, hc, hz⟩ := HP.out (f + k) hin
        have e0 : wr.cell? ⟨b, o + (f + k), none⟩ = some (.int .i64 l[f + k]) := by rw [HW.out.cell (p := ⟨b, o + (f + k), none⟩) hbl]; exact hc
        have l0 : b < wr.heap.size := Nat.lt_of_lt_of_le hbl HW.out.size
        have q0 := HB.out.frozen k
        obtain ⟨old, q1⟩ : ∃ u, wr.cell? ⟨w.heap.size + 1, k, none⟩ = some u := by
          rw [HB.out.cell k, ncells_at _ k (by rw [volK_len]; exact h8)]
          exact ⟨_, rfl⟩
        have l1 := HB.out.lt
        have HB2 := Lib.hid (fun v => HB.out.set_ k (.int .i64 v))
        have HS := Lib.hid (volK_set l f k)
        rw [pl_at hin] at HS
        clear hc hz hbl
        generalize l[f + k] = x at *
        go_wp2_with fail
        go_roundw
        case rel =>
          refine ⟨k + 1, by omega, by go_num, ?_, HZ.out.of_block (Below.heap_setCell _ _ _ _ (by simp)), HW.out.setCell (p := ⟨w.heap.size + 1, k, none⟩) (Nat.le_succ _) _⟩
          have := HB2.out x
          rw [ncells_set, HS.out] at this
          exact this
        case measure => simp [intOf]; omega
      · have hini : ¬ (f : Int) + (k : Int) < (l.length : Int) := by omega
        have HO := Lib.hid (volK_out (l := l) (f := f) (k := k) (by omega))
        go_wp2_with fail
        go_roundw
        case rel => exact ⟨k + 1, by omega, by go_num, by rw [HO.out]; exact HB.out, HZ.out, HW.out⟩
        case measure => simp [intOf]; omega
    · have h8i : ¬ (k : Int) < 8 := by omega
      obtain rfl : k = 8 := by omega
      have HV := Lib.hid (vol_len l f)
      have HB2 : Hid (Blk wr (w.heap.size + 1) 38 (ncells (vol l f))) := HB.out
      clear HB
      obtain ⟨V, hV⟩ : ∃ x, vol l f = x := ⟨_, rfl⟩
      rw [hV] at HV HB2 ⊢
      have HR := Lib.hid (setRow_at (c' := ncells V) HZ.out)
      have HW2 := Lib.hid (setRow_below HW.out (ncells V) (Nat.le_refl _))
      go_wp2_with (first | (refine wpList_value rfl (exec_load_vol (.tmp 5) rfl rfl HB2.out HV.out) ?_) | (refine wpList_skip rfl (exec_store_vol (.tmp 4) (.tmp 25) rfl rfl rfl HZ.out (by decide) HV.out) ?_))
      exact bodyPost_ret (results_cell1 rfl _ _ _ ⟨w.heap.size, 0, none⟩ _ rfl (run_load_vol HR.out HV.out)) rfl ⟨rfl, HW2.out⟩
end Go.Proofs.Ytadobhfmhcaofaa.im

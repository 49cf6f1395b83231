/- PgOne, PgLast, RcMem, RcList, RcZero, RcEq, RcAbove. -/
import Derived.Test.YtfinmfmbbgakhaaQ0
import Derived.Test.YtfinmfmbbgakhaaQ1
import Derived.Lib.QuietBelow
import Derived.OwnWalk
import Derived.Deep.QuietTactic
import Derived.BigQuiet
import Derived.LoopTactic
import Derived.Laws.AppendOwn
import Derived.Laws.StructEq
import Derived.Laws.Cover2
import Derived.KernelRfl
/- The program's little functions: above, takes, set, last. -/
namespace Go.Proofs.Ytfinmfmbbgakhaa.ch.pg
open Go Go.RowKit Go.Sort Go.Proofs.Ytfinmfmbbgakhaa.ib
set_option maxRecDepth 100000

set_option maxHeartbeats 1600000 in
theorem above_any (a b : Gd) (w : World) : Calls Try.prog 54 #[gv a, gv b] w fun e w' => e = .returned (.bool (above a b)) ∧ Below w.heap.size w w' := by
  obtain ⟨a1, a2⟩ := a
  obtain ⟨b1, b2⟩ := b
  have HR : Hid (above (a1, a2) (b1, b2) = (decide ((b1 : Int) < (a1 : Int)) || (decide ((a1 : Int) = (b1 : Int)) && decide ((b2 : Int) < (a2 : Int))))) := by
    unfold Hid above
    simp [Int.ofNat_inj]
  show Calls Try.prog 54 #[.agg #[.int .u64 (a1 : Int), .int .u64 (a2 : Int)], .agg #[.int .u64 (b1 : Int), .int .u64 (b2 : Int)]] w _
  obtain ⟨r, hr⟩ : ∃ r, above (a1, a2) (b1, b2) = r := ⟨_, rfl⟩
  rw [hr] at HR ⊢
  generalize (a1 : Int) = x1 at *
  generalize (a2 : Int) = x2 at *
  generalize (b1 : Int) = y1 at *
  generalize (b2 : Int) = y2 at *
  clear hr
  have hB1 := (Below.refl w.heap.size w).alloc (Nat.le_refl _) (.cells #[.int .u64 x1, .int .u64 x2] 37)
  have HB := Lib.hid (hB1.alloc hB1.size (.cells #[.int .u64 y1, .int .u64 y2] 37))
  clear hB1
  by_cases h2 : x1 = y1
  · subst h2
    have HT : Hid (r = decide (y2 < x2)) := by unfold Hid; rw [HR.out]; simp
    clear HR
    go_enter Try.func54, Try.ntmps54
    go_wp2_with fail
    go_ret
    rw [HT.out]
    exact ⟨rfl, HB.out⟩
  · have HT : Hid (r = decide (y1 < x1)) := by unfold Hid; rw [HR.out]; simp [h2]
    have hq : (x1 == y1) = false := by simpa using h2
    clear HR
    go_enter Try.func54, Try.ntmps54
    go_wp2_with fail
    go_ret
    rw [HT.out]
    exact ⟨rfl, HB.out⟩

set_option maxHeartbeats 1600000 in
theorem takes_any {w : World} {p n : Nat} (c0 : w.cell? ⟨p, 0, none⟩ = some (.int .i64 (n : Int))) (k : Int) (s : Bt) : Calls Try.prog 31 #[.pointer (some ⟨p, 0, none⟩), .int .i64 k, .string (str s)] w fun e w' => e = .returned (.bool (decide (0 ≤ k ∧ k < (n : Int) ∧ s.length = 32))) ∧ Below w.heap.size w w' := by
  have HS : Hid ((str s).size = s.length) := str_size s
  obtain ⟨t, ht⟩ : ∃ t, str s = t := ⟨_, rfl⟩
  rw [ht] at HS ⊢
  clear ht
  by_cases h0 : (0 : Int) ≤ k
  · by_cases h1 : k < (n : Int)
    · have HR : Hid (decide (0 ≤ k ∧ k < (n : Int) ∧ s.length = 32) = ((t.size : Int) == 32)) := by
        unfold Hid
        rw [Bool.eq_iff_iff]
        simp only [decide_eq_true_eq, beq_iff_eq]
        rw [HS.out]
        omega
      rw [HR.out]
      clear HR
      go_enter Try.func31, Try.ntmps31
      go_wp2_with fail
      go_ret
      exact ⟨rfl, Below.refl _ _⟩
    · have HR : Hid (decide (0 ≤ k ∧ k < (n : Int) ∧ s.length = 32) = false) := decide_eq_false (fun h => h1 h.2.1)
      rw [HR.out]
      clear HR
      go_enter Try.func31, Try.ntmps31
      go_wp2_with fail
      go_ret
      exact ⟨rfl, Below.refl _ _⟩
  · have HR : Hid (decide (0 ≤ k ∧ k < (n : Int) ∧ s.length = 32) = false) := decide_eq_false (fun h => h0 h.1)
    rw [HR.out]
    clear HR
    go_enter Try.func31, Try.ntmps31
    go_wp2_with fail
    go_ret
    exact ⟨rfl, Below.refl _ _⟩

/-- One block of a volume that lies somewhere. -/
theorem set_any {w : World} {b o : Nat} {t : TypeId} {cs : Array Value} (h : Blk w b t cs) (hl : o + 256 ≤ cs.size) (k : Nat) (hk : k < 8) (s : Bt) (hs : s.length = 32) :
    Calls Try.prog 32 #[.pointer (some ⟨b, o, none⟩), .int .i64 (k : Int), .string (str s)] w fun e w' => e = .returned (.tuple #[]) ∧ w' = w.setRow b (cs.toList.take (o + k * 32) ++ Lib.byteCells s ++ cs.toList.drop (o + k * 32 + 32)).toArray := by
  have HB := Lib.hid h
  have HL : Hid (o + k * 32 + 32 ≤ cs.size) := by unfold Hid; omega
  have HS : Hid ((str s).size = 32) := (str_size s).trans hs
  have hk8 : (k : Int) < 8 := by omega
  have HBL : Hid (bl (str s) = s) := bl_str s
  obtain ⟨t2, ht⟩ : ∃ t2, str s = t2 := ⟨_, rfl⟩
  rw [ht] at HS HBL ⊢
  clear ht hl hs h
  obtain ⟨iu, hi, hz0, hz1, hz2⟩ := info_parts Try.info5
  go_enter Try.func32, Try.ntmps32
  go_wp2_with (refine wpList_value rfl (exec_copy_part w (.tmp 10) (.tmp 11) 82 9 5 t2 b (o + k * 32) 32 _ t cs iu rfl rfl rfl HS.out HB.out HL.out Try.underlying82 hi hz1) ?_)
  go_end0
  rw [HBL.out]
  exact ⟨rfl, rfl⟩
end Go.Proofs.Ytfinmfmbbgakhaa.ch.pg

/- The program's last snapshot of a row. -/
namespace Go.Proofs.Ytfinmfmbbgakhaa.ch.pg
open Go Go.RowKit Go.Sort Go.Proofs.Ytfinmfmbbgakhaa.ib
set_option maxRecDepth 100000

/-- The last one; if there is none, one of zeros. -/
def lastS (n : Nat) (l : List Sn) : Sn := (l.getLast?).getD ⟨(0, 0), zvol n, false⟩
theorem lastS_ok {n : Nat} {l : List Sn} (h : ∀ s ∈ l, volOk n s.bs) : volOk n (lastS n l).bs := by
  unfold lastS
  cases hl : l.getLast? with
  | none => exact zvol_ok n
  | some s => exact h s (List.mem_of_getLast? hl)
theorem lastS_g (d : CH) : (lastS d.live.length d.snaps).g = d.last := by
  unfold lastS CH.last
  cases d.snaps.getLast? <;> rfl
theorem lastS_bs (d : CH) : (lastS d.live.length d.snaps).bs = d.base := by
  unfold lastS CH.base
  cases d.snaps.getLast? <;> rfl
theorem lastS_nil (n : Nat) : lastS n [] = ⟨(0, 0), zvol n, false⟩ := rfl
theorem lastS_pos (n : Nat) (l : List Sn) (k : Nat) (hk : k < l.length) (hl : k + 1 = l.length) : lastS n l = l[k] := by
  unfold lastS
  rw [List.getLast?_eq_getElem?, show l.length - 1 = k by omega, List.getElem?_eq_getElem hk]
  rfl
theorem sc_zvol (n : Nat) (h8 : n ≤ 8) : sc ⟨(0, 0), zvol n, false⟩ = sc z0 := by
  unfold sc z0
  dsimp only
  rw [vc_zvol n h8]

theorem exec_zero {ρ : Operand → Value} {o : Oper} {w : World} {i : TypeInfo} {z : Array Value} (ho : o.op = .build 84 #[]) (hi : Try.prog.info? 84 = some i) (hz : i.zero = some (.agg z)) :
    (execOp ρ o).run Try.prog w = .ok (.value (.agg z)) w := by
  have hz : ∀ w, (zeroValue 84).run Try.prog w = .ok (.agg z) w := fun w => by simp [zeroValue, typeInfo, hi, hz]
  simp [execOp, ho, Instr.build, hz, Result.andThen, go_sem, Value.cells]

set_option maxHeartbeats 1600000 in
theorem last_any {w : World} {n : Nat} {v : Value} {l : List Sn} (h : SRow w v l) (ho : ∀ s ∈ l, volOk n s.bs) (h8 : n ≤ 8) (h20 : l.length ≤ 20) :
    Calls Try.prog 33 #[v] w fun e w' => e = .returned (.agg (sc (lastS n l)).toArray) ∧ Below w.heap.size w w' := by
  obtain ⟨i0, hi, hz0, hz1, hz2⟩ := info_parts infoSnp
  obtain ⟨A, c, rfl, hlc, hA, hx⟩ := srow_view h ho h8
  have HX := Lib.hid hx
  have HI := Lib.hid hi
  have HZ := Lib.hid hz0
  have HB := Lib.hid ((Below.refl w.heap.size w).alloc (Nat.le_refl _) (.cells (sc (lastS n l)).toArray 84))
  have HN : Hid (Blk (w.alloc (.cells (sc (lastS n l)).toArray 84)) w.heap.size 84 (sc (lastS n l)).toArray) := Blk.new _ _ _
  have HLEN : Hid ((sc (lastS n l)).length = 259) := sc_len (lastS_ok ho) h8
  have HZL : Hid ((sc z0).length = 259) := by unfold Hid z0; exact sc_len (n := 0) ⟨rfl, fun v hv => by simp at hv⟩ (by omega)
  have HZZ := Lib.hid (fun (e : l.length = 0) => show sc (lastS n l) = sc z0 by rw [List.length_eq_zero_iff.1 e, lastS_nil, sc_zvol n h8])
  have HP := Lib.hid (fun k hk hl => lastS_pos n l k hk hl)
  obtain ⟨S, hS⟩ : ∃ S, sc (lastS n l) = S := ⟨_, rfl⟩
  have HS := Lib.hid hS
  rw [hS] at HB HN HLEN HZZ ⊢
  have H1 : Hid (∀ u ∈ S, u.oneCell' = true) := by unfold Hid; rw [← hS]; exact sc_one _
  clear h hi hz0 hz1 hz2 hx hS
  have HRES : Hid (∀ W, Blk W w.heap.size 84 S.toArray → (loadVar 84 ⟨w.heap.size, 0, none⟩).run Try.prog W = .ok (.agg S.toArray) W) := fun W hW =>
    run_loadVar_part W w.heap.size 0 84 84 S.toArray S (0, 0) _ hW Try.underlying84 rfl (by rw [sizeSnp, HLEN.out]) (fun j u hu => by rw [Nat.zero_add]; simpa using hu)
  by_cases hz : l.length = 0
  · obtain ⟨Z, hZ⟩ : ∃ Z, sc z0 = Z := ⟨_, rfl⟩
    have hzz := HZZ.out hz
    rw [hZ] at HZ HZL hzz
    subst hzz
    rw [hz]
    clear HZZ HP hZ HS HX
    go_enter Try.func33, Try.ntmps33
    go_wp2_with (first | (refine wpList_value rfl (exec_alloc 84 i0 S.toArray rfl HI.out HZ.out) ?_) | (refine wpList_value rfl (exec_zero rfl HI.out HZ.out) ?_) | (refine wpList_skip rfl (exec_store_new w 84 S.toArray S.toArray (.tmp 2) (.tmp 6) rfl rfl rfl (by rw [sizeSnp, List.size_toArray, HLEN.out]) rfl (cells_all H1.out)) ?_))
    refine bodyPost_ret (v := .agg S.toArray) ?_ rfl ?_
    · exact results_cell1 rfl _ _ _ ⟨w.heap.size, 0, none⟩ _ rfl (HRES.out _ HN.out)
    exact ⟨rfl, HB.out⟩
  · obtain ⟨k, hk⟩ : ∃ k, l.length - 1 = k := ⟨_, rfl⟩
    have hkl : k < l.length := by omega
    have hSk := HP.out k hkl (by omega)
    obtain ⟨g, cur, rfl, hb, hc⟩ := HX.out k hkl
    rw [← hSk, HS.out] at hc
    have HC := Lib.hid hc
    have HBG : Hid (Blk (w.alloc (.cells (sc z0).toArray 84)) g 84 cur) := hb.of_block (Below.heap_alloc w _ _ hb.lt)
    have hw : IntKind.i64.wrap ((l.length : Int) - 1) = (k : Int) := by rw [IntWalk.i64_in _ (by omega)]; omega
    have hki : (k : Int) < (l.length : Int) := by omega
    have hnz : ((l.length : Int) == 0) = false := beq_false_of_ne (by omega)
    obtain ⟨Z, hZ⟩ : ∃ Z, sc z0 = Z := ⟨_, rfl⟩
    rw [hZ] at HZ HZL HBG
    clear HZZ HP hZ HS HX hb hc hSk hk hz
    go_enter Try.func33, Try.ntmps33
    go_wp2_with (first | (refine wpList_value rfl (exec_alloc 84 i0 Z.toArray rfl HI.out HZ.out) ?_) | (refine wpList_value rfl (exec_load_part 84 (.tmp 11) rfl g (k * 259) rfl _ cur S _ _ HBG.out Try.underlying84 rfl (by rw [sizeSnp, HLEN.out]) HC.out) ?_) | (refine wpList_skip rfl (exec_store_new w 84 Z.toArray S.toArray (.tmp 2) (.tmp 12) rfl rfl rfl (by rw [sizeSnp, List.size_toArray, HLEN.out]) (by rw [List.size_toArray, List.size_toArray, HLEN.out, HZL.out]) (cells_all H1.out)) ?_))
    refine bodyPost_ret (v := .agg S.toArray) ?_ rfl ?_
    · exact results_cell1 rfl _ _ _ ⟨w.heap.size, 0, none⟩ _ rfl (HRES.out _ HN.out)
    exact ⟨rfl, HB.out⟩
end Go.Proofs.Ytfinmfmbbgakhaa.ch.pg

/- The document's chain in memory: its two slices, the rows behind them. -/
namespace Go.Proofs.Ytfinmfmbbgakhaa.ch
open Go Go.RowKit Go.Proofs.Ytfinmfmbbgakhaa.ib
set_option maxRecDepth 100000

theorem infoSn : (Try.prog.info? 79).map (fun i => (i.zero, i.size, i.bytes)) = some (some (.agg #[.int .u64 0, .int .u64 0, .slice none 0 0, .bool false]), 4, 48) := by kernel_rfl

/-! ### Volumes -/
def txv (l : List Bt) : List Value := l.map fun s => .string (str s)
theorem txv_len (l : List Bt) : (txv l).length = l.length := by simp [txv]
theorem txv_get (l : List Bt) (k : Nat) (h : k < l.length) : (txv l)[k]? = some (.string (str l[k])) := by simp [txv, h]
theorem txv_set (l : List Bt) (k : Nat) (s : Bt) : (txv l).set k (.string (str s)) = txv (l.set k s) := by simp [txv, List.map_set]
theorem txv_one (l : List Bt) : ∀ u ∈ txv l, u.oneCell' = true := by
  intro u hu
  obtain ⟨z, _, rfl⟩ := List.mem_map.1 hu
  rfl
/-- A row of texts at a block's begin. -/
def TxB (w : World) (g : Nat) (l : List Bt) : Prop := ∃ e, Blk w g 9 (txv l ++ e).toArray
section
variable {w w' : World} {g : Nat} {l : List Bt}
theorem TxB.cell (h : TxB w g l) (k : Nat) (hk : k < l.length) : w.cell? ⟨g, k, none⟩ = some (.string (str l[k])) := by
  obtain ⟨e, h⟩ := h
  rw [h.cell k]
  simp only [List.getElem?_toArray]
  rw [List.getElem?_append_left (by rw [txv_len]; exact hk)]
  exact txv_get l k hk
theorem TxB.frozen (h : TxB w g l) (k : Nat) : w.frozen? ⟨g, k, none⟩ = false := by
  obtain ⟨e, h⟩ := h
  exact h.frozen k
theorem TxB.lt (h : TxB w g l) : g < w.heap.size := by
  obtain ⟨e, h⟩ := h
  exact h.lt
theorem TxB.of_block (h : TxB w g l) (hb : w'.heap[g]? = w.heap[g]?) : TxB w' g l := by
  obtain ⟨e, h⟩ := h
  exact ⟨e, h.of_block hb⟩
theorem TxB.set_ (h : TxB w g l) (k : Nat) (hk : k < l.length) (v : Bt) : TxB (w.setCell ⟨g, k, none⟩ (.string (str v))) g (l.set k v) := by
  obtain ⟨e, h⟩ := h
  refine ⟨e, ?_⟩
  have h2 := h.set_ k (.string (str v))
  rw [show (txv l ++ e).toArray.setIfInBounds k (.string (str v)) = (txv (l.set k v) ++ e).toArray from by
    rw [List.setIfInBounds_toArray, List.set_append_left _ _ (by rw [txv_len]; exact hk), txv_set]] at h2
  exact h2
theorem TxB.txl (h : TxB w g l) : TxL w (some ⟨g, 0, none⟩) l := fun i hi => ⟨g, 0, rfl, h.lt, by rw [Nat.zero_add]; exact h.cell i hi⟩
theorem TxL.row {A : Addr} (h : TxL w (some A) l) : ∀ (j : Nat) (u : Value), (txv l)[j]? = some u → w.cell? (A.add j) = some u := by
  intro j u hu
  unfold txv at hu
  rw [List.getElem?_map] at hu
  cases hz : l[j]? with
  | none => rw [hz] at hu; cases hu
  | some z =>
    rw [hz] at hu
    injection hu with hu
    subst hu
    obtain ⟨hj, rfl⟩ := List.getElem?_eq_some_iff.1 hz
    obtain ⟨b, o, h1, _, h3⟩ := h j hj
    injection h1 with h1
    subst h1
    rw [addr_add, h3]
/-- A row that was made holds a volume. -/
theorem own_txb {B : Nat} {v : Value} (h : w.ownsRow B 9 1 v l.length (txv l)) (h1 : 1 ≤ l.length) : ∃ g c, v = .slice (some ⟨g, 0, none⟩) l.length c ∧ B ≤ g ∧ l.length ≤ c ∧ TxB w g l := by
  rcases h.2 with ⟨_, h0⟩ | ⟨g, cap, cur, rfl, hg, hh, hcc, hm, hcs, hcur⟩
  · omega
  · refine ⟨g, cap, rfl, hg, hcc, cur.toList.drop l.length, ?_⟩
    have : (txv l ++ cur.toList.drop l.length).toArray = cur := by
      rw [← hcur, Nat.mul_one, List.take_append_drop]
    rw [this]
    exact hh
end
/-- A volume that was made. -/
def okTb (l : List Bt) (w : World) (e : Ending) (w' : World) : Prop := ∃ g c, e = .returned (.slice (some ⟨g, 0, none⟩) l.length c) ∧ w.heap.size ≤ g ∧ l.length ≤ c ∧ TxB w' g l ∧ Below w.heap.size w w'

/-! ### Snapshots: what is known of one, where its volume lies, with what room -/
abbrev RSn := Sn × Nat × Nat
def snV (x : RSn) : List Value := [.int .u64 (x.1.g.1 : Int), .int .u64 (x.1.g.2 : Int), .slice (some ⟨x.2.1, 0, none⟩) x.1.bs.length x.2.2, .bool x.1.hid]
def snRow : List RSn → List Value
  | [] => []
  | x :: r => snV x ++ snRow r
theorem snRow_append : ∀ (l r : List RSn), snRow (l ++ r) = snRow l ++ snRow r
  | [], _ => rfl
  | x :: l, r => by
    show snV x ++ snRow (l ++ r) = snV x ++ snRow l ++ snRow r
    rw [snRow_append l r, List.append_assoc]
theorem snRow_len : ∀ l : List RSn, (snRow l).length = l.length * 4
  | [] => rfl
  | x :: l => by simp [snRow, snV, snRow_len l]; omega
theorem snRow_get : ∀ (l : List RSn) (i : Nat) (h : i < l.length) (j : Nat), j < 4 → (snRow l)[i * 4 + j]? = (snV l[i])[j]?
  | x :: l, 0, _, j, hj => by
    show (snV x ++ snRow l)[0 * 4 + j]? = _
    rw [List.getElem?_append_left (by simp [snV]; omega), Nat.zero_mul, Nat.zero_add]
    rfl
  | x :: l, i + 1, h, j, hj => by
    have := snRow_get l i (by simpa using h) j hj
    show (snV x ++ snRow l)[(i + 1) * 4 + j]? = _
    rw [List.getElem?_append_right (by simp [snV]; omega)]
    rw [show (i + 1) * 4 + j - (snV x).length = i * 4 + j from by simp [snV]; omega]
    exact this
theorem snRow_take : ∀ (l : List RSn) (n : Nat), (snRow l).take (n * 4) = snRow (l.take n)
  | [], n => by simp [snRow]
  | x :: l, 0 => by simp [snRow]
  | x :: l, n + 1 => by
    show (snV x ++ snRow l).take ((n + 1) * 4) = snV x ++ snRow (l.take n)
    rw [show (n + 1) * 4 = (snV x).length + n * 4 from by simp [snV]; omega, List.take_length_add_append, snRow_take l n]
theorem snV_one (x : RSn) : ∀ u ∈ snV x, u.oneCell' = true := by
  intro u hu
  simp [snV] at hu
  rcases hu with rfl | rfl | rfl | rfl <;> rfl

theorem row_view {w : World} {B : Nat} {v : Value} {xs : List RSn} (h : w.ownsRow B 79 4 v xs.length (snRow xs)) :
    ∃ A c, v = .slice A xs.length c ∧ xs.length ≤ c ∧ (A = none → xs.length = 0 ∧ c = 0) ∧ (∀ b o, A = some ⟨b, o, none⟩ → o = 0 ∧ B ≤ b ∧ b < w.heap.size) ∧
      ∀ i (hi : i < xs.length), ∃ g, A = some ⟨g, 0, none⟩ ∧ g < w.heap.size ∧ (∀ k, w.frozen? ⟨g, k, none⟩ = false) ∧ w.cell? ⟨g, i * 4, none⟩ = some (.int .u64 (xs[i].1.g.1 : Int)) ∧ w.cell? ⟨g, i * 4 + 1, none⟩ = some (.int .u64 (xs[i].1.g.2 : Int)) ∧
        w.cell? ⟨g, i * 4 + 2, none⟩ = some (.slice (some ⟨xs[i].2.1, 0, none⟩) xs[i].1.bs.length xs[i].2.2) ∧ w.cell? ⟨g, i * 4 + 3, none⟩ = some (.bool xs[i].1.hid) := by
  rcases h.2 with ⟨rfl, h0⟩ | ⟨g, cap, cur, rfl, hg, hh, hcc, hm, hcs, hcur⟩
  · exact ⟨none, 0, by rw [h0], by omega, fun _ => ⟨h0, rfl⟩, (fun b o h => by cases h), fun i hi => by omega⟩
  · have hgl : g < w.heap.size := (Array.getElem?_eq_some_iff.1 hh).1
    refine ⟨some ⟨g, 0, none⟩, cap, rfl, hcc, (fun h => by cases h), fun b o e => ?_, fun i hi => ⟨g, rfl, hgl, fun k => by simp [World.frozen?, hh], ?_⟩⟩
    · simp only [Option.some.injEq, Addr.mk.injEq, and_true] at e
      obtain ⟨rfl, rfl⟩ := e
      exact ⟨rfl, hg, hgl⟩
    · have key : ∀ (j : Nat) (u : Value), (snRow xs)[j]? = some u → w.cell? ⟨g, j, none⟩ = some u := by
        intro j u hu
        rw [cell_of_row w g j cur 79 (0, 0) hh]
        rw [← hcur, List.getElem?_take] at hu
        split at hu
        · simpa using hu
        · cases hu
      refine ⟨key (i * 4 + 0) _ ?_, key _ _ ?_, key _ _ ?_, key _ _ ?_⟩
      all_goals
        rw [snRow_get xs i hi _ (by omega)]
        rfl

/-- What lies behind the pointer of the document's chain. -/
structure RcAt (w : World) (own : Nat → Prop) (p gn cn : Nat) (v : Value) (xs : List RSn) (d : CH) : Prop where
  blk : Blk w p 76 #[.slice (some ⟨gn, 0, none⟩) d.live.length cn, v]
  now : TxB w gn d.live
  row : w.ownsRow 0 79 4 v xs.length (snRow xs)
  eq : xs.map (·.1) = d.snaps
  vols : ∀ x ∈ xs, TxB w x.2.1 x.1.bs
  room : d.live.length ≤ cn ∧ ∀ x ∈ xs, x.1.bs.length ≤ x.2.2
  op : own p
  on_ : own gn
  om : ∀ k, v.ownBlock = some k → own k
  ov : ∀ x ∈ xs, own x.2.1
  ne : ∀ x ∈ xs, x.2.1 ≠ gn
  low : ∀ k, own k → k < w.heap.size
def RcIs (own : Nat → Prop) (w : World) (p : Nat) (d : CH) : Prop := d.ok ∧ ∃ gn cn v xs, RcAt w own p gn cn v xs d

section
variable {w w' : World} {own : Nat → Prop} {p gn cn : Nat} {v : Value} {xs : List RSn} {d : CH}
theorem blk_type {w : World} {a b : Nat} {t u : TypeId} {x y : Array Value} (h : Blk w a t x) (k : Blk w b u y) (hn : t ≠ u) : a ≠ b := by
  rintro rfl
  unfold Blk at h k
  rw [h] at k
  simp only [Option.some.injEq, Obj.cells.injEq] at k
  exact hn k.2.1
theorem own_type {w : World} {base e size n a : Nat} {v : Value} {xs : List Value} {t : TypeId} {x : Array Value} (h : w.ownsRow base e size v n xs) (k : Blk w a t x) (hn : t ≠ e) : ∀ j, v.ownBlock = some j → j ≠ a := by
  intro j hj
  rcases h.2 with ⟨rfl, _⟩ | ⟨g, cap, cur, rfl, _, hg, _⟩
  · cases hj
  · simp [Value.ownBlock] at hj
    subst hj
    exact (blk_type k hg hn).symm
theorem RcAt.pn (h : RcAt w own p gn cn v xs d) : p ≠ gn := by
  obtain ⟨e, hb⟩ := h.now
  exact blk_type h.blk hb (by decide)
theorem RcAt.px (h : RcAt w own p gn cn v xs d) : ∀ x ∈ xs, x.2.1 ≠ p := fun x hx => by
  obtain ⟨e, hb⟩ := h.vols x hx
  exact (blk_type h.blk hb (by decide)).symm
theorem RcAt.vp (h : RcAt w own p gn cn v xs d) : ∀ j, v.ownBlock = some j → j ≠ p := own_type h.row h.blk (by decide)
theorem RcAt.vn (h : RcAt w own p gn cn v xs d) : ∀ j, v.ownBlock = some j → j ≠ gn := by
  obtain ⟨e, hb⟩ := h.now
  exact own_type h.row hb (by decide)
theorem RcAt.vx (h : RcAt w own p gn cn v xs d) : ∀ j, v.ownBlock = some j → ∀ x ∈ xs, x.2.1 ≠ j := fun j hj x hx => by
  obtain ⟨e, hb⟩ := h.vols x hx
  exact (own_type h.row hb (by decide) j hj).symm
theorem row_of_block {base e size n : Nat} {v : Value} {zs : List Value} (h : w.ownsRow base e size v n zs) (hb : ∀ k, v.ownBlock = some k → w'.heap[k]? = w.heap[k]?) : w'.ownsRow base e size v n zs := by
  refine ⟨h.1, ?_⟩
  rcases h.2 with h2 | ⟨g', cap, cur, h1, h2, h3, h4⟩
  · exact .inl h2
  · refine .inr ⟨g', cap, cur, h1, h2, (hb g' ?_).trans h3, h4⟩
    rw [h1]
    rfl
theorem RcAt.keep (h : RcAt w own p gn cn v xs d) (hs : w.heap.size ≤ w'.heap.size) (hb : ∀ k, own k → w'.heap[k]? = w.heap[k]?) : RcAt w' own p gn cn v xs d :=
  ⟨h.blk.of_block (hb _ h.op), h.now.of_block (hb _ h.on_), row_of_block h.row (fun k hk => hb k (h.om k hk)), h.eq, fun x hx => (h.vols x hx).of_block (hb _ (h.ov x hx)), h.room, h.op, h.on_, h.om, h.ov, h.ne, fun k hk => Nat.lt_of_lt_of_le (h.low k hk) hs⟩
theorem RcIs.keep (h : RcIs own w p d) (hb : ∀ k, own k → w'.heap[k]? = w.heap[k]?) (hs : w.heap.size ≤ w'.heap.size) : RcIs own w' p d := by
  obtain ⟨h0, gn, cn, v, xs, h1⟩ := h
  exact ⟨h0, gn, cn, v, xs, h1.keep hs hb⟩
theorem RcIs.low (h : RcIs own w p d) : ∀ k, own k → k < w.heap.size := by
  obtain ⟨h0, gn, cn, v, xs, h1⟩ := h
  exact h1.low
theorem RcAt.len (h : RcAt w own p gn cn v xs d) : xs.length = d.snaps.length := by rw [← h.eq, List.length_map]
theorem RcAt.nth (h : RcAt w own p gn cn v xs d) (i : Nat) (hi : i < xs.length) : d.snaps[i]? = some xs[i].1 := by
  rw [← h.eq]
  simp [hi]
theorem RcAt.last_none (h : RcAt w own p gn cn v xs d) (h0 : xs.length = 0) : d.last = (0, 0) ∧ d.base = zvol d.live.length := by
  have : d.snaps = [] := List.length_eq_zero_iff.1 (h.len ▸ h0)
  unfold CH.last CH.base
  rw [this]
  exact ⟨rfl, rfl⟩
theorem RcAt.last_some (h : RcAt w own p gn cn v xs d) (h0 : 0 < xs.length) : d.last = (xs[xs.length - 1]'(by omega)).1.g ∧ d.base = (xs[xs.length - 1]'(by omega)).1.bs := by
  have : d.snaps.getLast? = some (xs[xs.length - 1]'(by omega)).1 := by
    rw [List.getLast?_eq_getElem?, ← h.len]
    exact h.nth _ (by omega)
  unfold CH.last CH.base
  rw [this]
  exact ⟨rfl, rfl⟩
end
end Go.Proofs.Ytfinmfmbbgakhaa.ch

/- The document's small functions on lists: a list of one's own, zeros, are two alike. -/
namespace Go.Proofs.Ytfinmfmbbgakhaa.ch
open Go Go.RowKit Go.Proofs.Ytfinmfmbbgakhaa.ib
set_option maxRecDepth 100000

set_option maxHeartbeats 1600000 in
theorem rown_any (A : Option Addr) (c : Nat) (l : List Bt) (w : World) (hT : TxL w A l) (h1 : 1 ≤ l.length) (hl : l.length ≤ 1000) (hc : l.length ≤ c) :
    Calls Try.prog 30 #[.slice A l.length c] w (okTb l w) := by
  obtain ⟨i0, hi, hz0, hz1, hz2⟩ := info_parts Try.info9
  have H0 : Hid (w.ownsRow w.heap.size 9 1 (.slice none 0 0) 0 []) := World.ownsRow_nil _ _ _ _
  obtain ⟨b, o, rfl, _, _⟩ := hT 0 h1
  have HNEWS := Lib.hid (TxL.row hT)
  have HONE := Lib.hid (txv_one l)
  have HH1 := Lib.hid h1
  clear hT
  go_enter Try.func30, Try.ntmps30
  go_wp2_with (at_builtin; refine wpList_append_own _ rfl (.tmp 4) (.tmp 5) 48 rfl w.heap.size 9 i0 (.string ByteArray.empty) 1 16 Try.underlying48 hi hz0 hz1 hz2 rfl (by decide) _ 0 [] rfl H0.out ⟨b, o, none⟩ l.length c (txv l) rfl (by rw [txv_len, Nat.mul_one]) HNEWS.out HONE.out ?_ ?_ (Nat.le_refl _) ?_)
  · unfold maxLen; omega
  · omega
  · intro v' w1 hown hgrow _
    have hb1 := (Below.refl w.heap.size w).grown hgrow (Nat.le_refl _) (fun j hj => (H0.out.lt j hj).1)

    obtain ⟨g, cc, rfl, hg, hcc, ht⟩ := own_txb hown HH1.out
    have HT := Lib.hid ht
    clear hown hgrow ht
    go_wp2_with fail
    go_ret
    exact ⟨g, cc, rfl, hg, hcc, HT.out, hb1⟩

theorem drewC {w wr : World} (h : Below w.heap.size w wr) (n : Nat) : Below w.heap.size w (wr.drewN n) := ⟨h.os, h.tape, h.output, h.size, h.block⟩
def okB (r : Bool) (w : World) (e : Ending) (w' : World) : Prop := e = .returned (.bool r) ∧ Below w.heap.size w w'
def AlRel {α : Type} (ps qs : List α) (w : World) (i : Value) (wr : World) : Prop := ∃ k : Nat, k ≤ ps.length ∧ i = .int .i64 (k : Int) ∧ ps.take k = qs.take k ∧ Below w.heap.size w wr

set_option maxHeartbeats 1600000 in
theorem rtexts_any (A A' : Option Addr) (c c' : Nat) (ps qs : List Bt) (w : World) (hp : TxL w A ps) (hq : TxL w A' qs) (hl : ps.length ≤ 9223372036854775807) :
    Calls Try.prog 41 #[.slice A ps.length c, .slice A' qs.length c'] w (okB (decide (ps = qs)) w) := by
  have HP := Lib.hid hp
  have HQ := Lib.hid hq
  clear hp hq
  by_cases hne : ps.length = qs.length
  · have HNE := Lib.hid hne
    have hlb : ((ps.length : Int) != (qs.length : Int)) = false := by rw [hne]; simp
    clear hne
    go_enter Try.func41, Try.ntmps41
    go_wp2_with fail
    go_loopw [5] (fun i wr => AlRel ps qs w i wr) (fun i _ => ps.length - (intOf i).toNat)
    case atStart => exact ⟨0, Nat.zero_le _, rfl, by simp, Below.refl _ _⟩
    case round =>
      obtain ⟨k, hk, rfl, he, hb⟩ := hrel
      have HE := Lib.hid he
      have HB := Lib.hid hb
      clear he hb
      by_cases hlt : k < ps.length
      · obtain ⟨b, o, rfl, hbl, hc⟩ := HP.out k hlt
        have hlq : k < qs.length := by have := HNE.out; omega
        obtain ⟨b', o', rfl, hbl', hc'⟩ := HQ.out k hlq
        have h1 : ps.take (k + 1) = ps.take k ++ [ps[k]] := List.take_succ_eq_append_getElem hlt
        have h2 : qs.take (k + 1) = qs.take k ++ [qs[k]] := List.take_succ_eq_append_getElem hlq
        have hps : ps = qs → ps[k] = qs[k] := fun h => by subst h; rfl
        have HPS := Lib.hid hps
        have H1 := Lib.hid h1
        have H2 := Lib.hid h2
        have e0 : wr.cell? ⟨b, o + k, none⟩ = some (.string (str ps[k])) := by rw [HB.out.cell (p := ⟨b, o + k, none⟩) hbl]; exact hc
        have e1 : wr.cell? ⟨b', o' + k, none⟩ = some (.string (str qs[k])) := by rw [HB.out.cell (p := ⟨b', o' + k, none⟩) hbl']; exact hc'
        have l0 : b < wr.heap.size := Nat.lt_of_lt_of_le hbl HB.out.size
        have l1 : b' < wr.heap.size := Nat.lt_of_lt_of_le hbl' HB.out.size
        have hklt : (k : Int) < (ps.length : Int) := by omega
        have hklq : (k : Int) < (qs.length : Int) := by omega
        clear hc hc' h1 h2 hps
        generalize ps[k] = x at *
        generalize qs[k] = y at *
        by_cases hxy : x = y
        · subst hxy
          have hxq : ((str x).toList == (str x).toList) = true := by simp
          go_wp2_with fail
          go_quiet (fail)
          go_wp2_with fail
          go_roundw
          case rel => exact ⟨k + 1, by omega, by go_num, by rw [H1.out, H2.out, HE.out], by first | exact drewC HB.out _ | exact HB.out⟩
          case measure => simp [intOf]; omega
        · have hd : decide (ps = qs) = false := decide_eq_false fun h => hxy (HPS.out h)
          have hxq : ((str x).toList == (str y).toList) = false := by rw [beq_bl, bl_str]; simp [hxy]
          have HD := Lib.hid hd
          clear hd
          go_wp2_with fail
          go_quiet (fail)
          go_wp2_with fail
          go_ret
          rw [HD.out]
          exact ⟨rfl, by first | exact drewC HB.out _ | exact HB.out⟩
      · have hke : k = ps.length := by omega
        have hd : decide (ps = qs) = true := by
          refine decide_eq_true ?_
          have h := HE.out
          rw [hke, List.take_length, HNE.out, List.take_length] at h
          exact h
        have HD := Lib.hid hd
        clear hd
        go_wp2_with fail
        go_ret
        rw [HD.out]
        exact ⟨rfl, HB.out⟩
  · have hlb : ((ps.length : Int) != (qs.length : Int)) = true := by simp; omega
    have hd : decide (ps = qs) = false := decide_eq_false fun h => hne (by rw [h])
    have HD := Lib.hid hd
    clear hd hne
    go_enter Try.func41, Try.ntmps41
    go_wp2_with fail
    go_ret
    rw [HD.out]
    exact ⟨rfl, Below.refl _ _⟩
end Go.Proofs.Ytfinmfmbbgakhaa.ch

/- A volume of zeros, as the document makes it. -/
namespace Go.Proofs.Ytfinmfmbbgakhaa.ch
open Go Go.RowKit Go.Proofs.Ytfinmfmbbgakhaa.ib
set_option maxRecDepth 100000

theorem exec_makeZ {ρ : Operand → Value} {o : Oper} {w : World} (x y : Operand) (ho : o.op = .makeSlice 82 x y) (hx : ρ x = .int .i64 32) (hy : ρ y = .int .i64 32) :
    (execOp ρ o).run Try.prog w = .ok (.value (.slice (some ⟨w.heap.size, 0, none⟩) 32 32)) (w.alloc (.cells (Lib.byteCells zz).toArray 5)) :=
  exec_make32 x y 32 ho hx hy (by decide)
theorem zvol_snoc (k : Nat) : txv (zvol (k + 1)) = txv (zvol k) ++ [.string (str zz)] := by
  simp [txv, zvol, List.replicate_succ']
theorem zvol_len (k : Nat) : (zvol k).length = k := by simp [zvol]
theorem news_s (w : World) (t : TypeId) (v : Value) : ∀ (j : Nat) (x : Value), ([v] : List Value)[j]? = some x → (w.alloc (.cells #[v] t)).cell? ((⟨w.heap.size, 0, none⟩ : Addr).add j) = some x := by
  intro j x hj
  match j, hj with
  | 0, hj =>
    simp at hj
    subst hj
    rw [addr_add]
    exact (Blk.new w t #[v]).cell 0
def ZeRel (n : Nat) (w : World) (v i : Value) (wr : World) : Prop :=
  ∃ k : Nat, k ≤ n ∧ i = .int .i64 (k : Int) ∧ wr.ownsRow w.heap.size 9 1 v k (txv (zvol k)) ∧ Below w.heap.size w wr

set_option maxHeartbeats 1600000 in
theorem rzeros_any (n : Nat) (w : World) (h1 : 1 ≤ n) (h8 : n ≤ 8) : Calls Try.prog 29 #[.int .i64 (n : Int)] w (okTb (zvol n) w) := by
  obtain ⟨i0, hi, hz0, hz1, hz2⟩ := info_parts Try.info9
  have HH1 := Lib.hid h1
  go_enter Try.func29, Try.ntmps29
  go_wp2_with fail
  go_loopw [3, 4] (fun v i wr => ZeRel n w v i wr) (fun _ i _ => n - (intOf i).toNat)
  case atStart => exact ⟨0, Nat.zero_le _, rfl, World.ownsRow_nil _ _ _ _, Below.refl _ _⟩
  case round =>
    obtain ⟨k, hk, rfl, ho, hB⟩ := hrel
    have HO := Lib.hid ho
    have HB := Lib.hid hB
    clear ho hB
    by_cases hlt : k < n
    · have hklt : (k : Int) < (n : Int) := by omega
      have HC : Hid (∀ W : World, (convert 82 9 (.slice (some ⟨W.heap.size, 0, none⟩) 32 32)).run Try.prog (W.alloc (.cells (Lib.byteCells zz).toArray 5)) = .ok (.string (str zz)) (W.alloc (.cells (Lib.byteCells zz).toArray 5))) :=
        fun W => conv_block zz W.heap.size 32 5 _ zz_length (heap_alloc_new W _)
      have B1 := Lib.hid (HB.out.alloc HB.out.size (.cells (Lib.byteCells zz).toArray 5))
      have B2 := Lib.hid (B1.out.alloc B1.out.size (.cells #[.string (str zz)] 9))
      have O2 := Lib.hid (World.ownsRow.alloc (World.ownsRow.alloc HO.out (.cells (Lib.byteCells zz).toArray 5)) (.cells #[.string (str zz)] 9))
      have HNW := Lib.hid (news_s (wr.alloc (.cells (Lib.byteCells zz).toArray 5)) 9 (.string (str zz)))
      have HSN := Lib.hid (zvol_snoc k)
      clear HO
      go_wp2_with (first
        | (refine wpList_value rfl (exec_makeZ _ _ rfl rfl rfl) ?_; have hconv := HC.out wr)
        | (at_builtin; refine wpList_append_own _ rfl (.tmp 10) (.tmp 13) 48 rfl w.heap.size 9 i0 (.string ByteArray.empty) 1 16 Try.underlying48 hi hz0 hz1 hz2 rfl (by decide) _ k _ rfl O2.out ⟨wr.heap.size + 1, 0, none⟩ 1 1 [.string (str zz)] rfl rfl (by simpa using HNW.out) (fun u hu => by simp at hu; subst hu; rfl) ?_ ?_ B2.out.size ?_))
      · unfold maxLen; omega
      · omega
      · intro v' w1 hown hgrow _
        have HB3 := Lib.hid (B2.out.grown hgrow B2.out.size (fun j hj => (O2.out.lt j hj).1))
        have HO3 : Hid (w1.ownsRow w.heap.size 9 1 v' (k + 1) (txv (zvol (k + 1)))) := by unfold Hid; rw [HSN.out]; exact hown
        clear hown hgrow
        go_wp2_with fail
        go_roundw
        case rel => exact ⟨k + 1, by omega, by go_num, HO3.out, HB3.out⟩
        case measure => simp [intOf]; omega
    · obtain rfl : k = n := by omega
      have ht := HO.out
      rw [← zvol_len k] at ht
      have ho := own_txb (l := zvol k) (B := w.heap.size) (w := wr) (by simpa [zvol_len] using ht) (by rw [zvol_len]; exact HH1.out)
      clear ht HO
      obtain ⟨g, cc, rfl, hg, hcc, ht⟩ := ho
      have HT := Lib.hid ht
      clear ht
      go_wp2_with fail
      go_ret
      exact ⟨g, cc, rfl, hg, hcc, HT.out, HB.out⟩
end Go.Proofs.Ytfinmfmbbgakhaa.ch

/- Are two guids alike, as the program asks it; two changes. -/
namespace Go.Proofs.Ytfinmfmbbgakhaa.ch
open Go Go.RowKit Go.Proofs.Ytfinmfmbbgakhaa.ib
set_option maxRecDepth 100000

@[go_sem] theorem eq_gd (a b c d : Int) (w : World) : (Op.equalIn 10000 37 (.agg #[.int .u64 a, .int .u64 b]) (.agg #[.int .u64 c, .int .u64 d])).run Try.prog w = .ok (a == c && b == d) w := by
  have u3 := Try.underlying35
  have a3 := Try.isAgg35
  have z3 := Try.sizeOf35
  rw [show (10000 : Nat) = 9999 + 1 from rfl, run_equalIn_agg w 9999 37 _ _ (by kernel_rfl) (by kernel_rfl)]
  simp only [Program.fieldsOf, Try.underlying37]
  go_simp
  by_cases h1 : a = c <;> by_cases h2 : b = d <;> simp [h1, h2]
@[go_sem] theorem eq_chg (a c : Int) (b d : ByteArray) (w : World) : (Op.equalIn 10000 60 (.agg #[.int .i64 a, .string b]) (.agg #[.int .i64 c, .string d])).run Try.prog w = .ok (a == c && b.toList == d.toList) w := by
  have u3 := Try.underlying3
  have a3 := Try.isAgg3
  have z3 := Try.sizeOf3
  have u4 := Try.underlying9
  have a4 := Try.isAgg9
  have z4 := Try.sizeOf9
  rw [show (10000 : Nat) = 9999 + 1 from rfl, run_equalIn_agg w 9999 60 _ _ (by kernel_rfl) (by kernel_rfl)]
  simp only [Program.fieldsOf, Try.underlying60]
  go_simp
  by_cases h1 : a = c <;> by_cases h2 : b.toList = d.toList <;> simp [h1, h2]

theorem gd_eq (x y : Gd) : ((x.1 : Int) == (y.1 : Int) && (x.2 : Int) == (y.2 : Int)) = decide (x = y) := by
  obtain ⟨a, b⟩ := x
  obtain ⟨c, d⟩ := y
  rw [Bool.eq_iff_iff]
  simp
  omega
theorem chg_eq (x y : Int × Bt) : (x.1 == y.1 && (str x.2).toList == (str y.2).toList) = decide (x = y) := by
  obtain ⟨a, b⟩ := x
  obtain ⟨c, d⟩ := y
  rw [beq_bl, bl_str, Bool.eq_iff_iff]
  simp
end Go.Proofs.Ytfinmfmbbgakhaa.ch

/- Is a guid above another one; the last one; whether a snapshot may be made; the document's Write. -/
namespace Go.Proofs.Ytfinmfmbbgakhaa.ch
open Go Go.RowKit Go.Sort Go.Proofs.Ytfinmfmbbgakhaa.ib
set_option maxRecDepth 100000

set_option maxHeartbeats 1600000 in
theorem rabove_any (a b : Gd) (w : World) : Calls Try.prog 57 #[gv a, gv b] w (okB (above a b) w) := by
  obtain ⟨a1, a2⟩ := a
  obtain ⟨b1, b2⟩ := b
  have HR : Hid (above (a1, a2) (b1, b2) = (decide ((b1 : Int) < (a1 : Int)) || (decide ((a1 : Int) = (b1 : Int)) && decide ((b2 : Int) < (a2 : Int))))) := by
    unfold Hid above
    simp [Int.ofNat_inj]
  show Calls Try.prog 57 #[.agg #[.int .u64 (a1 : Int), .int .u64 (a2 : Int)], .agg #[.int .u64 (b1 : Int), .int .u64 (b2 : Int)]] w _
  obtain ⟨r, hr⟩ : ∃ r, above (a1, a2) (b1, b2) = r := ⟨_, rfl⟩
  rw [hr] at HR ⊢
  generalize (a1 : Int) = x1 at *
  generalize (a2 : Int) = x2 at *
  generalize (b1 : Int) = y1 at *
  generalize (b2 : Int) = y2 at *
  clear hr
  have hB1 := (Below.refl w.heap.size w).alloc (Nat.le_refl _) (.cells #[.int .u64 x1, .int .u64 x2] 37)
  have HB := Lib.hid (hB1.alloc hB1.size (.cells #[.int .u64 y1, .int .u64 y2] 37))
  clear hB1
  by_cases h1 : y1 < x1
  · have HT : Hid (r = true) := by unfold Hid; rw [HR.out]; simp [h1]
    clear HR
    go_enter Try.func57, Try.ntmps57
    go_wp2_with fail
    go_ret
    rw [HT.out]
    exact ⟨rfl, HB.out⟩
  · by_cases h2 : x1 = y1
    · subst h2
      by_cases h3 : y2 < x2
      · have HT : Hid (r = true) := by unfold Hid; rw [HR.out]; simp [h3]
        clear HR
        go_enter Try.func57, Try.ntmps57
        go_wp2_with fail
        go_ret
        rw [HT.out]
        exact ⟨rfl, HB.out⟩
      · have HT : Hid (r = false) := by unfold Hid; rw [HR.out]; simp [h3]
        clear HR
        go_enter Try.func57, Try.ntmps57
        go_wp2_with fail
        go_ret
        rw [HT.out]
        exact ⟨rfl, HB.out⟩
    · have HT : Hid (r = false) := by unfold Hid; rw [HR.out]; simp [h1, h2]
      have hq : (x1 == y1) = false := by simpa using h2
      clear HR
      go_enter Try.func57, Try.ntmps57
      go_wp2_with fail
      go_ret
      rw [HT.out]
      exact ⟨rfl, HB.out⟩
end Go.Proofs.Ytfinmfmbbgakhaa.ch


/- ChProg, ChGuid, ChBlocks, ChChanges, ChRound. -/
import Derived.Test.YtfinmfmbbgakhaaQ0
import Derived.Test.YtfinmfmbbgakhaaQ11
import Derived.Test.YtfinmfmbbgakhaaQ4
import Derived.Test.YtfinmfmbbgakhaaQ7
import Derived.Test.YtfinmfmbbgakhaaQ9
import Derived.BigQuiet
import Derived.Deep.QuietTactic
import Derived.Lib.QuietBelow
import Derived.LoopTactic
import Derived.Great.BuildSlice
import Derived.Maps.AppendAt
/- What the landed package chain does, of chains that lie in memory as it lays them. -/
namespace Go.Proofs.Ytfinmfmbbgakhaa.ch.pg
open Go Go.RowKit Go.Sort Go.Proofs.Ytfinmfmbbgakhaa.ib
set_option maxRecDepth 100000

/-! ### Calls of a chain that is none -/
theorem nwrite_any (k : Int) (s : Bt) (w : World) : Calls Try.prog 13 #[.pointer none, .int .i64 k, .string (str s)] w (okErr 1 w) := by
  go_enter Try.func13, Try.ntmps13
  go_wp2_with fail
  go_ret
  exact ⟨rfl, Below.refl _ _⟩
theorem nroll_any (k : Int) (w : World) : Calls Try.prog 15 #[.pointer none, .int .i64 k] w (okErr 1 w) := by
  go_enter Try.func15, Try.ntmps15
  go_wp2_with fail
  go_ret
  exact ⟨rfl, Below.refl _ _⟩
theorem nlive_any (w : World) : Calls Try.prog 21 #[.pointer none] w (okTx [] w) := by
  go_enter Try.func21, Try.ntmps21
  go_wp2_with fail
  go_ret
  exact ⟨none, 0, rfl, fun i h => absurd h (by simp), NewA.none _ _, Below.refl _ _⟩
theorem nlist_any (w : World) : Calls Try.prog 25 #[.pointer none] w (okGd [] w) := by
  go_enter Try.func25, Try.ntmps25
  go_wp2_with fail
  go_ret
  exact ⟨none, 0, rfl, fun i h => absurd h (by simp), NewA.none _ _, Below.refl _ _⟩
theorem nchanges_any (k : Int) (w : World) : Calls Try.prog 22 #[.pointer none, .int .i64 k] w (okChE ([], 1) w) := by
  go_enter Try.func22, Try.ntmps22
  go_wp2_with fail
  go_ret2
  exact ⟨none, 0, rfl, ChL.nil _ _, NewA.none _ _, Below.refl _ _⟩
theorem ncopy_any (w : World) : Calls Try.prog 11 #[.pointer none] w fun e w' => e = .returned (.pointer none) ∧ Below w.heap.size w w' := by
  go_enter Try.func11, Try.ntmps11
  go_wp2_with fail
  go_ret
  exact ⟨rfl, Below.refl _ _⟩
set_option maxHeartbeats 1600000 in
theorem nsnap_any (g : Gd) (w : World) : Calls Try.prog 19 #[.pointer none, gv g] w (okErr 1 w) := by
  have HB := Lib.hid ((Below.refl w.heap.size w).alloc (Nat.le_refl _) (.cells #[.int .u64 (g.1 : Int), .int .u64 (g.2 : Int)] 37))
  have q0 : (w.alloc (.cells #[.int .u64 (g.1 : Int), .int .u64 (g.2 : Int)] 37)).cell? ⟨w.heap.size, 0, none⟩ = some (.int .u64 (g.1 : Int)) := (Blk.new w _ _).cell 0
  have q1 : (w.alloc (.cells #[.int .u64 (g.1 : Int), .int .u64 (g.2 : Int)] 37)).cell? ⟨w.heap.size, 1, none⟩ = some (.int .u64 (g.2 : Int)) := (Blk.new w _ _).cell 1
  have HM := Lib.hid (nmay_any g (w.alloc (.cells #[.int .u64 (g.1 : Int), .int .u64 (g.2 : Int)] 37)))
  unfold gv at HM ⊢
  go_enter Try.func19, Try.ntmps19
  go_wp2_with fail
  refine HM.out.mono ?_
  rintro e W ⟨rfl, hb⟩
  have HB2 := Lib.hid (HB.out.trans (hb.mono HB.out.size))
  clear hb HM q0 q1
  go_wp2_with fail
  go_ret
  exact ⟨rfl, HB2.out⟩
set_option maxHeartbeats 1600000 in
theorem nadd_any (g : Gd) (A : Option Addr) (c n : Nat) (w : World) : Calls Try.prog 23 #[.pointer none, gv g, .slice A n c] w (okErr 1 w) := by
  have HB := Lib.hid ((Below.refl w.heap.size w).alloc (Nat.le_refl _) (.cells #[.int .u64 (g.1 : Int), .int .u64 (g.2 : Int)] 37))
  have q0 : (w.alloc (.cells #[.int .u64 (g.1 : Int), .int .u64 (g.2 : Int)] 37)).cell? ⟨w.heap.size, 0, none⟩ = some (.int .u64 (g.1 : Int)) := (Blk.new w _ _).cell 0
  have q1 : (w.alloc (.cells #[.int .u64 (g.1 : Int), .int .u64 (g.2 : Int)] 37)).cell? ⟨w.heap.size, 1, none⟩ = some (.int .u64 (g.2 : Int)) := (Blk.new w _ _).cell 1
  have HM := Lib.hid (nmay_any g (w.alloc (.cells #[.int .u64 (g.1 : Int), .int .u64 (g.2 : Int)] 37)))
  unfold gv at HM ⊢
  go_enter Try.func23, Try.ntmps23
  go_wp2_with fail
  refine HM.out.mono ?_
  rintro e W ⟨rfl, hb⟩
  have HB2 := Lib.hid (HB.out.trans (hb.mono HB.out.size))
  clear hb HM q0 q1
  go_wp2_with fail
  go_ret
  exact ⟨rfl, HB2.out⟩
set_option maxHeartbeats 1600000 in
theorem nhide_any (g : Gd) (w : World) : Calls Try.prog 27 #[.pointer none, gv g] w (okErr 1 w) := by
  have HB := Lib.hid ((Below.refl w.heap.size w).alloc (Nat.le_refl _) (.cells #[.int .u64 (g.1 : Int), .int .u64 (g.2 : Int)] 37))
  have q0 : (w.alloc (.cells #[.int .u64 (g.1 : Int), .int .u64 (g.2 : Int)] 37)).cell? ⟨w.heap.size, 0, none⟩ = some (.int .u64 (g.1 : Int)) := (Blk.new w _ _).cell 0
  have q1 : (w.alloc (.cells #[.int .u64 (g.1 : Int), .int .u64 (g.2 : Int)] 37)).cell? ⟨w.heap.size, 1, none⟩ = some (.int .u64 (g.2 : Int)) := (Blk.new w _ _).cell 1
  have HM := Lib.hid (nfind_any g (w.alloc (.cells #[.int .u64 (g.1 : Int), .int .u64 (g.2 : Int)] 37)))
  unfold gv at HM ⊢
  go_enter Try.func27, Try.ntmps27
  go_wp2_with fail
  refine HM.out.mono ?_
  rintro e W ⟨rfl, hb⟩
  have HB2 := Lib.hid (HB.out.trans (hb.mono HB.out.size))
  clear hb HM q0 q1
  go_wp2_with fail
  go_ret
  exact ⟨rfl, HB2.out⟩
set_option maxHeartbeats 1600000 in
theorem nread_any (g : Gd) (w : World) : Calls Try.prog 24 #[.pointer none, gv g] w (okTxE ([], 1) w) := by
  have HB := Lib.hid ((Below.refl w.heap.size w).alloc (Nat.le_refl _) (.cells #[.int .u64 (g.1 : Int), .int .u64 (g.2 : Int)] 37))
  have q0 : (w.alloc (.cells #[.int .u64 (g.1 : Int), .int .u64 (g.2 : Int)] 37)).cell? ⟨w.heap.size, 0, none⟩ = some (.int .u64 (g.1 : Int)) := (Blk.new w _ _).cell 0
  have q1 : (w.alloc (.cells #[.int .u64 (g.1 : Int), .int .u64 (g.2 : Int)] 37)).cell? ⟨w.heap.size, 1, none⟩ = some (.int .u64 (g.2 : Int)) := (Blk.new w _ _).cell 1
  have HM := Lib.hid (nfind_any g (w.alloc (.cells #[.int .u64 (g.1 : Int), .int .u64 (g.2 : Int)] 37)))
  unfold gv at HM ⊢
  go_enter Try.func24, Try.ntmps24
  go_wp2_with fail
  refine HM.out.mono ?_
  rintro e W ⟨rfl, hb⟩
  have HB2 := Lib.hid (HB.out.trans (hb.mono HB.out.size))
  clear hb HM q0 q1
  go_wp2_with fail
  go_ret2
  exact ⟨none, 0, rfl, fun i h => absurd h (by simp), NewA.none _ _, HB2.out⟩

theorem hImpl : Impl Is0 where
  low := fun ⟨_, _, h⟩ => h.low
  ok := fun ⟨h, _⟩ => h
  keep := fun ⟨h0, v, h⟩ hb hs => ⟨h0, v, h.keep hs hb⟩
  new_none := fun b w hb h => new_none b w hb h
  new_some := fun n w h1 h8 => new_some n w h1 h8
  write := fun k s h _ => (write1_any k s h).mono fun _ _ ha => ha.1
  snap := fun g h hg => snap_any h g hg
  add := fun g A c x h hg hx hl _ => add_any g A c x h hg hx hl
  roll := fun k h _ => (roll1_any k h).mono fun _ _ ha => ha.1
  hide := fun g h _ => hide_any h g
  live := fun h => live_any h
  list := fun h => plist_any h
  read := fun g h _ => read_any h g
  changes := fun k h _ => changes_any h k
  copy := fun h => copy_any h
  at_ := fun ⟨_, _, h⟩ => h.op
  write1 := fun k s h _ => write1_any k s h
  roll1 := fun k h _ => roll1_any k h
  nwrite := fun k s w _ => nwrite_any k s w
  nsnap := fun g w _ => nsnap_any g w
  nadd := fun g A c x w _ _ _ => nadd_any g A c x.length w
  nroll := fun k w _ => nroll_any k w
  nhide := fun g w _ => nhide_any g w
  nlive := nlive_any
  nlist := nlist_any
  nread := fun g w _ => nread_any g w
  nchanges := fun k w _ => nchanges_any k w
  ncopy := ncopy_any
end Go.Proofs.Ytfinmfmbbgakhaa.ch.pg
namespace Go.Proofs.Ytfinmfmbbgakhaa.ch
abbrev Is0 : IsT := pg.Is0
theorem hImpl : Impl Is0 := pg.hImpl
end Go.Proofs.Ytfinmfmbbgakhaa.ch

/- A guid. -/
namespace Go.Proofs.Ytfinmfmbbgakhaa.ch
open Go Go.RowKit Go.Proofs.Ytfinmfmbbgakhaa.ib
set_option maxRecDepth 100000

theorem guid_any (e c : Nat) (w : World) : Calls Try.prog 20 #[.int .u64 (e : Int), .int .u64 (c : Int)] w fun x w' => x = .returned (gv (e, c)) ∧ Below w.heap.size w w' := by
  go_enter Try.func20, Try.ntmps20
  go_wp2_with fail
  have q0 : (w.alloc (.cells #[.int .u64 (e : Int), .int .u64 (c : Int)] 37)).cell? ⟨w.heap.size, 0, none⟩ = some (.int .u64 (e : Int)) := (Blk.new w _ _).cell 0
  have q1 : (w.alloc (.cells #[.int .u64 (e : Int), .int .u64 (c : Int)] 37)).cell? ⟨w.heap.size, 1, none⟩ = some (.int .u64 (c : Int)) := (Blk.new w _ _).cell 1
  refine bodyPost_ret (v := gv (e, c)) (by simp [results, Try.results20, go_sem, q0, q1, gv]) rfl ?_
  exact ⟨rfl, (Below.refl w.heap.size w).alloc (Nat.le_refl _) _⟩
end Go.Proofs.Ytfinmfmbbgakhaa.ch

/- Is a volume made of these letters. -/
namespace Go.Proofs.Ytfinmfmbbgakhaa.ch
open Go Go.RowKit Go.Sort Go.Proofs.Ytfinmfmbbgakhaa.ib
set_option maxRecDepth 100000

theorem hmixed : Try.prog.follows .mixedOrders = true := by kernel_rfl
/-- The letter's byte; 0 for the digit. -/
def lt (c : UInt8) : UInt8 := if c = 48 then 0 else c
def volOf (s : List UInt8) : List Bt := s.map fun c => dat (lt c)

def BkRel (s : ByteArray) (ts : List Bt) (w : World) (i : Value) (wr : World) : Prop := ∃ k : Nat, k ≤ ts.length ∧ i = .int .i64 (k : Int) ∧ Below w.heap.size w wr

set_option maxHeartbeats 3200000 in
theorem blocks_any (A : Option Addr) (c : Nat) (ts : List Bt) (s : ByteArray) (w : World) (hT : TxL w A ts) (hl : ts.length ≤ 1000) (he : volOf (bl s) = ts) :
    Calls Try.prog 28 #[.slice A ts.length c, .int .i64 0, .string s] w fun e w' => e = .returned (.bool true) ∧ Below w.heap.size w w' := by
  have HT := Lib.hid hT
  have hlen : ts.length = s.size := by rw [← he]; simp [volOf, bl_len]
  have hlb : ((ts.length : Int) != (s.size : Int)) = false := by rw [hlen]; simp
  have HLN := Lib.hid hlen
  have HE := Lib.hid he
  clear hT hlen he
  go_enter Try.func28, Try.ntmps28
  go_wp2_with fail
  go_loopw [7] (fun i wr => BkRel s ts w i wr) (fun i _ => ts.length - (intOf i).toNat)
  case atStart => exact ⟨0, Nat.zero_le _, rfl, Below.refl _ _⟩
  case round =>
    obtain ⟨k, hk, rfl, hb⟩ := hrel
    have HB := Lib.hid hb
    clear hb
    by_cases hlt : k < ts.length
    · have hklt : (k : Int) < (ts.length : Int) := by omega
      have hks : k < s.size := by rw [← HLN.out]; exact hlt
      have hksi : (k : Int) < (s.size : Int) := by omega
      obtain ⟨b, o, rfl, hbl, hc⟩ := HT.out k hlt
      have e0 : wr.cell? ⟨b, o + k, none⟩ = some (.string (str ts[k])) := by rw [HB.out.cell (p := ⟨b, o + k, none⟩) hbl]; exact hc
      have l0 : b < wr.heap.size := Nat.lt_of_lt_of_le hbl HB.out.size
      have hts : ts[k] = dat (lt s[k]) := by
        have h1 : ts[k]? = some (dat (lt s[k])) := by
          rw [← HE.out]
          unfold volOf
          rw [List.getElem?_map, show (bl s)[k]? = some s[k] from by rw [List.getElem?_eq_getElem (by rw [bl_len]; exact hks)]; rfl]
          rfl
        rw [List.getElem?_eq_getElem hlt] at h1
        exact Option.some.inj h1
      obtain ⟨S, hS⟩ : ∃ x, str ts[k] = x := ⟨_, rfl⟩
      rw [hS] at e0
      rw [hts] at hS
      have HS := Lib.hid hS
      clear hc hts hS
      have hch : ∃ ch, s[k] = ch := ⟨_, rfl⟩
      have hq : (S.toList != S.toList) = false := by simp
      have cR : ∀ d os, (grow (redrawn wr d) os).cell? ⟨b, o + k, none⟩ = some (.string S) := fun d os => cell_regrown e0 d os
      have cD : ∀ d os, Calls Try.prog 14 #[.int .u8 ((lt s[k]).toNat : Int)] (grow (redrawn wr d) os) fun e w'' => e = .returned (.string S) ∧ ∃ p : Regrown, w'' = grow (redrawn wr p.d) p.os :=
        fun d os => Calls.regrown_of (by have := data_any (lt s[k]) (grow (redrawn wr d) os); rw [← HS.out]; exact this)
      clear hch
      by_cases hz : s[k] = 48
      · rw [hz] at cD
        have cD : ∀ d os, Calls Try.prog 14 #[.int .u8 0] (grow (redrawn wr d) os) fun e w'' => e = .returned (.string S) ∧ ∃ p : Regrown, w'' = grow (redrawn wr p.d) p.os := cD
        have hzb : ((s[k].toNat : Int) == 48) = true := by rw [hz]; rfl
        clear hz
        go_wp2_with fail
        refine wp_region_quiet_below hmixed (by kernel_rfl) ?_
        repeat (any_goals (first | go_big_quiet_step (exact cD _ _) | quiet_step (exact cD _ _)))
        refine wpQuiet_nil ?_
        intro _ hw'
        obtain ⟨⟨dq, osq⟩, hw''⟩ := hw'
        subst hw''
        have HB2 := Lib.hid (below_step HB.out (below_regrown wr dq osq))
        go_wp2_with fail
        go_roundw
        case rel => exact ⟨k + 1, by omega, by go_num, HB2.out⟩
        case measure => simp [intOf]; omega
      · have hlt2 : lt s[k] = s[k] := by unfold lt; rw [if_neg hz]
        rw [hlt2] at cD
        have hzb : ((s[k].toNat : Int) == 48) = false := by
          rw [beq_eq_false_iff_ne]
          intro e
          exact hz (UInt8.toNat_inj.1 (by show s[k].toNat = 48; omega))
        go_wp2_with fail
        refine wp_region_quiet_below hmixed (by kernel_rfl) ?_
        repeat (any_goals (first | go_big_quiet_step (exact cD _ _) | quiet_step (exact cD _ _)))
        refine wpQuiet_nil ?_
        intro _ hw'
        obtain ⟨⟨dq, osq⟩, hw''⟩ := hw'
        subst hw''
        have HB2 := Lib.hid (below_step HB.out (below_regrown wr dq osq))
        go_wp2_with fail
        go_roundw
        case rel => exact ⟨k + 1, by omega, by go_num, HB2.out⟩
        case measure => simp [intOf]; omega
    · have hklt : ¬ (k : Int) < (ts.length : Int) := by omega
      go_wp2_with fail
      go_ret
      exact ⟨rfl, HB.out⟩
end Go.Proofs.Ytfinmfmbbgakhaa.ch

/- The statements' changes. -/
namespace Go.Proofs.Ytfinmfmbbgakhaa.ch
open Go Go.RowKit Go.Proofs.Ytfinmfmbbgakhaa.ib
set_option maxRecDepth 100000

def CG (vo : Value) (bb bo k n c : Nat) (x1 : Int) (x2 : Nat) (S : ByteArray) : Nat → Value → World → Prop
  | 0, v, _ => v = vo
  | 1, v, _ => v = .slice (some ⟨bb, bo, none⟩) n c
  | 2, v, _ => v = .int .i64 (k : Int)
  | 3, v, _ => v = .pointer (some ⟨bb, bo + k * 2, none⟩)
  | 4, v, _ => v = .pointer (some ⟨bb, bo + k * 2, none⟩)
  | 5, v, _ => v = .int .i64 x1
  | 6, v, _ => v = .slice (some ⟨bb, bo, none⟩) n c
  | 7, v, _ => v = .int .i64 (k : Int)
  | 8, v, _ => v = .pointer (some ⟨bb, bo + k * 2, none⟩)
  | 9, v, _ => v = .pointer (some ⟨bb, bo + k * 2 + 1, none⟩)
  | 10, v, _ => v = .int .u8 (x2 : Int)
  | 11, v, _ => v = .string S
  | 12, v, _ => v = .agg #[.int .i64 x1, .string S]
  | 13, v, w => ∃ g, v = .slice (some ⟨g, 0, none⟩) 1 1 ∧ Blk w g 60 #[.int .i64 x1, .string S]
  | _, _, _ => True

theorem CG_mono (vo : Value) (bb bo k n c : Nat) (x1 : Int) (x2 : Nat) (S : ByteArray) (i : Nat) (v : Value) (w w' : World) (hi : i < 14) (h : CG vo bb bo k n c x1 x2 S i v w) (hb : Below w.heap.size w w') : CG vo bb bo k n c x1 x2 S i v w' := by
  match i, hi, h with
  | 0, _, h | 1, _, h | 2, _, h | 3, _, h | 4, _, h | 5, _, h | 6, _, h | 7, _, h | 8, _, h | 9, _, h | 10, _, h | 11, _, h | 12, _, h => exact h
  | 13, _, ⟨g, h1, h2⟩ => exact ⟨g, h1, h2.below hb⟩

def CsRel (zs : List (Int × UInt8)) (w : World) (v i : Value) (wr : World) : Prop :=
  ∃ k : Nat, k ≤ zs.length ∧ k ≤ 10 ∧ i = .int .i64 (k : Int) ∧ OChs wr w.heap.size v (chOf (zs.take k)) ∧ Below w.heap.size w wr

theorem chOf_snoc (zs : List (Int × UInt8)) (k : Nat) (h : k < zs.length) (h10 : k < 10) : chOf (zs.take (k + 1)) = chOf (zs.take k) ++ [(zs[k].1, dat zs[k].2)] := by
  unfold chOf
  rw [List.take_take, List.take_take, Nat.min_eq_right (by omega), Nat.min_eq_right (by omega), List.take_succ_eq_append_getElem h, List.map_append]
  rfl
theorem chOf_len (zs : List (Int × UInt8)) (k : Nat) (h : k ≤ zs.length) (h10 : k ≤ 10) : (chOf (zs.take k)).length = k := by
  unfold chOf
  rw [List.take_take, List.length_map, List.length_take]
  omega
theorem chOf_done (zs : List (Int × UInt8)) (k : Nat) (h : k ≤ zs.length) (h10 : k ≤ 10) (he : ¬ (k < zs.length ∧ k < 10)) : chOf (zs.take k) = chOf zs := by
  unfold chOf
  rw [List.take_take]
  congr 1
  by_cases h : k = zs.length
  · subst h
    rw [← List.take_take, List.take_length]
  · have : k = 10 := by omega
    subst this
    rw [Nat.min_self]
theorem chOf_b64 {zs : List (Int × UInt8)} (h : ∀ x ∈ zs, b64 x.1) : ∀ x ∈ chOf zs, b64 x.1 := by
  intro x hx
  obtain ⟨y, hy, rfl⟩ := List.mem_map.1 hx
  exact h y (List.mem_of_mem_take hy)

set_option maxHeartbeats 6400000 in
theorem changes_any (A : Option Addr) (cp : Nat) (zs : List (Int × UInt8)) (w : World) (hT : PtL w A zs) (hl : zs.length ≤ 9223372036854775807) :
    Calls Try.prog 26 #[.slice A zs.length cp] w (okChs (chOf zs) w) := by
  obtain ⟨i0, hi, hz0, hz1, hz2⟩ := info_parts infoCh
  have HT := Lib.hid hT
  have HZB : Hid (∀ x ∈ zs, b64 x.1) := fun x hx => by
    obtain ⟨i, hi, rfl⟩ := List.getElem_of_mem hx
    obtain ⟨_, _, _, _, _, _, h⟩ := hT i hi
    exact h
  clear hT
  go_enter Try.func26, Try.ntmps26
  go_wp2_with fail
  go_loopw [3, 4] (fun v i wr => CsRel zs w v i wr) (fun _ i _ => 11 - (intOf i).toNat)
  case atStart => exact ⟨0, Nat.zero_le _, Nat.zero_le _, rfl, World.ownsRow_nil _ _ _ _, Below.refl _ _⟩
  case round =>
    obtain ⟨k, hk, hk10, rfl, ho, hB⟩ := hrel
    have HO := Lib.hid ho
    have HB := Lib.hid hB
    clear ho hB
    by_cases hgo : k < zs.length ∧ k < 10
    · obtain ⟨hlt, hlt10⟩ := hgo
      obtain ⟨bb, bo, rfl, hbb, c0, c1, cb⟩ := HT.out k hlt
      have HSN := Lib.hid (chOf_snoc zs k hlt hlt10)
      have HLN := Lib.hid (chOf_len zs k hk hk10)
      obtain ⟨A5, c5, hv5, _⟩ := HO.out.view (fun y hy => chOf_b64 (zs := zs.take k) (fun z hz => HZB.out z (List.mem_of_mem_take hz)) y hy)
      rw [HLN.out] at hv5
      subst hv5
      have q0 : wr.cell? ⟨bb, bo + k * 2, none⟩ = some (.int .i64 zs[k].1) := by rw [HB.out.cell (p := ⟨bb, bo + k * 2, none⟩) hbb]; exact c0
      have q1 : wr.cell? ⟨bb, bo + k * 2 + 1, none⟩ = some (.int .u8 (zs[k].2.toNat : Int)) := by rw [HB.out.cell (p := ⟨bb, bo + k * 2 + 1, none⟩) hbb]; exact c1
      have hbw : bb < wr.heap.size := Nat.lt_of_lt_of_le hbb HB.out.size
      have hklt : (k : Int) < (zs.length : Int) := by omega
      have hk10' : (k : Int) < 10 := by omega
      clear c0 c1 cb
      generalize zs[k] = x at *
      have Q0 := Lib.hid q0
      have Q1 := Lib.hid q1
      clear q0 q1
      have hcz := x.2.toNat_lt
      obtain ⟨S, hS⟩ : ∃ s, str (dat x.2) = s := ⟨_, rfl⟩
      have HD := Lib.hid (fun W => data_any x.2 W)
      have HS := Lib.hid hS
      clear hS
      go_wp2_with fail
      refine wp_region_slots_f (by kernel_rfl) 14 [15, 16, 17, 18, 19, 20, 21, 22, 23, 24, 25, 26, 27, 28] (by kernel_rfl) (CG (.slice A5 k c5) bb bo k zs.length cp x.1 x.2.toNat S) (CG_mono _ _ _ _ _ _ _ _ _) ?_ ?_
      · intro i o vs ρ W hi ho hρ hfn hb hG
        have t3 : ρ (.tmp 3) = .slice A5 k c5 := hρ.out 3 rfl
        have t0 : ρ (.tmp 0) = .slice (some ⟨bb, bo, none⟩) zs.length cp := hρ.out 0 rfl
        have t4 : ρ (.tmp 4) = .int .i64 (k : Int) := hρ.out 4 rfl
        have s1 := hρ.at_ 16 1 rfl
        have s2 := hρ.at_ 17 2 rfl
        have s3 := hρ.at_ 18 3 rfl
        have s4 := hρ.at_ 19 4 rfl
        have s5 := hρ.at_ 20 5 rfl
        have s6 := hρ.at_ 21 6 rfl
        have s7 := hρ.at_ 22 7 rfl
        have s8 := hρ.at_ 23 8 rfl
        have s9 := hρ.at_ 24 9 rfl
        have s10 := hρ.at_ 25 10 rfl
        have s11 := hρ.at_ 26 11 rfl
        have s12 := hρ.at_ 27 12 rfl
        have hc := hρ.const
        have q0 : W.cell? ⟨bb, bo + k * 2, none⟩ = some (.int .i64 x.1) := by rw [hb.cell (p := ⟨bb, bo + k * 2, none⟩) hbw]; exact Q0.out
        have q1 : W.cell? ⟨bb, bo + k * 2 + 1, none⟩ = some (.int .u8 (x.2.toNat : Int)) := by rw [hb.cell (p := ⟨bb, bo + k * 2 + 1, none⟩) hbw]; exact Q1.out
        rcases i with _ | _ | _ | _ | _ | _ | _ | _ | _ | _ | _ | _ | _ | _ | i
        all_goals (first | omega | skip)
        all_goals simp only [List.getElem?_toArray, List.getElem?_cons_zero, List.getElem?_cons_succ, Option.some.injEq] at ho
        all_goals subst ho
        · exact stepTo_value (w' := W) (by unfold execOp; simp only [t3]; go_simp) ⟨Below.refl _ _, rfl⟩
        · exact stepTo_value (w' := W) (by unfold execOp; simp only [t0]; go_simp) ⟨Below.refl _ _, rfl⟩
        · exact stepTo_value (w' := W) (by unfold execOp; simp only [t4]; go_simp) ⟨Below.refl _ _, rfl⟩
        · have g1 : vs 1 = _ := hG 1 (by kernel_rfl)
          have g2 : vs 2 = _ := hG 2 (by kernel_rfl)
          exact stepTo_value (w' := W) (by unfold execOp; simp only [s1, g1, s2, g2]; go_simp) ⟨Below.refl _ _, rfl⟩
        · have g3 : vs 3 = _ := hG 3 (by kernel_rfl)
          exact stepTo_value (w' := W) (by unfold execOp; simp only [s3, g3]; go_simp) ⟨Below.refl _ _, rfl⟩
        · have g4 : vs 4 = _ := hG 4 (by kernel_rfl)
          exact stepTo_value (w' := W) (by unfold execOp; simp only [s4, g4]; go_simp) ⟨Below.refl _ _, rfl⟩
        · exact stepTo_value (w' := W) (by unfold execOp; simp only [t0]; go_simp) ⟨Below.refl _ _, rfl⟩
        · exact stepTo_value (w' := W) (by unfold execOp; simp only [t4]; go_simp) ⟨Below.refl _ _, rfl⟩
        · have g6 : vs 6 = _ := hG 6 (by kernel_rfl)
          have g7 : vs 7 = _ := hG 7 (by kernel_rfl)
          exact stepTo_value (w' := W) (by unfold execOp; simp only [s6, g6, s7, g7]; go_simp) ⟨Below.refl _ _, rfl⟩
        · have g8 : vs 8 = _ := hG 8 (by kernel_rfl)
          exact stepTo_value (w' := W) (by unfold execOp; simp only [s8, g8]; go_simp) ⟨Below.refl _ _, rfl⟩
        · have g9 : vs 9 = _ := hG 9 (by kernel_rfl)
          exact stepTo_value (w' := W) (by unfold execOp; simp only [s9, g9]; go_simp) ⟨Below.refl _ _, rfl⟩
        · have g10 : vs 10 = _ := hG 10 (by kernel_rfl)
          refine stepTo_enter (f := 14) (args := #[.int .u8 (x.2.toNat : Int)]) (w' := W) (by unfold execOp; simp only [hc, hfn, s10, g10]; go_simp) ((HD.out W).mono ?_)
          rintro e W' ⟨rfl, hb'⟩
          exact ⟨_, rfl, hb', by rw [HS.out]; rfl⟩
        · have g5 : vs 5 = _ := hG 5 (by kernel_rfl)
          have g11 : vs 11 = _ := hG 11 (by kernel_rfl)
          exact stepTo_value (w' := W) (by unfold execOp; simp only [s5, g5, s11, g11]; go_simp) ⟨Below.refl _ _, rfl⟩
        · have g12 : vs 12 = _ := hG 12 (by kernel_rfl)
          refine stepTo_value (w' := W.alloc (.cells #[.int .i64 x.1, .string S] 60)) (v := .slice (some ⟨W.heap.size, 0, none⟩) 1 1) (by unfold execOp; simp only [s12, g12]; go_simp) ⟨(Below.refl _ W).alloc (Nat.le_refl _) _, W.heap.size, rfl, Blk.new _ _ _⟩
      · intro vs W hb hG
        have g0 : vs 0 = _ := hG 0 (by decide)
        obtain ⟨g, g13, hbk⟩ := hG 13 (by decide)
        have B2 := Lib.hid (below_step HB.out hb)
        have HO2 : Hid (W.ownsRow w.heap.size 60 2 (.slice A5 k c5) k (chVals (chOf (zs.take k)))) := by
          have ho := HO.out
          unfold OChs at ho
          rw [HLN.out] at ho
          refine ⟨ho.1, ?_⟩
          rcases ho.2 with h2 | ⟨g', cap, cur, h1, h2, h3, h4⟩
          · exact .inl h2
          · exact .inr ⟨g', cap, cur, h1, h2, (hb.block g' (Array.getElem?_eq_some_iff.1 h3).1).trans h3, h4⟩
        have HNW : Hid (∀ (j : Nat) (u : Value), ([.int .i64 x.1, .string S] : List Value)[j]? = some u → W.cell? ((⟨g, 0, none⟩ : Addr).add j) = some u) := by
          intro j u hj
          match j, hj with
          | 0, hj =>
            simp at hj
            subst hj
            rw [addr_add]
            exact hbk.cell 0
          | 1, hj =>
            simp at hj
            subst hj
            rw [addr_add]
            exact hbk.cell 1
        simp only [putList, putSel, if_true]
        rw [g0, g13]
        generalize vs 1 = y1
        generalize vs 2 = y2
        generalize vs 3 = y3
        generalize vs 4 = y4
        generalize vs 5 = y5
        generalize vs 6 = y6
        generalize vs 7 = y7
        generalize vs 8 = y8
        generalize vs 9 = y9
        generalize vs 10 = y10
        generalize vs 11 = y11
        generalize vs 12 = y12
        clear hG g0 g13 hbk
        simp only [Act.put, List.setIfInBounds_toArray, List.set_cons_succ, List.set_cons_zero]
        refine wpAny_one (i := 14) (by kernel_rfl) rfl rfl ?_
        have hone : ∀ u ∈ ([Value.int .i64 x.1, .string S] : List Value), u.oneCell' = true := by
          rw [← HS.out]
          exact two_one (x.1, dat x.2)
        refine wp_append_own W (.tmp 15) (.tmp 28) 50 rfl w.heap.size 60 i0 (.agg #[.int .i64 0, .string ByteArray.empty]) 2 24 Try.underlying50 hi hz0 hz1 hz2 rfl (by decide) _ k _ rfl HO2.out ⟨g, 0, none⟩ 1 1 [.int .i64 x.1, .string S] rfl rfl HNW.out hone (by unfold maxLen; omega) (by omega) B2.out.size ?_
        intro v' w1 hown hgrow _
        have HB3 := Lib.hid (B2.out.grown hgrow B2.out.size (fun j hj => (HO2.out.lt j hj).1))
        have HOS : Hid (OChs w1 w.heap.size v' (chOf (zs.take (k + 1)))) := by
          unfold Hid
          rw [HSN.out]
          refine OChs.snoc (x := (x.1, dat x.2)) ?_
          rw [HLN.out, HS.out]
          exact hown
        obtain ⟨A6, c6, hv6, _⟩ := HOS.out.view (fun y hy => chOf_b64 (zs := zs.take (k + 1)) (fun z hz => HZB.out z (List.mem_of_mem_take hz)) y hy)
        clear hown hgrow hb
        subst hv6
        go_simp
        refine wpAny_one (i := 15) (by kernel_rfl) rfl rfl ?_
        go_simp
        refine ⟨by kernel_rfl, ?_⟩
        go_wp2_with fail
        go_roundw
        case rel => exact ⟨k + 1, by omega, by omega, by go_num, HOS.out, HB3.out⟩
        case measure => simp [intOf]; omega
    · have HE := Lib.hid (chOf_done zs k hk hk10 hgo)
      by_cases hkl : (k : Int) < (zs.length : Int)
      · have hk1 : ¬ ((k : Int) < 10) := by omega
        go_wp2_with fail
        go_ret
        exact ⟨_, rfl, by rw [← HE.out]; exact HO.out, HB.out⟩
      · go_wp2_with fail
        go_ret
        exact ⟨_, rfl, by rw [← HE.out]; exact HO.out, HB.out⟩
end Go.Proofs.Ytfinmfmbbgakhaa.ch

/- The statements' round: what is written ahead of a snapshot, of a chain of eight blocks. -/
namespace Go.Proofs.Ytfinmfmbbgakhaa.ch
open Go Go.RowKit Go.Proofs.Ytfinmfmbbgakhaa.ib
set_option maxRecDepth 100000

/-- Which block, of eight. -/
def blk8 (x : Int) : Int := x % 8
def wr1 (d : CH) (x : Int × UInt8) : CH := (d.write (blk8 x.1) (dat (x.2 % 200))).1
def roundP (d : CH) (zs : List (Int × UInt8)) : CH := (zs.take 10).foldl wr1 d

def RG (p : Value) (bb bo k n c : Nat) (x1 : Int) (x2 : Nat) (m1 m2 m3 : Int) (c3 : Nat) (S : ByteArray) : Nat → Value → World → Prop
  | 0, v, _ => v = p
  | 1, v, _ => v = .slice (some ⟨bb, bo, none⟩) n c
  | 2, v, _ => v = .int .i64 (k : Int)
  | 3, v, _ => v = .pointer (some ⟨bb, bo + k * 2, none⟩)
  | 4, v, _ => v = .pointer (some ⟨bb, bo + k * 2, none⟩)
  | 5, v, _ => v = .int .i64 x1
  | 6, v, _ => v = .int .i64 m1
  | 7, v, _ => v = .int .i64 m2
  | 8, v, _ => v = .int .i64 m3
  | 9, v, _ => v = .slice (some ⟨bb, bo, none⟩) n c
  | 10, v, _ => v = .int .i64 (k : Int)
  | 11, v, _ => v = .pointer (some ⟨bb, bo + k * 2, none⟩)
  | 12, v, _ => v = .pointer (some ⟨bb, bo + k * 2 + 1, none⟩)
  | 13, v, _ => v = .int .u8 (x2 : Int)
  | 14, v, _ => v = .int .u8 (c3 : Int)
  | 15, v, _ => v = .string S
  | _, _, _ => True
theorem RG_mono (p : Value) (bb bo k n c : Nat) (x1 : Int) (x2 : Nat) (m1 m2 m3 : Int) (c3 : Nat) (S : ByteArray) (i : Nat) (v : Value) (w w' : World) (hi : i < 16) (h : RG p bb bo k n c x1 x2 m1 m2 m3 c3 S i v w) (_ : Below w.heap.size w w') : RG p bb bo k n c x1 x2 m1 m2 m3 c3 S i v w' := by
  match i, hi, h with
  | 0, _, h | 1, _, h | 2, _, h | 3, _, h | 4, _, h | 5, _, h | 6, _, h | 7, _, h | 8, _, h | 9, _, h | 10, _, h | 11, _, h | 12, _, h | 13, _, h | 14, _, h | 15, _, h => exact h
  | i + 16, hi, _ => exact absurd hi (by omega)

theorem roundP_snoc (d : CH) (zs : List (Int × UInt8)) (k : Nat) (h : k < zs.length) (h10 : k < 10) : roundP d (zs.take (k + 1)) = wr1 (roundP d (zs.take k)) zs[k] := by
  unfold roundP
  rw [List.take_take, List.take_take, Nat.min_eq_right (by omega), Nat.min_eq_right (by omega), List.take_succ_eq_append_getElem h, List.foldl_append]
  rfl
theorem roundP_done (d : CH) (zs : List (Int × UInt8)) (k : Nat) (h : k ≤ zs.length) (h10 : k ≤ 10) (he : ¬ (k < zs.length ∧ k < 10)) : roundP d (zs.take k) = roundP d zs := by
  have e : (zs.take k).take 10 = zs.take 10 := by
    rw [List.take_take]
    by_cases h : k = zs.length
    · subst h
      rw [← List.take_take, List.take_length]
    · have : k = 10 := by omega
      subst this
      rw [Nat.min_self]
  unfold roundP
  rw [e]

def RdRel (Is : IsT) (own : Nat → Prop) (p : Nat) (d : CH) (zs : List (Int × UInt8)) (w : World) (i : Value) (wr : World) : Prop :=
  ∃ (k : Nat) (own' : Nat → Prop), k ≤ zs.length ∧ k ≤ 10 ∧ i = .int .i64 (k : Int) ∧ Is own' wr p (roundP d (zs.take k)) ∧ But own w wr ∧ ∀ j, own' j → own j ∨ w.heap.size ≤ j

theorem blk8_eq (x : Int) : IntKind.i64.wrap (x.tmod 8 + 8) = x.tmod 8 + 8 ∧ (x.tmod 8 + 8).tmod 8 = blk8 x := by
  have h1 : -8 < x.tmod 8 ∧ x.tmod 8 < 8 := ⟨Int.lt_tmod_of_pos x (by decide), Int.tmod_lt_of_pos x (by decide)⟩
  refine ⟨IntWalk.i64_in _ (by omega), ?_⟩
  unfold blk8
  rw [Int.tmod_eq_emod_of_nonneg (by omega), Int.add_emod_right, Int.tmod_eq_emod]
  split <;> omega

set_option maxHeartbeats 6400000 in
theorem round_any {Is : IsT} (H : Impl Is) {own : Nat → Prop} {p : Nat} {d : CH} (w : World) (hc : Is own w p d) (A : Option Addr) (cp : Nat) (zs : List (Int × UInt8)) (hT : PtL w A zs) (hA : 0 < zs.length → ∀ b o, A = some ⟨b, o, none⟩ → ¬ own b) (hl : zs.length ≤ 9223372036854775807) :
    Calls Try.prog 18 #[.pointer (some ⟨p, 0, none⟩), .slice A zs.length cp] w fun e w' => e = .returned (.tuple #[]) ∧ ∃ own', Is own' w' p (roundP d zs) ∧ But own w w' ∧ ∀ j, own' j → own j ∨ w.heap.size ≤ j := by
  have HT := Lib.hid hT
  have HC := Lib.hid hc
  have HA := Lib.hid hA
  clear hT hc hA

  go_enter Try.func18, Try.ntmps18
  go_wp2_with fail
  go_loopw [4] (fun i wr => RdRel Is own p d zs w i wr) (fun i _ => 11 - (intOf i).toNat)
  case atStart => exact ⟨0, own, Nat.zero_le _, Nat.zero_le _, rfl, HC.out, But.refl _ _, fun j h => .inl h⟩
  case round =>
    obtain ⟨k, own', hk, hk10, rfl, hc, hb, hg⟩ := hrel
    have HCK := Lib.hid hc
    have HB := Lib.hid hb
    have HG := Lib.hid hg
    have HB0 : Hid (w.heap.size ≤ wr.heap.size) := hb.size
    clear hc hb hg
    by_cases hgo : k < zs.length ∧ k < 10
    · obtain ⟨hlt, hlt10⟩ := hgo
      obtain ⟨bb, bo, rfl, hbb, c0, c1, cb⟩ := HT.out k hlt
      have hbB := HA.out (by omega) bb bo rfl
      have HSN := Lib.hid (roundP_snoc d zs k hlt hlt10)
      have q0 : wr.cell? ⟨bb, bo + k * 2, none⟩ = some (.int .i64 zs[k].1) := by rw [World.cell?_of_block (a := ⟨bb, bo + k * 2, none⟩) (HB.out.block bb hbb hbB)]; exact c0
      have q1 : wr.cell? ⟨bb, bo + k * 2 + 1, none⟩ = some (.int .u8 (zs[k].2.toNat : Int)) := by rw [World.cell?_of_block (a := ⟨bb, bo + k * 2 + 1, none⟩) (HB.out.block bb hbb hbB)]; exact c1
      have hbw : bb < wr.heap.size := Nat.lt_of_lt_of_le hbb HB.out.size
      have hklt : (k : Int) < (zs.length : Int) := by omega
      have hk10' : (k : Int) < 10 := by omega
      clear c0 c1
      generalize zs[k] = x at *
      have Q0 := Lib.hid q0
      have Q1 := Lib.hid q1
      have HCB := Lib.hid cb
      clear q0 q1 cb
      have hcz := x.2.toNat_lt
      obtain ⟨S, hS⟩ : ∃ s, str (dat (x.2 % 200)) = s := ⟨_, rfl⟩
      have HD := Lib.hid (fun W => data_any (x.2 % 200) W)
      have HS := Lib.hid hS
      have h200 : ((x.2 % 200).toNat : Int) = (x.2.toNat : Int) % 200 := by rw [UInt8.toNat_mod]; rfl
      obtain ⟨c3, hc3⟩ : ∃ c, (x.2 % 200).toNat = c := ⟨_, rfl⟩
      rw [hc3] at h200
      have HC3 := Lib.hid hc3
      have H2 := Lib.hid h200
      have h8 := blk8_eq x.1
      obtain ⟨m1, hm1⟩ : ∃ m, x.1.tmod 8 = m := ⟨_, rfl⟩
      rw [hm1] at h8
      have HM1 := Lib.hid hm1
      obtain ⟨m2, hm2⟩ : ∃ m, m1 + 8 = m := ⟨_, rfl⟩
      have HM2 : Hid (IntKind.i64.wrap (m1 + 8) = m2) := by unfold Hid; rw [← hm2]; exact h8.1
      have HM3 : Hid (m2.tmod 8 = blk8 x.1) := by unfold Hid; rw [← hm2]; exact h8.2
      have HM4 : Hid ((x.2.toNat : Int).tmod 200 = (c3 : Int)) := by unfold Hid; rw [Int.tmod_eq_emod_of_nonneg (by omega)]; omega
      clear hS hc3 h200 hm1 hm2 h8
      go_wp2_with fail
      refine wp_region_slots_f (by kernel_rfl) 16 [15, 16, 17, 18, 19, 20, 21, 22, 23, 24, 25, 26, 27, 28, 29, 30] (by kernel_rfl) (RG (.pointer (some ⟨p, 0, none⟩)) bb bo k zs.length cp x.1 x.2.toNat m1 m2 (blk8 x.1) c3 S) (RG_mono _ _ _ _ _ _ _ _ _ _ _ _ _) ?_ ?_
      · intro i o vs ρ W hi ho hρ hfn hb hG
        have t0 : ρ (.tmp 0) = .pointer (some ⟨p, 0, none⟩) := hρ.out 0 rfl
        have t1 : ρ (.tmp 1) = .slice (some ⟨bb, bo, none⟩) zs.length cp := hρ.out 1 rfl
        have t4 : ρ (.tmp 4) = .int .i64 (k : Int) := hρ.out 4 rfl
        have s1 := hρ.at_ 16 1 rfl
        have s2 := hρ.at_ 17 2 rfl
        have s3 := hρ.at_ 18 3 rfl
        have s4 := hρ.at_ 19 4 rfl
        have s5 := hρ.at_ 20 5 rfl
        have s6 := hρ.at_ 21 6 rfl
        have s7 := hρ.at_ 22 7 rfl
        have s9 := hρ.at_ 24 9 rfl
        have s10 := hρ.at_ 25 10 rfl
        have s11 := hρ.at_ 26 11 rfl
        have s12 := hρ.at_ 27 12 rfl
        have s13 := hρ.at_ 28 13 rfl
        have s14 := hρ.at_ 29 14 rfl
        have hc := hρ.const
        have q0 : W.cell? ⟨bb, bo + k * 2, none⟩ = some (.int .i64 x.1) := by rw [hb.cell (p := ⟨bb, bo + k * 2, none⟩) hbw]; exact Q0.out
        have q1 : W.cell? ⟨bb, bo + k * 2 + 1, none⟩ = some (.int .u8 (x.2.toNat : Int)) := by rw [hb.cell (p := ⟨bb, bo + k * 2 + 1, none⟩) hbw]; exact Q1.out
        rcases i with _ | _ | _ | _ | _ | _ | _ | _ | _ | _ | _ | _ | _ | _ | _ | _ | i
        all_goals (first | omega | skip)
        all_goals simp only [List.getElem?_toArray, List.getElem?_cons_zero, List.getElem?_cons_succ, Option.some.injEq] at ho
        all_goals subst ho
        · exact stepTo_value (w' := W) (by unfold execOp; simp only [t0]; go_simp) ⟨Below.refl _ _, rfl⟩
        · exact stepTo_value (w' := W) (by unfold execOp; simp only [t1]; go_simp) ⟨Below.refl _ _, rfl⟩
        · exact stepTo_value (w' := W) (by unfold execOp; simp only [t4]; go_simp) ⟨Below.refl _ _, rfl⟩
        · have g1 : vs 1 = _ := hG 1 (by kernel_rfl)
          have g2 : vs 2 = _ := hG 2 (by kernel_rfl)
          exact stepTo_value (w' := W) (by unfold execOp; simp only [s1, g1, s2, g2]; go_simp) ⟨Below.refl _ _, rfl⟩
        · have g3 : vs 3 = _ := hG 3 (by kernel_rfl)
          exact stepTo_value (w' := W) (by unfold execOp; simp only [s3, g3]; go_simp) ⟨Below.refl _ _, rfl⟩
        · have g4 : vs 4 = _ := hG 4 (by kernel_rfl)
          exact stepTo_value (w' := W) (by unfold execOp; simp only [s4, g4]; go_simp) ⟨Below.refl _ _, rfl⟩
        · have g5 : vs 5 = _ := hG 5 (by kernel_rfl)
          exact stepTo_value (w' := W) (by unfold execOp; simp only [s5, g5, hc]; go_simp; exact HM1.out) ⟨Below.refl _ _, rfl⟩
        · have g6 : vs 6 = _ := hG 6 (by kernel_rfl)
          exact stepTo_value (w' := W) (by unfold execOp; simp only [s6, g6, hc]; go_simp; exact HM2.out) ⟨Below.refl _ _, rfl⟩
        · have g7 : vs 7 = _ := hG 7 (by kernel_rfl)
          exact stepTo_value (w' := W) (by unfold execOp; simp only [s7, g7, hc]; go_simp; exact HM3.out) ⟨Below.refl _ _, rfl⟩
        · exact stepTo_value (w' := W) (by unfold execOp; simp only [t1]; go_simp) ⟨Below.refl _ _, rfl⟩
        · exact stepTo_value (w' := W) (by unfold execOp; simp only [t4]; go_simp) ⟨Below.refl _ _, rfl⟩
        · have g9 : vs 9 = _ := hG 9 (by kernel_rfl)
          have g10 : vs 10 = _ := hG 10 (by kernel_rfl)
          exact stepTo_value (w' := W) (by unfold execOp; simp only [s9, g9, s10, g10]; go_simp) ⟨Below.refl _ _, rfl⟩
        · have g11 : vs 11 = _ := hG 11 (by kernel_rfl)
          exact stepTo_value (w' := W) (by unfold execOp; simp only [s11, g11]; go_simp) ⟨Below.refl _ _, rfl⟩
        · have g12 : vs 12 = _ := hG 12 (by kernel_rfl)
          exact stepTo_value (w' := W) (by unfold execOp; simp only [s12, g12]; go_simp) ⟨Below.refl _ _, rfl⟩
        · have g13 : vs 13 = _ := hG 13 (by kernel_rfl)
          exact stepTo_value (w' := W) (by unfold execOp; simp only [s13, g13, hc]; go_simp; exact HM4.out) ⟨Below.refl _ _, rfl⟩
        · have g14 : vs 14 = _ := hG 14 (by kernel_rfl)
          refine stepTo_enter (f := 14) (args := #[.int .u8 (c3 : Int)]) (w' := W) (by unfold execOp; simp only [hc, hfn, s14, g14]; go_simp) ((by have := HD.out W; rw [HC3.out] at this; exact this : Calls _ _ _ _ _).mono ?_)
          rintro e W' ⟨rfl, hb'⟩
          exact ⟨_, rfl, hb', by rw [HS.out]; rfl⟩
      · intro vs W hb hG
        have g0 : vs 0 = _ := hG 0 (by decide)
        have g8 : vs 8 = _ := hG 8 (by decide)
        have g15 : vs 15 = _ := hG 15 (by decide)
        simp only [putList, putSel, if_true]
        rw [g0, g8, g15]
        generalize vs 1 = y1
        generalize vs 2 = y2
        generalize vs 3 = y3
        generalize vs 4 = y4
        generalize vs 5 = y5
        generalize vs 6 = y6
        generalize vs 7 = y7
        generalize vs 9 = y9
        generalize vs 10 = y10
        generalize vs 11 = y11
        generalize vs 12 = y12
        generalize vs 13 = y13
        generalize vs 14 = y14
        clear hG g0 g8 g15
        simp only [Act.put, List.setIfInBounds_toArray, List.set_cons_succ, List.set_cons_zero]
        refine wpAny_one (i := 16) (by kernel_rfl) rfl rfl ?_
        go_simp
        have hk8 : b64 (blk8 x.1) := by unfold b64 blk8; omega
        have hw := H.write (blk8 x.1) (dat (x.2 % 200)) (H.keep HCK.out (fun j hj => hb.block j (H.low HCK.out j hj)) hb.size) hk8
        rw [HS.out] at hw
        refine hw.mono ?_
        rintro e W5 ⟨rfl, own5, hc5, hb5, hg5⟩
        have HC5 : Hid (Is own5 W5 p (roundP d (zs.take (k + 1)))) := by unfold Hid; rw [HSN.out]; exact hc5
        have HB5 := Lib.hid ((HB.out.trans (But.of_below (S := fun _ => False) hb) (fun _ h => h.elim)).trans hb5 (fun j h => by
          rcases HG.out j h with h | h
          · exact .inl h
          · exact .inr h))
        have HG5 : Hid (∀ j, own5 j → own j ∨ w.heap.size ≤ j) := fun j h => by
          rcases hg5 j h with h | h
          · exact HG.out j h
          · have := HB0.out; have := hb.size; exact .inr (by omega)
        clear hw hc5 hb5 hg5
        go_simp
        refine ⟨by kernel_rfl, ?_⟩
        go_wp2_with fail
        go_roundw
        case rel => exact ⟨k + 1, own5, by omega, by omega, by go_num, HC5.out, HB5.out, HG5.out⟩
        case measure => simp [intOf]; omega
    · have HE := Lib.hid (roundP_done d zs k hk hk10 hgo)
      by_cases hkl : (k : Int) < (zs.length : Int)
      · have hk1 : ¬ ((k : Int) < 10) := by omega
        go_wp2_with fail
        go_end0
        exact ⟨rfl, own', by rw [← HE.out]; exact HCK.out, HB.out, HG.out⟩
      · go_wp2_with fail
        go_end0
        exact ⟨rfl, own', by rw [← HE.out]; exact HCK.out, HB.out, HG.out⟩
end Go.Proofs.Ytfinmfmbbgakhaa.ch


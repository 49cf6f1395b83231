/- The walk of DiskRoom. -/
import Derived.Test.YtmacnghnjnkopaaDkArgs
import Derived.Test.YtmacnghnjnkopaaDkInG
namespace Go.Proofs.Ytmacnghnjnkopaa.dk
open Go Go.RowKit

/-- Block b is the law's own map of the sectors that were written. -/
def KnownIs (w : World) (b : Nat) (s : Sects) : Prop :=
  ∃ D : D1, w.ownsMap Try.prog 3 (plainElem Try.prog 3) b (Maps.size D) D ∧ (∀ k : Int, Maps.has D (.int .i64 k) = (look s k).isSome) ∧
    (∀ k : Int, (look s k).isSome = true → ∀ z, D.atKey (.int .i64 k) z = .lit (.int .i64 1)) ∧ Maps.size D = cnt s

theorem KnownIs.lt {w : World} {b : Nat} {s : Sects} (h : KnownIs w b s) : b < w.heap.size := by
  obtain ⟨D, h1, _⟩ := h
  exact h1.lt
theorem KnownIs.of_block {w w' : World} {m : Nat} {s : Sects} (h : KnownIs w m s) (hb : w'.heap[m]? = w.heap[m]?) : KnownIs w' m s := by
  obtain ⟨D, ⟨es, clock, h1, h2⟩, h3⟩ := h
  exact ⟨D, ⟨es, clock, hb.trans h1, h2⟩, h3⟩

theorem look_none (n : Nat) (k : Int) : look (List.replicate n none) k = none := by
  unfold look
  split
  · simp only [List.getElem?_replicate]
    split <;> rfl
  · rfl
theorem cnt_none (n : Nat) : cnt (List.replicate n none) = 0 := by simp [cnt, List.countP_replicate]

theorem KnownIs.made (w : World) (n : Nat) : KnownIs (w.alloc (.map #[] 0)) w.heap.size (List.replicate n none) :=
  ⟨.map [], World.ownsMap_made w Try.prog 3 (plainElem Try.prog 3), fun k => by rw [look_none]; rfl, fun k h => (by rw [look_none] at h; cases h), by rw [cnt_none]; rfl⟩

theorem one_plain : plainElem (H := Unit) Try.prog 3 (.int .i64 1) = some (.lit (.int .i64 1), []) := plainElem_int Try.underlying3 (by decide)

theorem exec_known {ρ : Operand → Value} {o : Oper} {w : World} {b : Nat} {s : Sects} (x y : Operand) (ho : o.op = .lookup 55 x y false) (hx : ρ x = .map (some b)) (h : KnownIs w b s)
    (k : Int) (hy : ρ y = .int .i64 k) (h0 : -9223372036854775808 ≤ k) (h1 : k ≤ 9223372036854775807) :
    (execOp ρ o).run Try.prog w = .ok (.value (.int .i64 (if (look s k).isSome then 1 else 0))) w := by
  obtain ⟨D, hown, hh, ha, _⟩ := h
  have hkey := Go.Maps.keyOf_int_mk (P := Try.prog) (k := 3) Try.underlying3 (wf64 k h0 h1)
  obtain ⟨c, hrun, hat, _⟩ := hown.lookup_int keyed Try.underlying55 Try.underlying3 (Try.zeroValue3 w) hkey
  have hc : c = if (look s k).isSome then 1 else 0 := by
    by_cases hs : (look s k).isSome = true
    · rw [ha k hs] at hat
      rw [if_pos hs]
      injection hat with hat
      injection hat with _ hat
      exact hat.symm
    · rw [Maps.atKey_of_not_has (by rw [hh]; simpa using hs)] at hat
      rw [if_neg hs]
      injection hat with hat
      injection hat with _ hat
      exact hat.symm
  rw [hc] at hrun
  simp [execOp, ho, hx, hy, hrun, Result.andThen]

theorem exec_len_known {ρ : Operand → Value} {o : Oper} {w : World} {b : Nat} {s : Sects} (x : Operand) (ho : o.op = .call { callee := .builtin .len, args := #[x], argTypes := #[55] }) (hx : ρ x = .map (some b)) (h : KnownIs w b s) :
    (execOp ρ o).run Try.prog w = .ok (.value (.int .i64 (cnt s : Int))) w := by
  obtain ⟨D, hown, _, _, hc⟩ := h
  have hl := hown.len Try.underlying55 o.type
  rw [hc] at hl
  simp [execOp, ho, resolve, invoke, builtin, hx, hl, Result.andThen]

theorem wpList_store_known {ops : Array Oper} {rest : List Oper} {o : Oper} {a : Act} {w : World} {Q : Exit → Act → World → Prop} {b : Nat} {s : Sects} (hg : o.guard = none) (x y z : Operand) (ho : o.op = .mapUpdate 55 x y z) (hx : a.eval x = .map (some b)) (h : KnownIs w b s)
    (k : Nat) (hy : a.eval y = .int .i64 (k : Int)) (hz : a.eval z = .int .i64 1) (v : Bt) (hk : k < s.length) (h1 : s.length ≤ 1024)
    (hK : ∀ w', KnownIs w' b (put s k v) → w.mapTurned w' b → wpList Try.prog ops Q rest (a.put o.dst undef) w') : wpList Try.prog ops Q (o :: rest) a w := by
  refine wpList_plain hg fun K' hK' => ?_
  obtain ⟨D, hown, hh, ha, hc⟩ := h
  have hkey := Go.Maps.keyOf_int_mk (P := Try.prog) (k := 3) Try.underlying3 (wf64 (k : Int) (by omega) (by omega))
  have hti := hown.tidy keyed
  have hcl := cnt_le s
  obtain ⟨w', hrun, r1, r2⟩ := hown.store keyed Try.underlying55 (by unfold maxLen; omega) hkey one_plain
  unfold Oper.wp
  simp [execOp, ho, hx, hy, hz, hrun, Result.andThen]
  refine hK' _ _ (hK w' ⟨_, own_tight r1, ?_, ?_, ?_⟩ r2)
  · intro j
    by_cases e : j = (k : Int)
    · subst e
      rw [Maps.has_put_same hti.isMap (keyLit _), put, look_set_same _ _ _ hk]
      rfl
    · rw [Maps.has_put_other (key_ne e), put, look_set_other _ _ _ _ e, hh]
  · intro j hj z
    by_cases e : j = (k : Int)
    · subst e
      exact Maps.atKey_put_same hti.isMap (keyLit _) _ _
    · rw [put, look_set_other _ _ _ _ e] at hj
      rw [Maps.atKey_put_other (key_ne e)]
      exact ha j hj z
  · rw [Maps.size_put hti, put, cnt_set_some _ _ _ hk, hh, hc]

theorem oper_none {d : DD} (hf : d.fuse = 0) : d.oper = d := by unfold DD.oper; rw [if_neg (by omega), if_neg (by omega)]

theorem write_ok {d : DD} {k : Nat} {v : Bt} (hon : d.on = true) (hf : d.fuse = 0) (hk : k < d.n) (hv : v.length = 32) (h : (look d.now (k : Int)).isSome = true ∨ (d.used : Int) < d.room) :
    d.write (k : Int) v = (0, { d with more := d.more ++ [(k, v)] }) := by
  have hh : d.has (k : Int) = true := by simp [DD.has]; omega
  unfold DD.write
  rw [if_neg (by rw [hon]; simp), if_neg (by rw [hh]; simp [hv]), if_neg, oper_none hf, if_neg (by rw [hon]; simp)]
  · rw [Int.toNat_natCast]
  · rintro ⟨h1, h2⟩
    rcases h with h | h
    · rw [h1] at h; cases h
    · omega

theorem write_no {d : DD} {k : Nat} {v : Bt} (hon : d.on = true) (hk : k < d.n) (hv : v.length = 32) (h1 : (look d.now (k : Int)).isSome = false) (h2 : d.room ≤ (d.used : Int)) : d.write (k : Int) v = (7, d) := by
  have hh : d.has (k : Int) = true := by simp [DD.has]; omega
  unfold DD.write
  rw [if_neg (by rw [hon]; simp), if_neg (by rw [hh]; simp [hv]), if_pos ⟨h1, h2⟩]

theorem dat97 : (dat 97).length = 32 := by decide +kernel

def RoomRel (w : World) (b p most : Nat) (zs : List UInt8) (i : Value) (wr : World) : Prop :=
  ∃ (k : Nat) (d : DD), k ≤ zs.length ∧ k ≤ 100 ∧ i = .int .i64 (k : Int) ∧ InG 200 wr (fun j => w.heap.size ≤ j ∧ j ≠ b) p d ∧ (d.on = true ∧ d.fuse = 0 ∧ d.n = 50 ∧ d.room = (most : Int) ∧ d.more.length ≤ k) ∧ KnownIs wr b d.now ∧ Below w.heap.size w wr ∧ b < wr.heap.size

set_option maxRecDepth 100000 in
set_option maxHeartbeats 3200000 in
theorem diskRoom_walk (a0 : Int) (w0 : (Lit.int .u8 a0).wf = true) (A : Option Addr) (c : Nat) (zs : List UInt8) (w : World) (hl : zs.length ≤ 9223372036854775807) (hT : U8At w A zs) :
    Calls Try.prog 7 #[.int .u8 a0, .slice A zs.length c] w (okB true w) := by
  have hb := bounds_u8 w0
  obtain ⟨n, rfl⟩ := Int.eq_ofNat_of_zero_le (show 0 ≤ a0 from by omega)
  have hn : n < 256 := by omega
  clear hb w0
  obtain ⟨most, hmost⟩ : ∃ m, m = n % 40 := ⟨_, rfl⟩
  have hme : (n : Int) % 40 = (most : Int) := by omega
  have hm40 : most < 40 := by omega
  have HME := Lib.hid hmost
  have HT := Lib.hid hT
  have hmm := @run_makeMap Try.prog
  clear hmost hT
  obtain ⟨S97, H97⟩ : ∃ s, Hid (str (dat 97) = s) := ⟨_, rfl⟩
  have L97 : Hid (bl S97 = dat 97) := by unfold Hid; rw [← H97.out, bl_str]
  go_enter Try.func7, Try.ntmps7
  go_wp2_with fail
  refine (works_any _).mono ?_
  rintro e W1 ⟨rfl, b1⟩
  have B1 := Lib.hid b1
  clear b1
  go_wp2_with fail
  refine (new_in 200 50 (most : Int) (by decide) (by decide) (by omega) (by omega) _).mono ?_
  rintro e W2 ⟨p, rfl, i2, b2⟩
  have I2 := Lib.hid (i2.base B1.out.size)
  have B2 := Lib.hid (below_step B1.out b2)
  clear i2 b2 B1 hme
  go_wp2_with fail
  have I3 : Hid (InG 200 (W2.alloc (.map #[] 0)) (fun j => w.heap.size ≤ j ∧ j ≠ W2.heap.size) p (DD.new 50 (most : Int))) :=
    (I2.out.inG (fun j => w.heap.size ≤ j ∧ j ≠ W2.heap.size) (fun j h1 h2 => ⟨h1, Nat.ne_of_lt h2⟩)).below ((Below.refl _ _).alloc (Nat.le_refl _) _)
  have K3 : Hid (KnownIs (W2.alloc (.map #[] 0)) W2.heap.size (DD.new 50 (most : Int)).now) := KnownIs.made W2 50
  have B3 : Hid (Below w.heap.size w (W2.alloc (.map #[] 0))) := B2.out.alloc B2.out.size _
  have hbl : W2.heap.size < (W2.alloc (.map #[] 0)).heap.size := by simp
  have HBB := Lib.hid B2.out.size
  clear hmm I2 B2
  generalize W2.alloc (.map #[] 0) = W3 at *
  generalize W2.heap.size = b at *
  go_loopw [8] (fun i wr => RoomRel w b p most zs i wr) (fun i _ => 101 - (intOf i).toNat)
  case atStart => exact ⟨0, _, Nat.zero_le _, Nat.zero_le _, rfl, I3.out, ⟨rfl, rfl, by simp [DD.n, DD.new], rfl, Nat.le_refl _⟩, K3.out, B3.out, hbl⟩
  case round =>
    obtain ⟨k, d, hk, hk100, rfl, hi, ⟨hon, hfu, hn50, hro, hml⟩, hkn, hB, hbl2⟩ := hrel
    have I4 := Lib.hid hi
    have K4 := Lib.hid hkn
    have B4 := Lib.hid hB
    have HON := Lib.hid hon
    have HFU := Lib.hid hfu
    have HN := Lib.hid hn50
    have HRO := Lib.hid hro
    clear hi hkn hB hon hfu hn50 hro I3 K3 B3 hbl
    by_cases hlt : k < zs.length
    · by_cases hlt2 : k < 100
      · obtain ⟨bb, bo, rfl, hbb, hcell0⟩ := HT.out k hlt
        have hcell : wr.cell? ⟨bb, bo + k, none⟩ = some (.int .u8 (zs[k].toNat : Int)) := by rw [B4.out.cell (p := ⟨bb, bo + k, none⟩) hbb]; exact hcell0
        have hbw : bb < wr.heap.size := Nat.lt_of_lt_of_le hbb B4.out.size
        have hcz := zs[k].toNat_lt
        generalize zs[k].toNat = cz at *
        obtain ⟨at_, hat⟩ : ∃ a, a = cz % 50 := ⟨_, rfl⟩
        have hae : (cz : Int) % 50 = (at_ : Int) := by omega
        have ha50 : at_ < 50 := by omega
        have HAT := Lib.hid hat
        have hld : at_ < d.now.length := by rw [d.now_length, HN.out]; exact ha50
        have HLD := Lib.hid hld
        have hl50 : d.now.length ≤ 1024 := by rw [d.now_length, HN.out]; decide
        have HL50 := Lib.hid hl50
        clear hcell0 hat hld hl50
        have hhas : d.has (at_ : Int) = true := by simp [DD.has, HN.out]; omega
        have hfit := fits_one d (at_ : Int) hhas
        rw [HRO.out] at hfit
        have HFit := Lib.hid hfit
        clear hfit hhas
        by_cases hs : (look d.now (at_ : Int)).isSome = true ∨ (d.used : Int) < (most : Int)
        · have hfit1 : d.fits [(at_ : Int)] = true := by
            rw [HFit.out]
            rcases hs with h | h
            · rw [h]; rfl
            · simp [h]
          have hwr := write_ok (v := dat 97) HON.out HFU.out (by rw [HN.out]; exact ha50) dat97 (by rw [HRO.out]; exact hs)
          have hkv : ((if (look d.now (at_ : Int)).isSome then 1 else 0 : Int) = 1) ∨ ((if (look d.now (at_ : Int)).isSome then 1 else 0 : Int) = 0 ∧ (cnt d.now : Int) < (most : Int)) := by
            by_cases h : (look d.now (at_ : Int)).isSome = true
            · rw [if_pos h]; exact .inl rfl
            · rw [if_neg h]
              rcases hs with h' | h'
              · exact absurd h' h
              · exact .inr ⟨rfl, h'⟩
          have HF1 := Lib.hid hfit1
          have HWR := Lib.hid hwr
          have HKV := Lib.hid hkv
          clear hs hfit1 hwr hkv
          go_wp2_with fail
          refine (fits_g (I4.out.below ((Below.refl _ wr).alloc (Nat.le_refl _) (.cells #[.int .i64 (at_ : Int)] 3))) _ 1 1 [(at_ : Int)] (ints_one wr (at_ : Int) (by omega) (by omega)) (by simp) rfl true HF1.out).mono ?_
          rintro e W5 ⟨rfl, i5, b5⟩
          have I5 := Lib.hid i5
          have bA : Below wr.heap.size wr W5 := ((Below.refl _ wr).alloc (Nat.le_refl _) _).trans (b5.mono (by simp))
          have B5 := Lib.hid (below_step B4.out bA)
          have K5 := Lib.hid (K4.out.of_block (bA.block b hbl2))
          have hbl5 : b < W5.heap.size := Nat.lt_of_lt_of_le hbl2 bA.size
          clear i5 b5 bA
          go_wp2_with fail
          refine (data_any 97 _).mono ?_
          rintro e W6 ⟨rfl, b6⟩
          rw [H97.out]
          have I6 := Lib.hid (I5.out.below b6)
          have B6 := Lib.hid (below_step B5.out b6)
          have K6 := Lib.hid (K5.out.of_block (b6.block b hbl5))
          have hbl6 : b < W6.heap.size := Nat.lt_of_lt_of_le hbl5 b6.size
          clear b6
          go_wp2_with fail
          refine (write_g I6.out (fun j hj => ⟨Nat.le_trans B6.out.size hj, by omega⟩) (by omega) (by decide) (at_ : Int) S97 _ L97.out 0 _ (by rw [HWR.out]) (by rw [HWR.out])).mono ?_
          rintro e W7 ⟨rfl, i7, b7⟩
          have I7 := Lib.hid i7
          have B7 := Lib.hid (B6.out.trans (b7.below (B := w.heap.size) (fun j hj => hj.1) B6.out.size))
          have K7 := Lib.hid (K6.out.of_block (b7.block b hbl6 (fun h => h.2 rfl)))
          have hbl7 : b < W7.heap.size := Nat.lt_of_lt_of_le hbl6 b7.size
          clear i7 b7 I5 B5 K5 I6 B6 K6
          have hnow : (DD.now { d with more := d.more ++ [(at_, dat 97)] }) = put d.now at_ (dat 97) := play_snoc _ _ _
          have HNOW := Lib.hid hnow
          clear hnow
          rcases HKV.out with hv1 | ⟨hv0, hv2⟩
          all_goals
            go_wp2_with (first | (at_lookup; refine wpList_value rfl (exec_known _ _ rfl rfl K7.out (at_ : Int) rfl (by omega) (by omega)) ?_; first | rw [hv1] | rw [hv0]) | (refine wpList_value_w rfl (exec_len_known (.tmp 49) rfl rfl K7.out) ?_) | (at_mapUpdate; refine wpList_store_known rfl _ _ _ rfl rfl K7.out at_ rfl rfl (dat 97) HLD.out HL50.out ?_))
            intro W8 k8 t8
            have hb8 := turned_but t8
            have K8 := Lib.hid k8
            have I8 := Lib.hid (I7.out.but hb8 (fun j hj => hj.2))
            have B8 := Lib.hid (B7.out.trans (hb8.below (B := w.heap.size) (fun j hj => by subst hj; exact HBB.out) B7.out.size))
            have hbl8 : b < W8.heap.size := Nat.lt_of_lt_of_le hbl7 hb8.size
            clear k8 t8 hb8
            go_wp2_with fail
            refine (used_g I8.out _ rfl).mono ?_
            rintro e w9 ⟨rfl, rfl⟩
            rw [show DD.used { d with more := d.more ++ [(at_, dat 97)] } = cnt (put d.now at_ (dat 97)) from by unfold DD.used; rw [HNOW.out]]
            go_wp2_with (refine wpList_value rfl (exec_len_known (.tmp 69) rfl rfl K8.out) ?_)
            go_roundw
            case' rel => exact ⟨k + 1, _, by omega, by omega, by go_num, I8.out, ⟨HON.out, HFU.out, HN.out, HRO.out, by simp; omega⟩, by rw [HNOW.out]; exact K8.out, B8.out, hbl8⟩
            case' measure => simp [intOf]; omega
        · have hs1 : (look d.now (at_ : Int)).isSome = false := by
            cases h : (look d.now (at_ : Int)).isSome with
            | false => rfl
            | true => exact absurd (.inl h) hs
          have hs2 : ¬ (d.used : Int) < (most : Int) := fun h => hs (.inr h)
          have hfit0 : d.fits [(at_ : Int)] = false := by
            rw [HFit.out, hs1]
            simpa using hs2
          have hwr := write_no (v := dat 97) HON.out (by rw [HN.out]; exact ha50) dat97 hs1 (by rw [HRO.out]; omega)
          have hcu : ¬ (cnt d.now : Int) < (most : Int) := hs2
          have hcu' : (most : Int) ≤ (cnt d.now : Int) := by omega
          have HF0 := Lib.hid hfit0
          have HWR := Lib.hid hwr
          have hv0 : (if (look d.now (at_ : Int)).isSome then 1 else 0 : Int) = 0 := by rw [hs1]; rfl
          have HV0 := Lib.hid hv0
          clear hs hs1 hs2 hfit0 hwr hcu hv0
          go_wp2_with fail
          refine (fits_g (I4.out.below ((Below.refl _ wr).alloc (Nat.le_refl _) (.cells #[.int .i64 (at_ : Int)] 3))) _ 1 1 [(at_ : Int)] (ints_one wr (at_ : Int) (by omega) (by omega)) (by simp) rfl false HF0.out).mono ?_
          rintro e W5 ⟨rfl, i5, b5⟩
          have I5 := Lib.hid i5
          have bA : Below wr.heap.size wr W5 := ((Below.refl _ wr).alloc (Nat.le_refl _) _).trans (b5.mono (by simp))
          have B5 := Lib.hid (below_step B4.out bA)
          have K5 := Lib.hid (K4.out.of_block (bA.block b hbl2))
          have hbl5 : b < W5.heap.size := Nat.lt_of_lt_of_le hbl2 bA.size
          clear i5 b5 bA
          go_wp2_with fail
          refine (data_any 97 _).mono ?_
          rintro e W6 ⟨rfl, b6⟩
          rw [H97.out]
          have I6 := Lib.hid (I5.out.below b6)
          have B6 := Lib.hid (below_step B5.out b6)
          have K6 := Lib.hid (K5.out.of_block (b6.block b hbl5))
          have hbl6 : b < W6.heap.size := Nat.lt_of_lt_of_le hbl5 b6.size
          clear b6
          go_wp2_with fail
          refine (write_g I6.out (fun j hj => ⟨Nat.le_trans B6.out.size hj, by omega⟩) (by omega) (by decide) (at_ : Int) S97 _ L97.out 7 d (by rw [HWR.out]) (by rw [HWR.out])).mono ?_
          rintro e W7 ⟨rfl, i7, b7⟩
          have I7 := Lib.hid i7
          have B7 := Lib.hid (B6.out.trans (b7.below (B := w.heap.size) (fun j hj => hj.1) B6.out.size))
          have K7 := Lib.hid (K6.out.of_block (b7.block b hbl6 (fun h => h.2 rfl)))
          have hbl7 : b < W7.heap.size := Nat.lt_of_lt_of_le hbl6 b7.size
          clear i7 b7 I5 B5 K5 I6 B6 K6
          go_wp2_with (first | (at_lookup; refine wpList_value rfl (exec_known _ _ rfl rfl K7.out (at_ : Int) rfl (by omega) (by omega)) ?_; rw [HV0.out]) | (refine wpList_value_w rfl (exec_len_known (.tmp 49) rfl rfl K7.out) ?_))
          refine (used_g I7.out _ rfl).mono ?_
          rintro e w9 ⟨rfl, rfl⟩
          rw [show d.used = cnt d.now from rfl]
          go_wp2_with (refine wpList_value rfl (exec_len_known (.tmp 69) rfl rfl K7.out) ?_)
          go_roundw
          case rel => exact ⟨k + 1, d, by omega, by omega, by go_num, I7.out, ⟨HON.out, HFU.out, HN.out, HRO.out, by omega⟩, K7.out, B7.out, hbl7⟩
          case measure => simp [intOf]; omega
      · go_wp2_with fail
        go_ret
        exact ⟨rfl, B4.out⟩
    · go_wp2_with fail
      go_ret
      exact ⟨rfl, B4.out⟩
end Go.Proofs.Ytmacnghnjnkopaa.dk

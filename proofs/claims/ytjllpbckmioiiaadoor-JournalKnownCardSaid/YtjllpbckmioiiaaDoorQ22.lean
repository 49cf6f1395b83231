/- JWrites, JKept, JAlike, JReady. -/
import Derived.Test.YtjllpbckmioiiaaDoorQ10
import Derived.Test.YtjllpbckmioiiaaDoorQ18
import Derived.Test.YtjllpbckmioiiaaDoorQ19
import Derived.Test.YtjllpbckmioiiaaDoorQ21
import Derived.Deep.RegionLawGrows
import Derived.Deep.QuietTactic
import Derived.BigQuiet
/- The statements' writes, and a sector of letters. -/
namespace Go.Proofs.YtjllpbckmioiiaaDoor.jr
open Go Go.RowKit Go.Proofs.YtjllpbckmioiiaaDoor.dk Go.Proofs.YtjllpbckmioiiaaDoor.wi
set_option maxRecDepth 100000

structure PutV where
  at_ : Int
  c : UInt8
  short : Bool

def PutsAt3 (w : World) (a : Option Addr) (zs : List PutV) : Prop :=
  ∀ i (h : i < zs.length), ∃ b o, a = some ⟨b, o, none⟩ ∧ b < w.heap.size ∧ w.cell? ⟨b, o + i * 3, none⟩ = some (.int .i64 zs[i].at_) ∧ w.cell? ⟨b, o + i * 3 + 1, none⟩ = some (.int .u8 (zs[i].c.toNat : Int)) ∧ w.cell? ⟨b, o + i * 3 + 2, none⟩ = some (.bool zs[i].short) ∧ i64B zs[i].at_

def pB (x : PutV) : Bt := if x.short then rep x.c 31 else rep x.c 32
def wsP (zs : List PutV) : List Wr := (zs.take 70).map fun x => (x.at_, pB x)

theorem wsP_snoc (zs : List PutV) (k : Nat) (h : k < zs.length) (h70 : k < 70) : wsP (zs.take (k + 1)) = wsP (zs.take k) ++ [(zs[k].at_, pB zs[k])] := by
  unfold wsP
  rw [List.take_take, List.take_take, Nat.min_eq_right (by omega), Nat.min_eq_right (by omega), List.take_succ_eq_append_getElem h, List.map_append]
  rfl
theorem wsP_len (zs : List PutV) (k : Nat) (h : k ≤ zs.length) (h70 : k ≤ 70) : (wsP (zs.take k)).length = k := by
  unfold wsP
  rw [List.take_take, List.length_map, List.length_take]
  omega

/-- A part of a row of bytes, from its second cell on. -/
theorem conv_tail (c : UInt8) (b : Nat) (w : World) (h : w.heap[b]? = some (.cells (Lib.byteCells (rep c 32)).toArray 5 (0, 0))) :
    (convert 68 9 (.slice (some ⟨b, 1, none⟩) 31 31)).run Tryd.prog w = .ok (.string (str (rep c 31))) w := by
  have hc := run_convert_bytes_back (P := Tryd.prog) w 68 9 5 ⟨b, 1, none⟩ 31 (rep c 31) Tryd.underlying68 Tryd.underlying5 Tryd.underlying9 (by
    intro j hj
    have hj' : j < 31 := by rw [rep_length] at hj; exact hj
    rw [addr_add, cell_of_row w b (1 + j) _ _ _ h]
    have e1 : (Lib.byteCells (rep c 32)).toArray[1 + j]? = some (.int .u8 (c.toNat : Int)) := by
      unfold Lib.byteCells rep
      rw [List.getElem?_toArray, List.map_replicate, List.getElem?_replicate, if_pos (by omega)]
    have e2 : ∀ h : j < (rep c 31).length, (rep c 31)[j] = c := fun h => by
      unfold rep
      exact List.getElem_replicate _
    rw [e1, e2])
  rw [rep_length] at hc
  exact hc

def WrRel (zs : List PutV) (w : World) (v i : Value) (wr : World) : Prop :=
  ∃ k : Nat, k ≤ zs.length ∧ k ≤ 70 ∧ i = .int .i64 (k : Int) ∧ OWs wr w.heap.size v (wsP (zs.take k)) ∧ Below w.heap.size w wr

set_option maxHeartbeats 6400000 in
theorem writes_any (A : Option Addr) (cp : Nat) (zs : List PutV) (w : World) (hT : PutsAt3 w A zs) (hl : zs.length ≤ 9223372036854775807) :
    Calls Tryd.prog 9 #[.slice A zs.length cp] w (okWs (wsP zs) w) := by
  obtain ⟨i0, hi, hz0, hz1, hz2⟩ := info_parts infoWr
  have HT := Lib.hid hT
  clear hT
  go_enter Tryd.func9, Tryd.ntmps9
  go_wp2_with fail
  go_loopw [3, 4] (fun v i wr => WrRel zs w v i wr) (fun _ i _ => 71 - (intOf i).toNat)
  case atStart => exact ⟨0, Nat.zero_le _, Nat.zero_le _, rfl, World.ownsRow_nil _ _ _ _, Below.refl _ _⟩
  case round =>
    obtain ⟨k, hk, hk70, rfl, ho, hB⟩ := hrel
    have HO := Lib.hid ho
    have HB := Lib.hid hB
    clear ho hB
    by_cases hgo : k < zs.length ∧ k < 70
    · obtain ⟨hlt, hlt70⟩ := hgo
      obtain ⟨bb, oo, rfl, hbb, c0, c1, c2, cb⟩ := HT.out k hlt
      have hsn := wsP_snoc zs k hlt hlt70
      have hln := wsP_len zs k hk hk70
      generalize zs[k] = x at *
      have hklt : (k : Int) < (zs.length : Int) := by omega
      have hk70' : (k : Int) < 70 := by omega
      have HQ0 := Lib.hid c0
      have HQ1 := Lib.hid c1
      have HQ2 := Lib.hid c2
      have HCB := Lib.hid cb
      have HSN := Lib.hid hsn
      have HLN := Lib.hid hln
      have hc0 : (0 : Int) ≤ (x.c.toNat : Int) := by omega
      have hc1 : (x.c.toNat : Int) < 256 := by have := x.c.toNat_lt; omega
      clear c0 c1 c2 cb hsn hln
      go_wp2_with (at_make; refine wpList_value rfl (exec_make32 _ _ 32 rfl rfl rfl (by decide)) ?_; rw [← part_zero x.c])
      obtain ⟨wo, rfl⟩ : ∃ wo : World, wo = wr := ⟨_, rfl⟩
      have hb0 : Blk (wo.alloc (.cells (dk.part x.c 0) 5)) wo.heap.size 5 (dk.part x.c 0) := Blk.new _ _ _
      have hB0 : Below wo.heap.size wo (wo.alloc (.cells (dk.part x.c 0) 5)) := (Below.refl _ wo).alloc (Nat.le_refl _) _
      have Hb0 := Lib.hid hb0
      have HB0 := Lib.hid hB0
      clear hb0 hB0
      generalize wo.alloc (.cells (dk.part x.c 0) 5) = W0 at *
      go_loopw [6] (fun i wr => ∃ j : Nat, j ≤ 32 ∧ i = .int .i64 (j : Int) ∧ Blk wr wo.heap.size 5 (dk.part x.c j) ∧ Below wo.heap.size wo wr) (fun i _ => 32 - (intOf i).toNat)
      case atStart => exact ⟨0, by omega, rfl, Hb0.out, HB0.out⟩
      case round =>
        obtain ⟨j, hj, rfl, hbk, hBk⟩ := hrel
        have HBK := Lib.hid hbk
        have HBJ := Lib.hid hBk
        have HBW := Lib.hid (HB.out.trans (hBk.mono HB.out.size))
        have hbw : bb < wr.heap.size := Nat.lt_of_lt_of_le hbb HBW.out.size
        have d0 : wr.cell? ⟨bb, oo + k * 3, none⟩ = some (.int .i64 x.at_) := by rw [HBW.out.cell (p := ⟨bb, oo + k * 3, none⟩) hbb]; exact HQ0.out
        have d1 : wr.cell? ⟨bb, oo + k * 3 + 1, none⟩ = some (.int .u8 (x.c.toNat : Int)) := by rw [HBW.out.cell (p := ⟨bb, oo + k * 3 + 1, none⟩) hbb]; exact HQ1.out
        have d2 : wr.cell? ⟨bb, oo + k * 3 + 2, none⟩ = some (.bool x.short) := by rw [HBW.out.cell (p := ⟨bb, oo + k * 3 + 2, none⟩) hbb]; exact HQ2.out
        by_cases hlj : j < 32
        · have hcell : (wr.cell? ⟨wo.heap.size, j, none⟩).isSome = true := by
            rw [hbk.cell j, Array.getElem?_eq_getElem (by rw [part_size x.c j hj]; exact hlj)]
            rfl
          obtain ⟨u, hu⟩ := Option.isSome_iff_exists.1 hcell
          have hf := hbk.frozen j
          clear hbk hBk hcell d0 d2
          go_wp2_with fail
          go_roundw
          case rel => exact ⟨j + 1, by omega, by go_num, by rw [← part_set x.c j hlj]; exact HBK.out.set_ j _, HBJ.out.setCell (Nat.le_refl _) _⟩
          case measure => simp [intOf]; omega
        · have hj32 : j = 32 := by omega
          clear hbk hBk hj hlj
          subst hj32
          have hP := HBK.out
          rw [part_full] at hP
          have HP := Lib.hid hP
          have ho2 := own_of_block (w' := wr) HO.out (fun q hq => HBJ.out.block q (own_lt HO.out q hq))
          have HO2 := Lib.hid ho2
          clear hP ho2
          obtain ⟨V, hV⟩ : ∃ V, pB x = V := ⟨_, rfl⟩
          have HV := Lib.hid hV
          clear hV
          cases hsh : x.short with
          | false =>
            have hcv := conv_block (rep x.c 32) wo.heap.size 32 5 wr.drew (rep_length _ _) HP.out
            have hpv : V = rep x.c 32 := by rw [← HV.out]; unfold pB; rw [hsh]; rfl
            rw [hsh] at d2
            have hown3 := HO2.out.alloc (.cells #[.int .i64 x.at_, .string (str (rep x.c 32))] 49)
            have HO3 : Hid (((wr.alloc (.cells #[.int .i64 x.at_, .string (str (rep x.c 32))] 49)).drew).ownsRow w.heap.size 49 2 _ (wsP (zs.take k)).length (wrVals (wsP (zs.take k)))) := Lib.hid hown3
            have HB3 := Lib.hid ((HBW.out.alloc HBW.out.size (.cells #[.int .i64 x.at_, .string (str (rep x.c 32))] 49)).drew)
            have HNW : Hid (∀ (j : Nat) (u : Value), ([.int .i64 x.at_, .string (str (rep x.c 32))] : List Value)[j]? = some u → ((wr.alloc (.cells #[.int .i64 x.at_, .string (str (rep x.c 32))] 49)).drew).cell? ((⟨wr.heap.size, 0, none⟩ : Addr).add j) = some u) := Lib.hid (news_two wr 49 _ _)
            clear hown3
            go_wp2_with fail
            go_region_law (refine step_append_own rfl (.tmp 39) (.tmp 48) 32 rfl w.heap.size 49 i0 (.agg #[.int .i64 0, .string ByteArray.empty]) 2 24 Tryd.underlying32 hi hz0 hz1 hz2 rfl (by decide) _ (wsP (zs.take k)).length _ rfl HO3.out ⟨wr.heap.size, 0, none⟩ 1 1 [.int .i64 x.at_, .string (str (rep x.c 32))] rfl rfl HNW.out (two_one (x.at_, rep x.c 32)) (by rw [HLN.out]; unfold maxLen; omega) (by rw [HLN.out]; omega) HB3.out.size ?_; intro v' w1 hown1 hgrow)
            all_goals
              have hb1 := HB3.out.grown hgrow.out HB3.out.size (fun j hj => (HO3.out.lt j hj).1)
              have hos : OWs w1 w.heap.size v' (wsP (zs.take k) ++ [(x.at_, V)]) := by
                rw [hpv]
                refine OWs.snoc ?_
                exact hown1.out
              have HOS := Lib.hid hos
              have HB5 := Lib.hid hb1
              clear hown1 hgrow hb1 hos
              go_wp2_with fail
              go_roundw
              case rel => exact ⟨k + 1, by omega, by omega, by go_num, by rw [HSN.out, HV.out]; exact HOS.out, HB5.out⟩
              case measure => simp [intOf]; omega
          | true =>
            have hcv := conv_tail x.c wo.heap.size wr.drew HP.out
            have hpv : V = rep x.c 31 := by rw [← HV.out]; unfold pB; rw [hsh]; rfl
            rw [hsh] at d2
            have hown3 := HO2.out.alloc (.cells #[.int .i64 x.at_, .string (str (rep x.c 31))] 49)
            have HO3 : Hid (((wr.alloc (.cells #[.int .i64 x.at_, .string (str (rep x.c 31))] 49)).drew).ownsRow w.heap.size 49 2 _ (wsP (zs.take k)).length (wrVals (wsP (zs.take k)))) := Lib.hid hown3
            have HB3 := Lib.hid ((HBW.out.alloc HBW.out.size (.cells #[.int .i64 x.at_, .string (str (rep x.c 31))] 49)).drew)
            have HNW : Hid (∀ (j : Nat) (u : Value), ([.int .i64 x.at_, .string (str (rep x.c 31))] : List Value)[j]? = some u → ((wr.alloc (.cells #[.int .i64 x.at_, .string (str (rep x.c 31))] 49)).drew).cell? ((⟨wr.heap.size, 0, none⟩ : Addr).add j) = some u) := Lib.hid (news_two wr 49 _ _)
            clear hown3
            go_wp2_with fail
            go_region_law (refine step_append_own rfl (.tmp 39) (.tmp 48) 32 rfl w.heap.size 49 i0 (.agg #[.int .i64 0, .string ByteArray.empty]) 2 24 Tryd.underlying32 hi hz0 hz1 hz2 rfl (by decide) _ (wsP (zs.take k)).length _ rfl HO3.out ⟨wr.heap.size, 0, none⟩ 1 1 [.int .i64 x.at_, .string (str (rep x.c 31))] rfl rfl HNW.out (two_one (x.at_, rep x.c 31)) (by rw [HLN.out]; unfold maxLen; omega) (by rw [HLN.out]; omega) HB3.out.size ?_; intro v' w1 hown1 hgrow)
            all_goals
              have hb1 := HB3.out.grown hgrow.out HB3.out.size (fun j hj => (HO3.out.lt j hj).1)
              have hos : OWs w1 w.heap.size v' (wsP (zs.take k) ++ [(x.at_, V)]) := by
                rw [hpv]
                refine OWs.snoc ?_
                exact hown1.out
              have HOS := Lib.hid hos
              have HB5 := Lib.hid hb1
              clear hown1 hgrow hb1 hos
              go_wp2_with fail
              go_roundw
              case rel => exact ⟨k + 1, by omega, by omega, by go_num, by rw [HSN.out, HV.out]; exact HOS.out, HB5.out⟩
              case measure => simp [intOf]; omega
    · have he : wsP (zs.take k) = wsP zs := by
        unfold wsP
        rw [List.take_take]
        congr 1
        by_cases h : k = zs.length
        · subst h
          rw [← List.take_take, List.take_length]
        · have : k = 70 := by omega
          subst this
          rw [Nat.min_self]
      have HE := Lib.hid he
      clear he
      by_cases hkl : (k : Int) < (zs.length : Int)
      · have hk1 : ¬ ((k : Int) < 70) := by omega
        go_wp2_with fail
        go_ret
        exact ⟨_, rfl, by rw [← HE.out]; exact HO.out, HB.out⟩
      · go_wp2_with fail
        go_ret
        exact ⟨_, rfl, by rw [← HE.out]; exact HO.out, HB.out⟩
end Go.Proofs.YtjllpbckmioiiaaDoor.jr

/- The statements' letters, kept, alike. -/
namespace Go.Proofs.YtjllpbckmioiiaaDoor.jr
open Go Go.RowKit Go.Proofs.YtjllpbckmioiiaaDoor.dk Go.Proofs.YtjllpbckmioiiaaDoor.wi
set_option maxRecDepth 100000

set_option maxHeartbeats 800000 in
theorem letters_any (c : UInt8) (w : World) : Calls Tryd.prog 23 #[.int .u8 (c.toNat : Int)] w (okT (rep c 32) w) := by
  go_enter Tryd.func23, Tryd.ntmps23
  go_wp2_with fail
  have hb : Below w.heap.size w (w.alloc (.cells #[.int .i64 0, .int .u8 (c.toNat : Int), .bool false] 70)) := (Below.refl _ _).alloc (Nat.le_refl _) _
  have hB := Blk.new w 70 #[.int .i64 0, .int .u8 (c.toNat : Int), .bool false]
  have hT : PutsAt3 (w.alloc (.cells #[.int .i64 0, .int .u8 (c.toNat : Int), .bool false] 70)) (some ⟨w.heap.size, 0, none⟩) [⟨0, c, false⟩] := fun i hi => by
    obtain rfl : i = 0 := by simp at hi; exact hi
    exact ⟨w.heap.size, 0, rfl, hB.lt, hB.cell 0, hB.cell 1, hB.cell 2, by unfold i64B; simp⟩
  have HB := Lib.hid hb
  have HT := Lib.hid hT
  clear hb hB hT
  refine (writes_any (some ⟨w.heap.size, 0, none⟩) 1 [⟨0, c, false⟩] _ HT.out (by simp)).mono ?_
  rintro e W1 ⟨v, rfl, ho, b1⟩
  obtain ⟨A, c1, rfl, hw⟩ := ho.view (fun x hx => by
    have : x = (0, rep c 32) := by simpa [wsP, pB] using hx
    subst this
    unfold i64B
    simp)
  obtain ⟨b, o, rfl, hbl, q0, q1, _⟩ := hw 0 (by simp [wsP])
  have q1' : W1.cell? ⟨b, o + 1, none⟩ = some (.string (str (rep c 32))) := q1
  have HB1 := Lib.hid (below_step HB.out b1)
  have hln : ((wsP [⟨0, c, false⟩]).length : Int) = 1 := rfl
  clear ho hw q0 q1 b1 HT
  have hln2 : (wsP [⟨0, c, false⟩]).length = 1 := rfl
  rw [hln2]
  go_wp2_with fail
  go_ret
  exact ⟨rfl, HB1.out⟩

def keptB (d : DD) : List Bt := (List.range (d.n - 145)).map fun i => rd d.now ((145 + i : Nat) : Int)

def KeptRel (w : World) (d : DD) (v i : Value) (wr : World) : Prop :=
  ∃ k : Nat, k ≤ d.n - 145 ∧ i = .int .i64 ((145 + k : Nat) : Int) ∧ OwnsStrs wr w.heap.size v ((keptB d).take k) ∧ Below w.heap.size w wr
def okOwnS (ps : List Bt) (w : World) (e : Ending) (w' : World) : Prop := ∃ v, e = .returned v ∧ OwnsStrs w' w.heap.size v ps ∧ Below w.heap.size w w'

theorem keptB_len (d : DD) : (keptB d).length = d.n - 145 := by simp [keptB]

set_option maxHeartbeats 1600000 in
theorem kept_any {most : Nat} {w : World} {own : Nat → Prop} {p : Nat} {d : DD} (h : DkIs most w own p d) (hon : d.on = true) :
    Calls Tryd.prog 10 #[.pointer (some ⟨p, 0, none⟩)] w (okOwnS (keptB d) w) := by
  obtain ⟨i0, hi, hz0, hz1, hz2⟩ := info_parts Tryd.info9
  have HD := Lib.hid h
  have HN := Lib.hid h.1.n1
  have hrd : ∀ k, k < d.n - 145 → d.read ((145 + k : Nat) : Int) = (rd d.now ((145 + k : Nat) : Int), 0) := by
    intro k hk
    unfold DD.read
    have : d.has ((145 + k : Nat) : Int) = true := by
      simp only [DD.has, Bool.and_eq_true, decide_eq_true_eq]
      omega
    rw [if_neg (by rw [hon]; simp), if_neg (by rw [this]; simp)]
    rfl
  have HRD := Lib.hid hrd
  clear h hrd
  go_enter Tryd.func10, Tryd.ntmps10
  go_wp2_with fail
  go_loopw [3, 4] (fun v i wr => KeptRel w d v i wr) (fun _ i _ => d.n - (intOf i).toNat)
  case atStart => exact ⟨0, Nat.zero_le _, rfl, World.ownsRow_nil _ _ _ _, Below.refl _ _⟩
  case round =>
    obtain ⟨k, hk, rfl, ho, hB⟩ := hrel
    have HO := Lib.hid ho
    have HB := Lib.hid hB
    have hlen : ∀ W, Below w.heap.size w W → Calls Tryd.prog 19 #[.pointer (some ⟨p, 0, none⟩)] W fun e w' => e = .returned (.int .i64 (d.n : Int)) ∧ W = w' := fun W hW => by
      obtain ⟨_, m, v, hd⟩ := HD.out.below hW
      exact len_any hd
    have HL := Lib.hid (hlen wr hB)
    clear ho hB hlen
    by_cases hlt : k < d.n - 145
    · have hklt : ((145 + k : Nat) : Int) < (d.n : Int) := by omega
      have hr1 := HRD.out k hlt
      have hsn : (keptB d).take (k + 1) = (keptB d).take k ++ [rd d.now ((145 + k : Nat) : Int)] := by
        rw [List.take_succ_eq_append_getElem (by rw [keptB_len]; exact hlt)]
        simp [keptB]
      have hln : ((keptB d).take k).length = k := by rw [List.length_take, keptB_len]; omega
      generalize rd d.now ((145 + k : Nat) : Int) = x at *
      have HR1 := Lib.hid hr1
      have HSN := Lib.hid hsn
      have HLN := Lib.hid hln
      clear hr1 hsn hln
      obtain ⟨ii, hii⟩ : ∃ n : Nat, n = 145 + k := ⟨_, rfl⟩
      rw [← hii] at hklt HR1
      rw [← hii]
      have HII := Lib.hid hii
      have hiib : (ii : Int) ≤ 2000 := by have := HN.out; omega
      clear hii
      go_wp2_with (go_at_call 19; refine HL.out.mono ?_; rintro e w' ⟨rfl, rfl⟩)
      refine (read_in (B := 0) ⟨own, HD.out.below HB.out, fun _ _ => Nat.zero_le _⟩ (ii : Int) x (str x) rfl 0 HR1.out).mono ?_
      rintro e W2 ⟨rfl, _, b2⟩
      have ho2 := owns_kept HO.out b2
      have hown2 := World.ownsRow.alloc ho2 (.cells #[.string (str x)] 9)
      have hnews := news_one W2 9 (.string (str x))
      have HB2 := Lib.hid (HB.out.trans (b2.mono HB.out.size))
      have HO2 := Lib.hid hown2
      have HNW := Lib.hid hnews
      have HB3 := Lib.hid (HB2.out.alloc HB2.out.size (.cells #[.string (str x)] 9))
      have hkb : k ≤ 1024 := by have := HN.out; omega
      clear b2 ho2 hown2 hnews HO
      generalize (keptB d).take k = ps at *
      go_wp2_with (at_builtin; refine wpList_append_own _ rfl (.tmp 19) (.tmp 21) 34 rfl w.heap.size 9 i0 (.string ByteArray.empty) 1 16 Tryd.underlying34 hi hz0 hz1 hz2 rfl (by decide) _ ps.length _ rfl HO2.out ⟨W2.heap.size, 0, none⟩ 1 1 [.string (str x)] rfl rfl HNW.out (fun u hu => by simp at hu; subst hu; rfl) ?_ ?_ HB3.out.size ?_)
      · rw [HLN.out]; unfold maxLen; omega
      · rw [HLN.out]; omega
      · intro v' w1 hown1 hgrow _
        have hb1 := HB3.out.grown hgrow HB3.out.size (fun j hj => (HO2.out.lt j hj).1)
        have hos : OwnsStrs w1 w.heap.size v' (ps ++ [x]) := by
          unfold OwnsStrs
          rw [strVals_snoc, List.length_append]
          rw [HLN.out]
          first | exact hown1 | (rw [HLN.out] at hown1; exact hown1)
        have HOS := Lib.hid hos
        have HB4 := Lib.hid hb1
        clear hb1 hos hown1 hgrow
        go_wp2_with fail
        go_roundw
        case rel => exact ⟨k + 1, by omega, by rw [show 145 + (k + 1) = ii + 1 from by have := HII.out; omega]; go_num, by rw [HSN.out]; exact HOS.out, HB4.out⟩
        case measure => simp [intOf]; omega
    · have hnk : ¬ ((145 + k : Nat) : Int) < (d.n : Int) := by omega
      have he : (keptB d).take k = keptB d := List.take_of_length_le (by rw [keptB_len]; omega)
      have HE := Lib.hid he
      clear he
      obtain ⟨ii, hii⟩ : ∃ n : Nat, n = 145 + k := ⟨_, rfl⟩
      rw [← hii] at hnk
      rw [← hii]
      clear hii
      go_wp2_with (go_at_call 19; refine HL.out.mono ?_; rintro e w' ⟨rfl, rfl⟩)
      go_ret
      exact ⟨_, rfl, by rw [← HE.out]; exact HO.out, HB.out⟩
end Go.Proofs.YtjllpbckmioiiaaDoor.jr

/- The statements' alike. -/
namespace Go.Proofs.YtjllpbckmioiiaaDoor.jr
open Go Go.RowKit Go.Proofs.YtjllpbckmioiiaaDoor.dk Go.Proofs.YtjllpbckmioiiaaDoor.wi
set_option maxRecDepth 100000

theorem drewX {w wr : World} (h : Below w.heap.size w wr) (n : Nat) : Below w.heap.size w (wr.drewN n) := ⟨h.os, h.tape, h.output, h.size, h.block⟩

def AlRel (ps qs : List Bt) (w : World) (i : Value) (wr : World) : Prop := ∃ k : Nat, k ≤ ps.length ∧ i = .int .i64 (k : Int) ∧ ps.take k = qs.take k ∧ Below w.heap.size w wr

theorem str_inj {a b : Bt} (h : str a = str b) : a = b := by rw [← bl_str a, ← bl_str b, h]

set_option maxHeartbeats 1600000 in
theorem alike_any (A A' : Option Addr) (c c' : Nat) (ps qs : List Bt) (w : World) (hp : StrsAt w A ps) (hq : StrsAt w A' qs) (hpl : ps.length ≤ 1000000) :
    Calls Tryd.prog 12 #[.slice A ps.length c, .slice A' qs.length c'] w (okB (decide (ps = qs)) w) := by
  have HP := Lib.hid hp
  have HQ := Lib.hid hq
  clear hp hq
  by_cases hl : ps.length = qs.length
  · have hl' : ((ps.length : Int) != (qs.length : Int)) = false := by rw [bne_eq_false_iff_eq]; omega
    have HLL := Lib.hid hl
    clear hl
    go_enter Tryd.func12, Tryd.ntmps12
    go_wp2_with fail
    clear hl'
    go_loopw [5] (fun i wr => AlRel ps qs w i wr) (fun i _ => ps.length - (intOf i).toNat)
    case atStart => exact ⟨0, Nat.zero_le _, rfl, rfl, Below.refl _ _⟩
    case round =>
      obtain ⟨k, hk, rfl, he, hB⟩ := hrel
      have HE := Lib.hid he
      have HB := Lib.hid hB
      clear he hB
      by_cases hlt : k < ps.length
      · obtain ⟨b, o, rfl, hb, q0⟩ := HP.out k hlt
        have hlq : k < qs.length := by have := HLL.out; omega
        obtain ⟨b', o', rfl, hb', q1⟩ := HQ.out k hlq
        have hkb : (k : Int) ≤ 1000000 := by omega
        have e0 : wr.cell? ⟨b, o + k, none⟩ = some (.string (str ps[k])) := by rw [HB.out.cell (p := ⟨b, o + k, none⟩) hb]; exact q0
        have e1 : wr.cell? ⟨b', o' + k, none⟩ = some (.string (str qs[k])) := by rw [HB.out.cell (p := ⟨b', o' + k, none⟩) hb']; exact q1
        have hb2 : b < wr.heap.size := Nat.lt_of_lt_of_le hb HB.out.size
        have hb2' : b' < wr.heap.size := Nat.lt_of_lt_of_le hb' HB.out.size
        have hklt : (k : Int) < (ps.length : Int) := by omega
        have hklt' : (k : Int) < (qs.length : Int) := by omega
        have hst : ps.take (k + 1) = qs.take (k + 1) ↔ ps[k] = qs[k] := by
          rw [List.take_succ_eq_append_getElem hlt, List.take_succ_eq_append_getElem hlq, HE.out]
          constructor
          · intro h
            have := List.append_cancel_left h
            simpa using this
          · intro h
            rw [h]
        have hne : ps[k] ≠ qs[k] → ¬ ps = qs := fun h e => h (by subst e; rfl)
        have HST := Lib.hid hst
        have HNE := Lib.hid hne
        clear q0 q1 hst hne
        generalize ps[k] = x at *
        generalize qs[k] = y at *
        have hxe : ∀ q : Bool, ((str x).toList == (str y).toList) = q → (q = true ↔ x = y) := fun q hq => by
          rw [← hq, beq_iff_eq, toList_bl, toList_bl, bl_str, bl_str]
        obtain ⟨q, hq⟩ : ∃ q, ((str x).toList == (str y).toList) = q := ⟨_, rfl⟩
        have HQE := Lib.hid (hxe q hq)
        clear hxe
        cases q with
        | true =>
          go_wp2_with fail
          go_quiet (fail)
          go_wp2_with fail
          go_roundw
          case rel => exact ⟨k + 1, by omega, by go_num, HST.out.2 (HQE.out.1 (by simp)), drewX HB.out _⟩
          case measure => simp [intOf]; omega
        | false =>
          go_wp2_with fail
          go_quiet (fail)
          go_wp2_with fail
          go_ret
          exact ⟨by rw [decide_eq_false (HNE.out (fun e => by have := HQE.out.2 e; cases this))]; rfl, drewX HB.out _⟩
      · obtain rfl : k = ps.length := by omega
        have heq : ps = qs := by
          have := HE.out
          rw [List.take_length, HLL.out, List.take_length] at this
          exact this
        go_wp2_with fail
        go_ret
        exact ⟨by rw [decide_eq_true heq]; rfl, HB.out⟩
  · have hl' : ((ps.length : Int) != (qs.length : Int)) = true := by rw [bne_iff_ne]; omega
    go_enter Tryd.func12, Tryd.ntmps12
    go_wp2_with fail
    go_ret
    exact ⟨by rw [decide_eq_false (fun e => hl (by rw [e]))]; rfl, Below.refl _ _⟩
end Go.Proofs.YtjllpbckmioiiaaDoor.jr

/- The statements' ready and works, by what a head's two calls do. -/
namespace Go.Proofs.YtjllpbckmioiiaaDoor.jr
open Go Go.RowKit Go.Proofs.YtjllpbckmioiiaaDoor.dk Go.Proofs.YtjllpbckmioiiaaDoor.wi
set_option maxRecDepth 100000

def new200 : DD := DD.new 200 200
def ready200 : DD := (jformat new200).2

theorem look_none (n : Nat) (k : Int) : dk.look (List.replicate n none) k = none := by
  unfold dk.look
  split
  · rw [List.getElem?_replicate]
    split <;> rfl
  · rfl

theorem ready_is : jformat new200 = (0, ready200) ∧ JJ 200 (fun _ => zz) ready200 ∧ ready200.fuse = 0 := by
  have hn : new200.n = 200 := by simp [DD.n, DD.new, new200]
  have hgs : ∀ s ∈ stepsOf [[((0 : Int), hdB 0 0)]], goodS new200.n s := by
    rw [hn]
    refine good_steps fun l hl x hx => ?_
    obtain rfl : l = [(0, hdB 0 0)] := by simpa using hl
    obtain rfl : x = (0, hdB 0 0) := by simpa using hx
    exact ⟨by simp, by simp, (hd_facts (by decide) (by decide)).1⟩
  have e : jformat new200 = (0, mk new200 (play (List.replicate 200 none) [(0, hdB 0 0)], []) true 0) := by
    unfold jformat
    rw [if_neg (by simp [new200, DD.new]), if_neg (by rw [hn]; omega), runS_all _ new200 rfl (Int.le_refl _) (by rw [hn]; decide) hgs (.inl rfl)]
    have : (new200.base, new200.more) = (List.replicate 200 none, []) := rfl
    rw [this, apL_steps]
    rfl
  have e2 : ready200 = mk new200 (play (List.replicate 200 none) [(0, hdB 0 0)], []) true 0 := by unfold ready200; rw [e]
  refine ⟨by rw [e, e2], ?_, by rw [e2]; rfl⟩
  rw [e2]
  have hk : ∀ k, 145 ≤ k → rd (play (List.replicate 200 none) [(0, hdB 0 0)]) k = zz := fun k hk => by
    rw [rd_play_out _ _ _ (fun x hx => by
      obtain rfl : x = (0, hdB 0 0) := by simpa using hx
      dsimp only
      omega)]
    unfold rd
    rw [look_none]
    rfl
  refine ⟨⟨rfl, rfl, by show (200 : Int) ≤ 200; omega, by show (play _ _).length = 200; rw [play_length]; simp, play_all (fun v hv => by simp at hv) (fun x hx => ?_), 0, 0, [], ?_, .inl ⟨rfl, rfl⟩, ?_⟩, hk⟩
  · obtain rfl : x = (0, hdB 0 0) := by simpa using hx
    exact (hd_facts (by decide) (by decide)).1
  · show hdOf (rd (play (List.replicate 200 none) [(0, hdB 0 0)]) 0) = _
    have : rd (play (List.replicate 200 none) [(0, hdB 0 0)]) 0 = hdB 0 0 := by
      unfold rd play
      simp only [List.foldl_cons, List.foldl_nil, dk.put]
      have := look_set_same (List.replicate 200 none) 0 (some (hdB 0 0)) (by simp)
      rw [show ((0 : Int)) = ((0 : Nat) : Int) from rfl, this]
      rfl
    rw [this]
    exact (hd_facts (by decide) (by decide)).2.1
  · exact hk

def okReady (w : World) (e : Ending) (w' : World) : Prop := ∃ p, e = .returned (.pointer (some ⟨p, 0, none⟩)) ∧ In 400 w' w.heap.size p ready200 ∧ Below w.heap.size w w'

set_option maxHeartbeats 800000 in
theorem ready_any (HW : HeadW) (w : World) : Calls Tryd.prog 7 #[] w (okReady w) := by
  obtain ⟨r1, r2, r3⟩ := ready_is
  have HR1 := Lib.hid r1
  clear r1 r2 r3
  go_enter Tryd.func7, Tryd.ntmps7
  go_wp2_with fail
  refine (new_in 400 200 200 (by decide) (by decide) (by decide) (by decide) w).mono ?_
  rintro e W1 ⟨p, rfl, hi, b1⟩
  have HI := Lib.hid hi
  have HB1 := Lib.hid b1
  clear hi b1
  go_wp2_with fail
  obtain ⟨own, hd, ho⟩ := HI.out
  have HD := Lib.hid hd
  clear hd
  refine (format_any HW HD.out (by decide) (by decide)).mono ?_
  intro e W2 hpost
  obtain ⟨rfl, hi2, b2⟩ := in_of_post (B := w.heap.size) HB1.out.size ho hpost
  have e1 : (jformat (DD.new 200 200)).1 = 0 := by have := HR1.out; rw [show jformat (DD.new 200 200) = jformat new200 from rfl, this]
  rw [e1]
  have HI2 : Hid (In 400 W2 w.heap.size p ready200) := hi2
  have HB2 := Lib.hid (HB1.out.trans b2)
  clear hi2 b2 hpost e1
  go_wp2_with fail
  go_ret
  exact ⟨p, rfl, HI2.out, HB2.out⟩
end Go.Proofs.YtjllpbckmioiiaaDoor.jr


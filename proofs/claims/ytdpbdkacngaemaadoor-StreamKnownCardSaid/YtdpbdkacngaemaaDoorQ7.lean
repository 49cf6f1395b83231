/- StMade, MgPure, WiGrown, WiRead, WiNum, WiNumG. -/
import Derived.Test.YtdpbdkacngaemaaDoorQ0
import Derived.Test.YtdpbdkacngaemaaDoorQ2
import Derived.Test.YtdpbdkacngaemaaDoorQ6
import Derived.Test.YtdpbdkacngaemaaDoorProg
import Derived.WalkKit
import Derived.WalkSpells
import Derived.WalkLawsBesides
import Derived.BigCall
import Derived.Lib.Hide
import Derived.Lib.ConvBytes
set_option linter.unusedVariables false
set_option linter.unusedSimpArgs false
/- The statements' changes: of marks. -/
namespace Go.Proofs.YtdpbdkacngaemaaDoor.st
open Go Go.RowKit Go.Sort Go.Proofs.YtdpbdkacngaemaaDoor.ib Go.Proofs.YtdpbdkacngaemaaDoor.wi Go.Proofs.YtdpbdkacngaemaaDoor.mt
open Go.Proofs.YtdpbdkacngaemaaDoor.ch (ChL OChs chVals infoCh)
set_option maxRecDepth 100000

structure Mk where
  b : Int
  c : UInt8
  s : Bool
def mdOne (m : Mk) : Ch := (m.b, rep m.c (if m.s then 31 else 32))
def mdOf (l : List Mk) : List Ch := (l.take 30).map mdOne
/-- A slice of marks. -/
def MkL (w : World) (A : Option Addr) (l : List Mk) : Prop :=
  ∀ i (h : i < l.length), ∃ b o, A = some ⟨b, o, none⟩ ∧ b < w.heap.size ∧ w.cell? ⟨b, o + i * 3, none⟩ = some (.int .i64 l[i].b) ∧ w.cell? ⟨b, o + i * 3 + 1, none⟩ = some (.int .u8 (l[i].c.toNat : Int)) ∧ w.cell? ⟨b, o + i * 3 + 2, none⟩ = some (.bool l[i].s) ∧ b64 l[i].b
theorem MkL.below {w w' : World} {A : Option Addr} {x : List Mk} (h : MkL w A x) (hb : Below w.heap.size w w') : MkL w' A x := by
  intro i hi
  obtain ⟨b, o, h1, h2, h3, h4, h5, h6⟩ := h i hi
  exact ⟨b, o, h1, Nat.lt_of_lt_of_le h2 hb.size, by rw [hb.cell (p := ⟨b, o + i * 3, none⟩) h2]; exact h3, by rw [hb.cell (p := ⟨b, o + i * 3 + 1, none⟩) h2]; exact h4, by rw [hb.cell (p := ⟨b, o + i * 3 + 2, none⟩) h2]; exact h5, h6⟩
theorem mdOf_len (l : List Mk) : (mdOf l).length = min 30 l.length := by unfold mdOf; rw [List.length_map, List.length_take]
theorem mdOf_snoc (l : List Mk) (k : Nat) (h : k < l.length) (h30 : k < 30) : mdOf (l.take (k + 1)) = mdOf (l.take k) ++ [mdOne l[k]] := by
  unfold mdOf
  rw [List.take_take, List.take_take, Nat.min_eq_right (by omega), Nat.min_eq_right (by omega), List.take_succ_eq_append_getElem h, List.map_append]
  rfl
theorem mdOf_at (l : List Mk) (k : Nat) (h : k ≤ l.length) (h30 : k ≤ 30) : (mdOf (l.take k)).length = k := by
  rw [mdOf_len, List.length_take]
  omega
theorem mdOf_done (l : List Mk) (k : Nat) (h : k ≤ l.length) (h30 : k ≤ 30) (he : ¬ (k < l.length ∧ k < 30)) : mdOf (l.take k) = mdOf l := by
  unfold mdOf
  rw [List.take_take]
  congr 1
  by_cases h : k = l.length
  · subst h
    rw [← List.take_take, List.take_length]
  · have : k = 30 := by omega
    subst this
    rw [Nat.min_self]
theorem mdOf_len32 (l : List Mk) : ∀ c ∈ mdOf l, c.2.length ≤ 32 := by
  intro c hc
  unfold mdOf at hc
  obtain ⟨m, _, rfl⟩ := List.mem_map.1 hc
  unfold mdOne
  dsimp only
  rw [rep_length]
  split <;> omega
theorem mdOf_b64 {w : World} {A : Option Addr} {l : List Mk} (h : MkL w A l) : ∀ c ∈ mdOf l, b64 c.1 := by
  intro c hc
  unfold mdOf at hc
  obtain ⟨m, hm, rfl⟩ := List.mem_map.1 hc
  obtain ⟨i, hi, rfl⟩ := List.getElem_of_mem (List.mem_of_mem_take hm)
  obtain ⟨_, _, _, _, _, _, _, h⟩ := h i hi
  exact h
theorem rep_get (c : UInt8) (n j : Nat) (h : j < (rep c n).length) : (rep c n)[j] = c := List.getElem_replicate h
theorem conv_tail (c : UInt8) (b : Nat) (t : TypeId) (w : World) (h : w.heap[b]? = some (.cells (Lib.byteCells (rep c 32)).toArray t (0, 0))) :
    (convert 60 9 (.slice (some ⟨b, 1, none⟩) 31 31)).run Tryd.prog w = .ok (.string (str (rep c 31))) w := by
  refine run_convert_bytes_back (P := Tryd.prog) w 60 9 5 ⟨b, 1, none⟩ 31 (rep c 31) Tryd.underlying60 Tryd.underlying5 Tryd.underlying9 ?_
  intro j hj
  rw [rep_length] at hj
  rw [addr_add, cell_of_row w b (1 + j) _ _ _ h]
  show (Lib.byteCells (rep c 32)).toArray[1 + j]? = _
  unfold Lib.byteCells
  rw [show (rep c 32).map (fun b => Value.int .u8 (b.toNat : Int)) = List.replicate 32 (Value.int .u8 (c.toNat : Int)) from List.map_replicate, List.getElem?_toArray, List.getElem?_replicate, if_pos (by omega)]
  exact (congrArg (fun z : UInt8 => some (Value.int .u8 (z.toNat : Int))) (rep_get c 31 j (by rw [rep_length]; exact hj))).symm

def MdG (A5 : Option Addr) (k c5 b oo n cp : Nat) (x1 : Int) (gb z m : Nat) (S : ByteArray) : Nat → Value → World → Prop
  | 0, v, _ => v = .slice A5 k c5
  | 1, v, _ => v = .slice (some ⟨b, oo, none⟩) n cp
  | 2, v, _ => v = .int .i64 (k : Int)
  | 3, v, _ => v = .pointer (some ⟨b, oo + k * 3, none⟩)
  | 4, v, _ => v = .pointer (some ⟨b, oo + k * 3, none⟩)
  | 5, v, _ => v = .int .i64 x1
  | 6, v, _ => v = .slice (some ⟨gb, z, none⟩) m m
  | 7, v, _ => v = .string S
  | 8, v, _ => v = .agg #[.int .i64 x1, .string S]
  | 9, v, W => ∃ g, v = .slice (some ⟨g, 0, none⟩) 1 1 ∧ Blk W g 46 #[.int .i64 x1, .string S]
  | _, _, _ => True
theorem MdG_mono (A5 : Option Addr) (k c5 b oo n cp : Nat) (x1 : Int) (gb z m : Nat) (S : ByteArray) (i : Nat) (v : Value) (w w' : World) (hi : i < 10) (h : MdG A5 k c5 b oo n cp x1 gb z m S i v w) (hb : Below w.heap.size w w') : MdG A5 k c5 b oo n cp x1 gb z m S i v w' := by
  match i, hi, h with
  | 0, _, h | 1, _, h | 2, _, h | 3, _, h | 4, _, h | 5, _, h | 6, _, h | 7, _, h | 8, _, h => exact h
  | 9, _, ⟨g, h1, h2⟩ => exact ⟨g, h1, h2.below hb⟩
  | j + 10, hi, _ => exact absurd hi (by omega)

def MdRel (l : List Mk) (w : World) (v i : Value) (wr : World) : Prop :=
  ∃ k : Nat, k ≤ l.length ∧ k ≤ 30 ∧ i = .int .i64 (k : Int) ∧ OChs wr w.heap.size v (mdOf (l.take k)) ∧ Below w.heap.size w wr
set_option maxHeartbeats 12800000 in
theorem made_any (A : Option Addr) (cp : Nat) (l : List Mk) (w : World) (h : MkL w A l) (hl : l.length ≤ 9223372036854775807) :
    Calls Tryd.prog 7 #[.slice A l.length cp] w (endO (mdOf l) w) := by
  obtain ⟨i0, hi, hz0, hz1, hz2⟩ := info_parts infoCh
  have HC := Lib.hid h
  clear h
  obtain ⟨n, hlen⟩ : ∃ k, l.length = k := ⟨_, rfl⟩
  have HLL := Lib.hid hlen
  rw [hlen] at hl ⊢
  clear hlen
  go_enter Tryd.func7, Tryd.ntmps7
  go_wp2_with fail
  go_loopw [3, 4, 5, 6] (fun v i _ _ wr => MdRel l w v i wr) (fun _ i _ _ _ => 31 - (intOf i).toNat)
  case atStart => exact ⟨0, Nat.zero_le _, Nat.zero_le _, rfl, World.ownsRow_nil _ _ _ _, Below.refl _ _⟩
  case round =>
    obtain ⟨k, hk, hk30, rfl, ho, hB⟩ := hrel
    have HLN := Lib.hid (mdOf_at l k hk hk30)
    obtain ⟨A5, c5, hv5⟩ := own_form ho
    rw [HLN.out] at hv5
    subst hv5
    have HO := Lib.hid ho
    have HB := Lib.hid hB
    have HE := Lib.hid (mdOf_done l k hk hk30)
    rw [HLL.out] at hk HE
    clear ho hB
    by_cases hgo : k < n ∧ k < 30
    · obtain ⟨hlt, hlt30⟩ := hgo
      have hki : (k : Int) < (n : Int) := by omega
      have hki30 : (k : Int) < 30 := by omega
      have hkl : k < l.length := by rw [HLL.out]; exact hlt
      obtain ⟨b, oo, rfl, hbb, c0, c1, c2, cb⟩ := HC.out k hkl
      have HSN := Lib.hid (mdOf_snoc l k hkl hlt30)
      obtain ⟨x, hx⟩ : ∃ x, l[k] = x := ⟨_, rfl⟩
      rw [hx] at c0 c1 c2 HSN
      obtain ⟨x1, c, s⟩ := x
      dsimp only at c0 c1 c2
      have C0 := Lib.hid c0
      have C1 := Lib.hid c1
      have C2 := Lib.hid c2
      have hcb : (0 : Int) ≤ (c.toNat : Int) ∧ (c.toNat : Int) < 256 := by have := c.toNat_lt; omega
      obtain ⟨hcb0, hcb1⟩ := hcb
      clear hx c0 c1 c2 cb HE
      obtain ⟨wo, hwo⟩ : ∃ x, x = wr := ⟨_, rfl⟩
      subst hwo
      go_upto_region 5 with fail
      go_wp2_with (at_make; refine wpList_value rfl (exec_make32 _ _ 32 rfl rfl rfl (by decide)) ?_; rw [← lpart_zero c])
      have hb0 : Blk (wo.alloc (.cells (lpart c 0) 5)) wo.heap.size 5 (lpart c 0) := Blk.new _ _ _
      have hB0 : Below wo.heap.size wo (wo.alloc (.cells (lpart c 0) 5)) := (Below.refl _ wo).alloc (Nat.le_refl _) _
      have HGB : Hid (w.heap.size ≤ wo.heap.size) := HB.out.size
      have Hb0 := Lib.hid hb0
      have HB0 := Lib.hid hB0
      clear hb0 hB0
      generalize wo.alloc (.cells (lpart c 0) 5) = W0 at *
      obtain ⟨gb, hgb⟩ : ∃ g, wo.heap.size = g := ⟨_, rfl⟩
      rw [hgb] at Hb0 HGB
      try rw [hgb]
      have HGE := Lib.hid hgb
      clear hgb
      go_loopw [6] (fun i wr => ∃ j : Nat, j ≤ 32 ∧ i = .int .i64 (j : Int) ∧ Blk wr gb 5 (lpart c j) ∧ Below wo.heap.size wo wr) (fun i _ => 32 - (intOf i).toNat)
      case atStart => exact ⟨0, by omega, rfl, Hb0.out, HB0.out⟩
      case round =>
        obtain ⟨j, hj, rfl, hbk, hBk⟩ := hrel
        have HBK := Lib.hid hbk
        have HBJ := Lib.hid hBk
        have HB2 := Lib.hid (below_step HB.out hBk)
        have e1 : wr.cell? ⟨b, oo + k * 3 + 1, none⟩ = some (.int .u8 (c.toNat : Int)) := by rw [HB2.out.cell (p := ⟨b, oo + k * 3 + 1, none⟩) hbb]; exact C1.out
        have e2 : wr.cell? ⟨b, oo + k * 3 + 2, none⟩ = some (.bool s) := by rw [HB2.out.cell (p := ⟨b, oo + k * 3 + 2, none⟩) hbb]; exact C2.out
        have lb2 : b < wr.heap.size := Nat.lt_of_lt_of_le hbb HB2.out.size
        by_cases hlt : j < 32
        · have hcell : (wr.cell? ⟨gb, j, none⟩).isSome = true := by
            rw [hbk.cell j, Array.getElem?_eq_getElem (by rw [lpart_size c j hj]; exact hlt)]
            rfl
          obtain ⟨u, hu⟩ := Option.isSome_iff_exists.1 hcell
          have hf := hbk.frozen j
          have hgl := hbk.lt
          have hlt' : (j : Int) < 32 := by omega
          clear hbk hBk hcell
          go_wp2_with fail
          go_roundw
          case rel => exact ⟨j + 1, by omega, by go_num, by rw [← lpart_set c j hlt]; exact HBK.out.set_ j _, HBJ.out.setCell (Nat.le_of_eq HGE.out) _⟩
          case measure => simp [intOf]; omega
        · have hj32 : j = 32 := by omega
          have hjn : ¬ (j : Int) < 32 := by omega
          have hP : Blk wr gb 5 (Lib.byteCells (rep c 32)).toArray := by rw [hj32, lpart_full] at hbk; exact hbk
          have HP := Lib.hid hP
          have E0 : Hid (wr.cell? ⟨b, oo + k * 3, none⟩ = some (.int .i64 x1)) := by unfold Hid; rw [HB2.out.cell (p := ⟨b, oo + k * 3, none⟩) hbb]; exact C0.out
          have HO1 : Hid (OChs wr w.heap.size (.slice A5 k c5) (mdOf (l.take k))) := row_of_block HO.out (fun j hj => hBk.block j (HO.out.lt j hj).2)
          have HX1 : Hid ((mdOne ⟨x1, c, s⟩).1 = x1) := rfl
          clear hbk hBk hj32 hj hlt HBK HBJ HO hP
          cases s with
          | true =>
            have HS' : Hid (rep c 31 = (mdOne ⟨x1, c, true⟩).2) := rfl
            have HCV0 : Hid (∀ W, Below wr.heap.size wr W → (convert 60 9 (.slice (some ⟨gb, 1, none⟩) 31 31)).run Tryd.prog W = .ok (.string (str (rep c 31))) W) := fun W hb => conv_tail c gb _ W (HP.out.below hb)
            obtain ⟨S, hS⟩ : ∃ z, str (rep c 31) = z := ⟨_, rfl⟩
            rw [hS] at HCV0
            have HS : Hid (S = str (mdOne ⟨x1, c, true⟩).2) := hS.symm
            have HCV := HCV0
            clear HCV0 HS' hS
            go_upto_region 12 with fail
            refine wp_region_slots_f (by kernel_rfl) 10 [39, 40, 41, 42, 43, 44, 45, 46, 47, 48] (by kernel_rfl) (MdG A5 k c5 b oo n cp x1 gb 1 31 S) (MdG_mono _ _ _ _ _ _ _ _ _ _ _ _ ) ?_ ?_
            · intro i o vs ρ W hi ho hρ hfn hb hG
              have hc := hρ.const
              have e0 : W.cell? ⟨b, oo + k * 3, none⟩ = some (.int .i64 x1) := by rw [hb.cell (p := ⟨b, oo + k * 3, none⟩) lb2]; exact E0.out
              rcases i with _ | _ | _ | _ | _ | _ | _ | _ | _ | _ | i
              all_goals (first | omega | skip)
              all_goals simp only [List.getElem?_toArray, List.getElem?_cons_zero, List.getElem?_cons_succ, Option.some.injEq] at ho
              all_goals subst ho
              · have o3 : ρ (.tmp 3) = .slice A5 k c5 := hρ.out 3 rfl
                exact stepTo_value (w' := W) (by unfold execOp; simp only [o3, hc]; go_simp) ⟨Below.refl _ _, rfl⟩
              · have o0 : ρ (.tmp 0) = .slice (some ⟨b, oo, none⟩) n cp := hρ.out 0 rfl
                exact stepTo_value (w' := W) (by unfold execOp; simp only [o0, hc]; go_simp) ⟨Below.refl _ _, rfl⟩
              · have o4 : ρ (.tmp 4) = .int .i64 (k : Int) := hρ.out 4 rfl
                exact stepTo_value (w' := W) (by unfold execOp; simp only [o4, hc]; go_simp) ⟨Below.refl _ _, rfl⟩
              · have g40 : vs 1 = .slice (some ⟨b, oo, none⟩) n cp := hG 1 (by kernel_rfl)
                have s40 := (hρ.at_ 40 1 rfl).trans g40
                have g41 : vs 2 = .int .i64 (k : Int) := hG 2 (by kernel_rfl)
                have s41 := (hρ.at_ 41 2 rfl).trans g41
                exact stepTo_value (w' := W) (by unfold execOp; simp only [s40, s41, hc]; go_simp) ⟨Below.refl _ _, rfl⟩
              · have g42 : vs 3 = .pointer (some ⟨b, oo + k * 3, none⟩) := hG 3 (by kernel_rfl)
                have s42 := (hρ.at_ 42 3 rfl).trans g42
                exact stepTo_value (w' := W) (by unfold execOp; simp only [s42, hc]; go_simp) ⟨Below.refl _ _, rfl⟩
              · have g43 : vs 4 = .pointer (some ⟨b, oo + k * 3, none⟩) := hG 4 (by kernel_rfl)
                have s43 := (hρ.at_ 43 4 rfl).trans g43
                exact stepTo_value (w' := W) (by unfold execOp; simp only [s43, hc]; go_simp) ⟨Below.refl _ _, rfl⟩
              · have o5 : ρ (.tmp 5) = .slice (some ⟨gb, 1, none⟩) 31 31 := hρ.out 5 rfl
                exact stepTo_value (w' := W) (by unfold execOp; simp only [o5, hc]; go_simp) ⟨Below.refl _ _, rfl⟩
              · have g45 : vs 6 = .slice (some ⟨gb, 1, none⟩) 31 31 := hG 6 (by kernel_rfl)
                have s45 := (hρ.at_ 45 6 rfl).trans g45
                have hcv := HCV.out W hb
                exact stepTo_value (w' := W) (by unfold execOp; simp only [s45]; go_simp) ⟨Below.refl _ _, rfl⟩
              · have g44 : vs 5 = .int .i64 x1 := hG 5 (by kernel_rfl)
                have s44 := (hρ.at_ 44 5 rfl).trans g44
                have g46 : vs 7 = .string S := hG 7 (by kernel_rfl)
                have s46 := (hρ.at_ 46 7 rfl).trans g46
                exact stepTo_value (w' := W) (by unfold execOp; simp only [s44, s46, hc]; go_simp) ⟨Below.refl _ _, rfl⟩
              · have g47 : vs 8 = .agg #[.int .i64 x1, .string S] := hG 8 (by kernel_rfl)
                have s47 := (hρ.at_ 47 8 rfl).trans g47
                exact stepTo_value (w' := W.alloc (.cells #[.int .i64 x1, .string S] 46)) (v := .slice (some ⟨W.heap.size, 0, none⟩) 1 1) (by unfold execOp; simp only [s47]; go_simp) ⟨(Below.refl _ W).alloc (Nat.le_refl _) _, W.heap.size, rfl, Blk.new _ _ _⟩
            · intro vs W hb hG
              have g0 : vs 0 = .slice A5 k c5 := hG 0 (by decide)
              obtain ⟨g, g9, hbk⟩ := hG 9 (by decide)
              have B2 := Lib.hid (below_step HB2.out hb)
              have HO2 : Hid (W.ownsRow w.heap.size 46 2 (.slice A5 k c5) k (chVals (mdOf (l.take k)))) := by
                have ho := HO1.out
                unfold OChs at ho
                rw [HLN.out] at ho
                exact row_of_block ho (fun j hj => hb.block j (ho.lt j hj).2)
              have HNW := Lib.hid (news_blk hbk)
              simp only [putList, putSel, if_true]
              rw [g0, g9]
              generalize vs 1 = y1
              generalize vs 2 = y2
              generalize vs 3 = y3
              generalize vs 4 = y4
              generalize vs 5 = y5
              generalize vs 6 = y6
              generalize vs 7 = y7
              generalize vs 8 = y8
              clear hG g0 g9 hbk
              simp only [Act.put, List.setIfInBounds_toArray, List.set_cons_succ, List.set_cons_zero]
              refine wpAny_one (i := 10) (by kernel_rfl) rfl rfl ?_
              refine wp_append_own W (.tmp 39) (.tmp 48) 25 rfl w.heap.size 46 i0 (.agg #[.int .i64 0, .string ByteArray.empty]) 2 24 Tryd.underlying25 hi hz0 hz1 hz2 rfl (by decide) _ k _ rfl HO2.out ⟨g, 0, none⟩ 1 1 [.int .i64 x1, .string S] rfl rfl HNW.out (one2 _ _) (by unfold maxLen; omega) (by omega) B2.out.size ?_
              intro v' w1 hown hgrow _
              have HB3 := Lib.hid (B2.out.grown hgrow B2.out.size (fun j hj => (HO2.out.lt j hj).1))
              have HOS : Hid (OChs w1 w.heap.size v' (mdOf (l.take (k + 1)))) := by
                unfold Hid
                rw [HSN.out]
                refine ochs_snoc ?_
                rw [HLN.out, ← HS.out, HX1.out]
                exact hown
              clear hown hgrow hb
              go_simp
              refine wpAny_one (i := 11) (by kernel_rfl) rfl rfl ?_
              go_simp
              refine ⟨by kernel_rfl, ?_⟩
              go_wp2_with fail
              go_roundw
              case rel => exact ⟨k + 1, by omega, by omega, by go_num, HOS.out, HB3.out⟩
              case measure => simp [intOf]; omega
          | false =>
            have HCV0 : Hid (∀ W, Below wr.heap.size wr W → (convert 60 9 (.slice (some ⟨gb, 0, none⟩) 32 32)).run Tryd.prog W = .ok (.string (str (rep c 32))) W) := fun W hb => conv_block (rep c 32) gb 32 _ W (rep_length _ _) (HP.out.below hb)
            obtain ⟨S, hS⟩ : ∃ z, str (rep c 32) = z := ⟨_, rfl⟩
            rw [hS] at HCV0
            have HS : Hid (S = str (mdOne ⟨x1, c, false⟩).2) := hS.symm
            have HCV := HCV0
            clear HCV0 hS
            go_upto_region 12 with fail
            refine wp_region_slots_f (by kernel_rfl) 10 [39, 40, 41, 42, 43, 44, 45, 46, 47, 48] (by kernel_rfl) (MdG A5 k c5 b oo n cp x1 gb 0 32 S) (MdG_mono _ _ _ _ _ _ _ _ _ _ _ _ ) ?_ ?_
            · intro i o vs ρ W hi ho hρ hfn hb hG
              have hc := hρ.const
              have e0 : W.cell? ⟨b, oo + k * 3, none⟩ = some (.int .i64 x1) := by rw [hb.cell (p := ⟨b, oo + k * 3, none⟩) lb2]; exact E0.out
              rcases i with _ | _ | _ | _ | _ | _ | _ | _ | _ | _ | i
              all_goals (first | omega | skip)
              all_goals simp only [List.getElem?_toArray, List.getElem?_cons_zero, List.getElem?_cons_succ, Option.some.injEq] at ho
              all_goals subst ho
              · have o3 : ρ (.tmp 3) = .slice A5 k c5 := hρ.out 3 rfl
                exact stepTo_value (w' := W) (by unfold execOp; simp only [o3, hc]; go_simp) ⟨Below.refl _ _, rfl⟩
              · have o0 : ρ (.tmp 0) = .slice (some ⟨b, oo, none⟩) n cp := hρ.out 0 rfl
                exact stepTo_value (w' := W) (by unfold execOp; simp only [o0, hc]; go_simp) ⟨Below.refl _ _, rfl⟩
              · have o4 : ρ (.tmp 4) = .int .i64 (k : Int) := hρ.out 4 rfl
                exact stepTo_value (w' := W) (by unfold execOp; simp only [o4, hc]; go_simp) ⟨Below.refl _ _, rfl⟩
              · have g40 : vs 1 = .slice (some ⟨b, oo, none⟩) n cp := hG 1 (by kernel_rfl)
                have s40 := (hρ.at_ 40 1 rfl).trans g40
                have g41 : vs 2 = .int .i64 (k : Int) := hG 2 (by kernel_rfl)
                have s41 := (hρ.at_ 41 2 rfl).trans g41
                exact stepTo_value (w' := W) (by unfold execOp; simp only [s40, s41, hc]; go_simp) ⟨Below.refl _ _, rfl⟩
              · have g42 : vs 3 = .pointer (some ⟨b, oo + k * 3, none⟩) := hG 3 (by kernel_rfl)
                have s42 := (hρ.at_ 42 3 rfl).trans g42
                exact stepTo_value (w' := W) (by unfold execOp; simp only [s42, hc]; go_simp) ⟨Below.refl _ _, rfl⟩
              · have g43 : vs 4 = .pointer (some ⟨b, oo + k * 3, none⟩) := hG 4 (by kernel_rfl)
                have s43 := (hρ.at_ 43 4 rfl).trans g43
                exact stepTo_value (w' := W) (by unfold execOp; simp only [s43, hc]; go_simp) ⟨Below.refl _ _, rfl⟩
              · have o5 : ρ (.tmp 5) = .slice (some ⟨gb, 0, none⟩) 32 32 := hρ.out 5 rfl
                exact stepTo_value (w' := W) (by unfold execOp; simp only [o5, hc]; go_simp) ⟨Below.refl _ _, rfl⟩
              · have g45 : vs 6 = .slice (some ⟨gb, 0, none⟩) 32 32 := hG 6 (by kernel_rfl)
                have s45 := (hρ.at_ 45 6 rfl).trans g45
                have hcv := HCV.out W hb
                exact stepTo_value (w' := W) (by unfold execOp; simp only [s45]; go_simp) ⟨Below.refl _ _, rfl⟩
              · have g44 : vs 5 = .int .i64 x1 := hG 5 (by kernel_rfl)
                have s44 := (hρ.at_ 44 5 rfl).trans g44
                have g46 : vs 7 = .string S := hG 7 (by kernel_rfl)
                have s46 := (hρ.at_ 46 7 rfl).trans g46
                exact stepTo_value (w' := W) (by unfold execOp; simp only [s44, s46, hc]; go_simp) ⟨Below.refl _ _, rfl⟩
              · have g47 : vs 8 = .agg #[.int .i64 x1, .string S] := hG 8 (by kernel_rfl)
                have s47 := (hρ.at_ 47 8 rfl).trans g47
                exact stepTo_value (w' := W.alloc (.cells #[.int .i64 x1, .string S] 46)) (v := .slice (some ⟨W.heap.size, 0, none⟩) 1 1) (by unfold execOp; simp only [s47]; go_simp) ⟨(Below.refl _ W).alloc (Nat.le_refl _) _, W.heap.size, rfl, Blk.new _ _ _⟩
            · intro vs W hb hG
              have g0 : vs 0 = .slice A5 k c5 := hG 0 (by decide)
              obtain ⟨g, g9, hbk⟩ := hG 9 (by decide)
              have B2 := Lib.hid (below_step HB2.out hb)
              have HO2 : Hid (W.ownsRow w.heap.size 46 2 (.slice A5 k c5) k (chVals (mdOf (l.take k)))) := by
                have ho := HO1.out
                unfold OChs at ho
                rw [HLN.out] at ho
                exact row_of_block ho (fun j hj => hb.block j (ho.lt j hj).2)
              have HNW := Lib.hid (news_blk hbk)
              simp only [putList, putSel, if_true]
              rw [g0, g9]
              generalize vs 1 = y1
              generalize vs 2 = y2
              generalize vs 3 = y3
              generalize vs 4 = y4
              generalize vs 5 = y5
              generalize vs 6 = y6
              generalize vs 7 = y7
              generalize vs 8 = y8
              clear hG g0 g9 hbk
              simp only [Act.put, List.setIfInBounds_toArray, List.set_cons_succ, List.set_cons_zero]
              refine wpAny_one (i := 10) (by kernel_rfl) rfl rfl ?_
              refine wp_append_own W (.tmp 39) (.tmp 48) 25 rfl w.heap.size 46 i0 (.agg #[.int .i64 0, .string ByteArray.empty]) 2 24 Tryd.underlying25 hi hz0 hz1 hz2 rfl (by decide) _ k _ rfl HO2.out ⟨g, 0, none⟩ 1 1 [.int .i64 x1, .string S] rfl rfl HNW.out (one2 _ _) (by unfold maxLen; omega) (by omega) B2.out.size ?_
              intro v' w1 hown hgrow _
              have HB3 := Lib.hid (B2.out.grown hgrow B2.out.size (fun j hj => (HO2.out.lt j hj).1))
              have HOS : Hid (OChs w1 w.heap.size v' (mdOf (l.take (k + 1)))) := by
                unfold Hid
                rw [HSN.out]
                refine ochs_snoc ?_
                rw [HLN.out, ← HS.out, HX1.out]
                exact hown
              clear hown hgrow hb
              go_simp
              refine wpAny_one (i := 11) (by kernel_rfl) rfl rfl ?_
              go_simp
              refine ⟨by kernel_rfl, ?_⟩
              go_wp2_with fail
              go_roundw
              case rel => exact ⟨k + 1, by omega, by omega, by go_num, HOS.out, HB3.out⟩
              case measure => simp [intOf]; omega
    · have HE2 := Lib.hid (HE.out hgo)
      by_cases hkl : (k : Int) < (n : Int)
      · have hk1 : ¬ ((k : Int) < 30) := by omega
        go_wp2_with fail
        go_ret
        exact ⟨_, rfl, by rw [← HE2.out]; exact HO.out, HB.out⟩
      · go_wp2_with fail
        go_ret
        exact ⟨_, rfl, by rw [← HE2.out]; exact HO.out, HB.out⟩
end Go.Proofs.YtdpbdkacngaemaaDoor.st

/- What the program reads of any bytes, as plain data; it reads a table just where the document does. -/
namespace Go.Proofs.YtdpbdkacngaemaaDoor.mt.pg
open Go Go.RowKit Go.Proofs.YtdpbdkacngaemaaDoor.im Go.Proofs.YtdpbdkacngaemaaDoor.wi Go.Proofs.YtdpbdkacngaemaaDoor.mt
set_option maxRecDepth 100000

def upS (k : Nat) (s : St) : Nat × St := (min (numS s).1 (k + 1), (numS s).2)
def plS : Nat → St → List Int × St
  | 0, s => ([], s)
  | n + 1, s => (((upS 1024 s).1 : Int) :: (plS n (upS 1024 s).2).1, (plS n (upS 1024 s).2).2)
def snS (b : Nat) (s : St) : Sp × St := (⟨(gdS s).1, (plS b (numS (gdS s).2).2).1, decide ((numS (gdS s).2).1 = 1)⟩, (plS b (numS (gdS s).2).2).2)
def snsS (b : Nat) : Nat → St → List Sp × St
  | 0, s => ([], s)
  | n + 1, s => ((snS b s).1 :: (snsS b n (snS b s).2).1, (snsS b n (snS b s).2).2)
def toS (b : Nat) (s : St) : Tk × St :=
  (⟨(gdS s).1, (gdS (gdS s).2).1, (upS 8 (gdS (gdS s).2).2).1, (upS 8 (upS 8 (gdS (gdS s).2).2).2).1, (plS b (upS 8 (upS 8 (gdS (gdS s).2).2).2).2).1⟩, (plS b (upS 8 (upS 8 (gdS (gdS s).2).2).2).2).2)
def liveS (s : St) : List Int × St := plS (upS 8 s).1 (upS 8 s).2
def allS (s : St) : List Sp × St := snsS (upS 8 s).1 (upS 20 (liveS s).2).1 (upS 20 (liveS s).2).2
def mP (s : St) : Mt := ⟨(liveS s).1, (allS s).1, if (numS (allS s).2).1 = 1 then (toS (upS 8 s).1 (numS (allS s).2).2).1 else tk0⟩

theorem upS_le (k : Nat) (s : St) : (upS k s).1 ≤ k + 1 := by unfold upS; dsimp only; omega
theorem plS_len : ∀ (n : Nat) (s : St), (plS n s).1.length = n
  | 0, _ => rfl
  | n + 1, s => by simp [plS, plS_len n]
theorem plS_ok : ∀ (n : Nat) (s : St), okInts (plS n s).1
  | 0, _ => fun z hz => absurd hz (by simp [plS])
  | n + 1, s => fun z hz => by
    have h := upS_le 1024 s
    simp only [plS, List.mem_cons] at hz
    rcases hz with rfl | hz
    · omega
    · exact plS_ok n _ z hz
theorem plS_snoc : ∀ (n : Nat) (s : St), plS (n + 1) s = ((plS n s).1 ++ [((upS 1024 (plS n s).2).1 : Int)], (upS 1024 (plS n s).2).2)
  | 0, s => rfl
  | n + 1, s => by
    have ih := plS_snoc n (upS 1024 s).2
    show ((((upS 1024 s).1 : Int) :: (plS (n + 1) (upS 1024 s).2).1, (plS (n + 1) (upS 1024 s).2).2) : List Int × St) = _
    rw [ih]
    rfl
theorem snsS_len (b : Nat) : ∀ (n : Nat) (s : St), (snsS b n s).1.length = n
  | 0, _ => rfl
  | n + 1, s => by simp [snsS, snsS_len b n]
theorem snsS_snoc (b : Nat) : ∀ (n : Nat) (s : St), snsS b (n + 1) s = ((snsS b n s).1 ++ [(snS b (snsS b n s).2).1], (snS b (snsS b n s).2).2)
  | 0, s => rfl
  | n + 1, s => by
    have ih := snsS_snoc b n (snS b s).2
    show (((snS b s).1 :: (snsS b (n + 1) (snS b s).2).1, (snsS b (n + 1) (snS b s).2).2) : List Sp × St) = _
    rw [ih]
    rfl
theorem snS_ok (b : Nat) (s : St) : okInts (snS b s).1.img ∧ (snS b s).1.img.length = b ∧ gdB (snS b s).1.g := ⟨plS_ok _ _, plS_len _ _, gdS_B _⟩
theorem snsS_ok (b : Nat) : ∀ (n : Nat) (s : St), ∀ x ∈ (snsS b n s).1, okInts x.img ∧ x.img.length = b ∧ gdB x.g
  | 0, _, x, hx => absurd hx (by simp [snsS])
  | n + 1, s, x, hx => by
    unfold snsS at hx
    simp only [List.mem_cons] at hx
    rcases hx with rfl | hx
    · exact snS_ok b s
    · exact snsS_ok b n _ x hx

/-! ### What is put is read -/
theorem upS_put (k n : Nat) (h : n ≤ k) (hk : k ≤ 2000) (r : List UInt8) : upS k (some (numB n ++ r)) = (n, some r) := by
  unfold upS
  rw [numS_put n (by omega)]
  simp only [Nat.min_eq_left (show n ≤ k + 1 by omega)]
def tight (l : List Int) : Prop := ∀ z ∈ l, 0 ≤ z ∧ z ≤ 1024
theorem plS_put : ∀ (l : List Int) (_ : tight l) (r : List UInt8), plS l.length (some (intsB l ++ r)) = (l, some r)
  | [], _, r => rfl
  | z :: l, h, r => by
    have hz := h z (by simp)
    have e : intsB (z :: l) ++ r = numB z.toNat ++ (intsB l ++ r) := by simp [intsB, intB]
    show plS (l.length + 1) (some (intsB (z :: l) ++ r)) = _
    rw [e]
    unfold plS
    rw [upS_put 1024 _ (by omega) (by omega)]
    simp only
    rw [plS_put l (fun x hx => h x (by simp [hx])) r]
    simp only [Int.toNat_of_nonneg hz.1]
theorem snS_put (b : Nat) (s : Sp) (h1 : gdB s.g) (h2 : s.img.length = b) (h3 : tight s.img) (r : List UInt8) : snS b (some (spB s ++ r)) = (s, some r) := by
  unfold snS spB
  rw [List.append_assoc, gdS_put _ h1]
  simp only
  rw [List.append_assoc, numS_put _ (by split <;> omega)]
  simp only
  rw [← h2, plS_put _ h3]
  cases s with | mk g img hid => cases hid <;> rfl
theorem snsS_put (b : Nat) : ∀ (l : List Sp) (_ : ∀ s ∈ l, gdB s.g ∧ s.img.length = b ∧ tight s.img) (r : List UInt8), snsS b l.length (some (spsB l ++ r)) = (l, some r)
  | [], _, r => rfl
  | s :: l, h, r => by
    have e : spsB (s :: l) ++ r = spB s ++ (spsB l ++ r) := by simp [spsB]
    have hs := h s (by simp)
    show snsS b (l.length + 1) (some (spsB (s :: l) ++ r)) = _
    rw [e]
    unfold snsS
    rw [snS_put b s hs.1 hs.2.1 hs.2.2]
    simp only
    rw [snsS_put b l (fun x hx => h x (by simp [hx])) r]
structure Tight (m : Mt) : Prop where
  b : m.live.length ≤ 8
  live : tight m.live
  few : m.snaps.length ≤ 20
  snaps : ∀ s ∈ m.snaps, gdB s.g ∧ s.img.length = m.live.length ∧ tight s.img
  tok : if m.tok.target = (0, 0) then m.tok = tk0 else gdB m.tok.base ∧ gdB m.tok.target ∧ (0 ≤ m.tok.next ∧ m.tok.next ≤ 8) ∧ (0 ≤ m.tok.all ∧ m.tok.all ≤ 8) ∧ m.tok.img.length = m.live.length ∧ tight m.tok.img
theorem toS_put (b : Nat) (t : Tk) (h : gdB t.base ∧ gdB t.target ∧ (0 ≤ t.next ∧ t.next ≤ 8) ∧ (0 ≤ t.all ∧ t.all ≤ 8) ∧ t.img.length = b ∧ tight t.img) (r : List UInt8) :
    toS b (some ((gdBs t.base ++ (gdBs t.target ++ (intB t.next ++ (intB t.all ++ intsB t.img)))) ++ r)) = (t, some r) := by
  obtain ⟨h1, h2, h3, h4, h5, h6⟩ := h
  unfold toS
  simp only [List.append_assoc]
  rw [gdS_put _ h1]
  simp only
  rw [gdS_put _ h2]
  simp only
  unfold intB
  rw [upS_put 8 _ (by omega) (by omega)]
  simp only
  rw [upS_put 8 _ (by omega) (by omega)]
  simp only
  rw [← h5, plS_put _ h6]
  simp only [Int.toNat_of_nonneg h3.1, Int.toNat_of_nonneg h4.1]
theorem mP_put (m : Mt) (h : Tight m) : mP (some (mBytes m)) = m := by
  have h1 : upS 8 (some (mBytes m)) = (m.live.length, some (intsB m.live ++ (numB m.snaps.length ++ (spsB m.snaps ++ tkB m.tok)))) := by
    unfold mBytes
    exact upS_put 8 _ h.b (by omega) _
  have h2 : liveS (some (mBytes m)) = (m.live, some (numB m.snaps.length ++ (spsB m.snaps ++ tkB m.tok))) := by
    unfold liveS
    rw [h1]
    exact plS_put _ h.live _
  have h3 : allS (some (mBytes m)) = (m.snaps, some (tkB m.tok)) := by
    unfold allS
    rw [h2, h1, upS_put 20 _ h.few (by omega)]
    exact snsS_put _ _ h.snaps _
  unfold mP
  rw [h3, h2, h1]
  dsimp only
  have ht := h.tok
  unfold tkB
  by_cases h0 : m.tok.target = (0, 0)
  · rw [if_pos h0] at ht
    rw [if_pos h0]
    have := numS_put 0 (by omega) []
    rw [List.append_nil] at this
    rw [this, if_neg (by decide), ← ht]
  · rw [if_neg h0] at ht
    rw [if_neg h0, numS_put 1 (by omega)]
    simp only [if_true]
    have := toS_put m.live.length m.tok ht []
    rw [List.append_nil] at this
    rw [this]
theorem tight_of {m : Mt} (hB : mB m) (h : mCheck m m.live.length 1024 = 0) : Tight m := by
  obtain ⟨hok, hl1, hl8, hs20⟩ := check_ok hB h
  unfold mCheck at h
  split at h
  · rename_i h1
    exact absurd h h1
  rename_i h1
  have h1' : iCheck m.live m.live.length 1024 = 0 := Classical.byContradiction h1
  split at h
  · cases h
  split at h
  · rename_i h3
    exact absurd h h3
  rename_i h3
  have h3' := Classical.byContradiction h3
  have tg : ∀ {l : List Int} {b : Int}, iCheck l b 1024 = 0 → tight l := fun h z hz => by
    rcases (iCheck_ok h).2.2.2 z hz with h | h <;> omega
  refine ⟨hl8, tg h1', hs20, fun s hs => ?_, ?_⟩
  · have := snChk_ok h3' s hs
    have hi := iCheck_ok this
    exact ⟨hB.snaps s hs, by omega, tg this⟩
  · have ht := hok.tok
    unfold okTk at ht
    unfold tkChk at h
    by_cases h4 : m.tok.target = (0, 0)
    · rw [if_pos h4] at ht ⊢
      exact ht
    · rw [if_neg h4] at h ⊢
      split at h
      · cases h
      · rename_i h5
        unfold tkBad at h5
        simp only [Bool.or_eq_true, not_or, Bool.not_eq_true, decide_eq_true_eq] at h5
        obtain ⟨⟨⟨⟨_, _⟩, e3⟩, e4⟩, e5⟩ := h5
        have hi := iCheck_ok h
        exact ⟨hB.base, hB.target, by omega, by omega, by omega, tg h⟩
theorem toS_B (b : Nat) (s : St) : gdB (toS b s).1.base ∧ gdB (toS b s).1.target := ⟨gdS_B _, gdS_B _⟩
theorem mP_B (s : St) : mB (mP s) := by
  refine ⟨fun x hx => (snsS_ok _ _ _ x hx).2.2, ?_, ?_⟩
  · show gdB (if _ then _ else tk0 : Tk).base
    split
    · exact (toS_B _ _).1
    · exact gdB0
  · show gdB (if _ then _ else tk0 : Tk).target
    split
    · exact (toS_B _ _).2
    · exact gdB0
/-- What is answered. -/
theorem dec_is (s : List UInt8) : mDec s = if mEnc (mP (some s)) = (s, 0) then (mP (some s), 0) else (mt0, 4) := by
  by_cases h : mEnc (mP (some s)) = (s, 0)
  · rw [if_pos h]
    exact enc_back (mP_B _) h
  · rw [if_neg h]
    rcases dec_two s with ⟨m, h1⟩ | h1
    · exfalso
      have h2 := (dec_enc h1).1
      have h3 := enc_ok h2
      apply h
      rw [h3.2.1, mP_put m (tight_of (dec_B h1) h3.1), ← h3.2.1]
      exact h2
    · exact h1
end Go.Proofs.YtdpbdkacngaemaaDoor.mt.pg

/- What one block alone is turned. -/
namespace Go.Proofs.YtdpbdkacngaemaaDoor.wi
open Go.RowKit
set_option maxRecDepth 100000

theorem grown_trans {w w1 w2 : World} {r : Option Nat} (h : w.grownBy w1 r) (k : w1.grownBy w2 r) : w.grownBy w2 r :=
  ⟨k.os.trans h.os, k.tape.trans h.tape, k.output.trans h.output, Nat.le_trans h.size k.size,
    fun i hi hr => (k.block i (Nat.lt_of_lt_of_le hi h.size) hr).trans (h.block i hi hr)⟩

theorem grown_refl (w : World) (r : Option Nat) : w.grownBy w r := ⟨rfl, rfl, rfl, Nat.le_refl _, fun _ _ _ => rfl⟩


theorem val_step (l : List UInt8) (k : Nat) (h : k < l.length) : val (l.take (k + 1)) = val (l.take k) * 256 + l[k].toNat := by
  rw [List.take_succ_eq_append_getElem h, val_snoc]

end Go.Proofs.YtdpbdkacngaemaaDoor.wi

/- What a reader of package wire is in memory, and what making one, asking it and cutting bytes off it does. -/
namespace Go.Proofs.YtdpbdkacngaemaaDoor.wi
open Go.RowKit
set_option maxRecDepth 100000

/-- Cells o, o + 1 .. of block g hold the bytes l. -/
def Row (w : World) (g o : Nat) (l : List UInt8) : Prop :=
  ∃ cs fr, w.heap[g]? = some (.cells cs 5 fr) ∧ ∀ i (h : i < l.length), cs[o + i]? = some (.int .u8 (l[i].toNat : Int))

/-- Block b is a reader that has l left, in block g from o on. -/
def RdOf (b g o cap : Nat) (l : List UInt8) (bad : Bool) (w : World) : Prop :=
  w.heap[b]? = some (.cells #[.slice (some ⟨g, o, none⟩) l.length cap, .bool bad] 91 (0, 0)) ∧ Row w g o l ∧ l.length ≤ cap ∧ l.length ≤ 140737488355328

/-- Block b is a reader that has l left. -/
def RdAt (b : Nat) (l : List UInt8) (bad : Bool) (w : World) : Prop := ∃ g o cap, RdOf b g o cap l bad w

theorem lt_of_some {w : World} {b : Nat} {o : Obj} (h : w.heap[b]? = some o) : b < w.heap.size := by
  rcases Nat.lt_or_ge b w.heap.size with h' | h'
  · exact h'
  · simp [Array.getElem?_eq_none h'] at h

theorem Row.cell {w : World} {g o : Nat} {l : List UInt8} (h : Row w g o l) (i : Nat) (hi : i < l.length) : w.cell? ⟨g, o + i, none⟩ = some (.int .u8 (l[i].toNat : Int)) := by
  obtain ⟨cs, fr, hg, hc⟩ := h
  simp [World.cell?, hg, hc i hi]

theorem Row.keep {w w' : World} {g o : Nat} {l : List UInt8} (h : Row w g o l) (hk : w'.heap[g]? = w.heap[g]?) : Row w' g o l := by
  obtain ⟨cs, fr, hg, hc⟩ := h
  exact ⟨cs, fr, hk.trans hg, hc⟩

theorem Row.drop {w : World} {g o : Nat} {l : List UInt8} (h : Row w g o l) (n : Nat) : Row w g (o + n) (l.drop n) := by
  obtain ⟨cs, fr, hg, hc⟩ := h
  refine ⟨cs, fr, hg, fun i hi => ?_⟩
  have := hc (n + i) (by simp at hi; omega)
  rw [Nat.add_assoc, this]
  simp

theorem Row.take {w : World} {g o : Nat} {l : List UInt8} (h : Row w g o l) (n : Nat) : Row w g o (l.take n) := by
  obtain ⟨cs, fr, hg, hc⟩ := h
  refine ⟨cs, fr, hg, fun i hi => ?_⟩
  have := hc i (by simp at hi; omega)
  rw [this]
  simp

theorem Row.nil0 {w : World} {g o : Nat} {l : List UInt8} (h : Row w g o l) (o' : Nat) : Row w g o' [] := by
  obtain ⟨cs, fr, hg, _⟩ := h
  exact ⟨cs, fr, hg, fun i hi => by simp at hi⟩

/-- A reader stays as it is where no block that was there has turned but one of another reader. -/
theorem RdAt.keep {b c : Nat} {l m : List UInt8} {x y : Bool} {w w' : World} (h : RdAt b l x w) (k : RdAt c m y w) (hne : b ≠ c) (hg : w.grownBy w' (some c)) : RdAt b l x w' := by
  obtain ⟨g, o, cap, hb, hr, h1, h2⟩ := h
  obtain ⟨_, _, _, hc, _⟩ := k
  have hgc : g ≠ c := by
    intro e
    subst e
    obtain ⟨cs, fr, hg', _⟩ := hr
    rw [hc] at hg'
    simp at hg'
  have hgl : g < w.heap.size := by obtain ⟨cs, fr, hg', _⟩ := hr; exact lt_of_some hg'
  exact ⟨g, o, cap, (hg.block b (lt_of_some hb) (by simpa using hne)).trans hb, hr.keep (hg.block g hgl (by simpa using hgc)), h1, h2⟩

theorem RdAt.below {b : Nat} {l : List UInt8} {x : Bool} {w w' : World} (h : RdAt b l x w) (hg : Below w.heap.size w w') : RdAt b l x w' := by
  obtain ⟨g, o, cap, hb, hr, h1, h2⟩ := h
  have hgl : g < w.heap.size := by obtain ⟨cs, fr, hg', _⟩ := hr; exact lt_of_some hg'
  exact ⟨g, o, cap, (hg.block b (lt_of_some hb)).trans hb, hr.keep (hg.block g hgl), h1, h2⟩

theorem RdAt.lt {b : Nat} {l : List UInt8} {x : Bool} {w : World} (h : RdAt b l x w) : b < w.heap.size := by
  obtain ⟨_, _, _, hb, _⟩ := h
  exact lt_of_some hb

def okNew (s : ByteArray) (w : World) (e : Ending) (w' : World) : Prop :=
  ∃ b, e = .returned (.pointer (some ⟨b, 0, none⟩)) ∧ w.heap.size ≤ b ∧ RdAt b (bl s) false w' ∧ Below w.heap.size w w'

set_option maxHeartbeats 400000 in
theorem new_any (s : ByteArray) (w : World) (hs : s.size ≤ 140737488355328) :
    Calls Tryd.prog 39 #[.string s] w (okNew s w) := by
  have hcv := Lib.run_convert_string_bytes (P := Tryd.prog) w 9 60 5 s Tryd.underlying9 Tryd.underlying60 Tryd.underlying5
  have hsz := Lib.bytesWorld_size w 5 s
  have hnew := Lib.bytesWorld_at_new w 5 s
  have hold := Lib.bytesWorld_at_old w 5 s
  have hcap := grownCap_ge w s.size 0 5
  have hcell : ∀ i (h : i < (bl s).length), (Lib.bytesCells w 5 s)[0 + i]? = some (.int .u8 ((bl s)[i].toNat : Int)) := by
    intro i hi
    have hi' : i < s.size := by rw [← bl_len]; exact hi
    have := Lib.bytesWorld_cell w 5 s i hi'
    simp [World.cell?, hnew] at this
    rw [Nat.zero_add, this]
    simp [bl, hi']
  have hos : (Lib.bytesWorld w 5 s).os = w.os ∧ (Lib.bytesWorld w 5 s).tape = w.tape ∧ (Lib.bytesWorld w 5 s).output = w.output := ⟨rfl, rfl, rfl⟩
  have hbel : Below w.heap.size w (Lib.bytesWorld w 5 s) := ⟨hos.1, hos.2.1, hos.2.2, by omega, fun k hk => hold k hk⟩
  have hlen := bl_len s
  generalize Lib.bytesWorld w 5 s = W1 at *
  generalize grownCap w s.size 0 5 = cap at *
  have Hsz := Lib.hid hsz
  have Hnew := Lib.hid hnew
  have Hcell := Lib.hid hcell
  have Hlen := Lib.hid hlen
  clear hsz hnew hcell hold hos hlen
  go_enter Tryd.func39, Tryd.ntmps39
  go_wp2
  go_ret
  have Hl := Hlen.out
  have hW : (W1.alloc (.cells #[.slice (some ⟨w.heap.size, 0, none⟩) s.size cap, .bool false] 91)).heap[W1.heap.size]? = some (.cells #[.slice (some ⟨w.heap.size, 0, none⟩) s.size cap, .bool false] 91 (0, 0)) := by
    show (W1.heap.push _)[W1.heap.size]? = _
    simp
  have hO := Below.heap_alloc W1 (.cells #[.slice (some ⟨w.heap.size, 0, none⟩) s.size cap, .bool false] 91) w.heap.size (by have := Hsz.out; omega)
  refine ⟨W1.heap.size, rfl, by have := Hsz.out; omega, ⟨w.heap.size, 0, cap, by rw [Hl]; exact hW, ⟨_, _, hO.trans Hnew.out, Hcell.out⟩, by omega, by omega⟩, below_new hbel _⟩

/-! ### Asking -/

theorem ok_yes (b : Nat) (l : List UInt8) (w : World) (h : RdAt b l false w) :
    Calls Tryd.prog 54 #[.pointer (some ⟨b, 0, none⟩)] w fun e w' => e = .returned (.bool true) ∧ w = w' := by
  obtain ⟨g, o, cap, hb, _⟩ := h
  have h1 : w.cell? ⟨b, 1, none⟩ = some (.bool false) := by simp [World.cell?, hb]
  clear hb
  go_enter Tryd.func54, Tryd.ntmps54
  go_wp2
  go_ret
  exact ⟨rfl, rfl⟩

theorem ok_no (b : Nat) (l : List UInt8) (w : World) (h : RdAt b l true w) :
    Calls Tryd.prog 54 #[.pointer (some ⟨b, 0, none⟩)] w fun e w' => e = .returned (.bool false) ∧ w = w' := by
  obtain ⟨g, o, cap, hb, _⟩ := h
  have h1 : w.cell? ⟨b, 1, none⟩ = some (.bool true) := by simp [World.cell?, hb]
  clear hb
  go_enter Tryd.func54, Tryd.ntmps54
  go_wp2
  go_ret
  exact ⟨rfl, rfl⟩

theorem ok_nil (w : World) :
    Calls Tryd.prog 54 #[.pointer none] w fun e w' => e = .returned (.bool false) ∧ w = w' := by
  go_enter Tryd.func54, Tryd.ntmps54
  go_wp2
  go_ret
  exact ⟨rfl, rfl⟩

/-! ### Cutting -/

def tailOff (o len n : Nat) : Nat := if len = n then o else o + n

def okTake (b g o : Nat) (l : List UInt8) (n : Nat) (x : Bool) (w : World) (e : Ending) (w' : World) : Prop :=
  e = .returned (.tuple #[.slice (some ⟨g, o, none⟩) n n, .bool true]) ∧ RdOf b g (tailOff o l.length n) (l.length - n) (l.drop n) x w' ∧ w.grownBy w' (some b) ∧ Row w' g o (l.take n)

theorem slice_head (g o len cap : Nat) (n : Int) (h0 : 0 ≤ n) (hn : n.toNat ≤ cap) (w : World) :
    (Instr.slice 60 (.slice (some ⟨g, o, none⟩) len cap) none (some (.int .u64 n)) (some (.int .u64 n))).run Tryd.prog w = .ok (.slice (some ⟨g, o, none⟩) n.toNat n.toNat) w := by
  have h1 : n ≤ (cap : Int) := by omega
  rw [run_slice_any (P := Tryd.prog) w 60 (some ⟨g, o, none⟩) len cap Tryd.underlying60]
  simp [Instr.sliceBounds, run_sliceBound, h0, h1, go_sem]
  intro h
  omega


theorem slice_tail (g o len cap : Nat) (n : Int) (h0 : 0 ≤ n) (hn : n.toNat ≤ len) (hc : len ≤ cap) (w : World) :
    (Instr.slice 60 (.slice (some ⟨g, o, none⟩) len cap) (some (.int .u64 n)) (some (.int .i64 (len : Int))) (some (.int .i64 (len : Int)))).run Tryd.prog w = .ok (.slice (some ⟨g, tailOff o len n.toNat, none⟩) (len - n.toNat) (len - n.toNat)) w := by
  have h1 : n ≤ (len : Int) := by omega
  have h2 : (len : Int) ≤ (cap : Int) := by omega
  rw [run_slice_any (P := Tryd.prog) w 60 (some ⟨g, o, none⟩) len cap Tryd.underlying60]
  unfold tailOff
  by_cases hl : len = n.toNat
  · simp [Instr.sliceBounds, run_sliceBound, h0, h1, hc, go_sem]
    rw [if_pos hl, if_pos hl]
  · simp [Instr.sliceBounds, run_sliceBound, h0, h1, hc, hl, go_sem]

theorem row_tail {w : World} {g o : Nat} {l : List UInt8} (h : Row w g o l) (n : Nat) : Row w g (tailOff o l.length n) (l.drop n) := by
  unfold tailOff
  split
  · have e : l.drop n = [] := by simp; omega
    rw [e]
    exact h.nil0 o
  · exact h.drop n

set_option maxHeartbeats 400000 in
theorem take_yes (b g o cap : Nat) (l : List UInt8) (x : Bool) (n : Int) (w : World) (hR : RdOf b g o cap l x w) (h0 : 0 ≤ n) (hn : n.toNat ≤ l.length) :
    Calls Tryd.prog 64 #[.pointer (some ⟨b, 0, none⟩), .int .u64 n] w (okTake b g o l n.toNat x w) := by
  obtain ⟨hb, hr, hc, hl⟩ := hR
  have h1 : w.cell? ⟨b, 0, none⟩ = some (.slice (some ⟨g, o, none⟩) l.length cap) := by simp [World.cell?, hb]
  have h2 : w.frozen? ⟨b, 0, none⟩ = false := by simp [World.frozen?, hb]
  have hs1 := slice_head g o l.length cap n h0 (by omega) w
  have hs2 := slice_tail g o l.length cap n h0 hn hc w
  have ht : ¬ ((l.length : Int) < n) := by omega
  have hw := heap_setCell_same w b 0 _ 91 (.slice (some ⟨g, tailOff o l.length n.toNat, none⟩) (l.length - n.toNat) (l.length - n.toNat)) hb
  have hgr : w.grownBy (w.setCell ⟨b, 0, none⟩ (.slice (some ⟨g, tailOff o l.length n.toNat, none⟩) (l.length - n.toNat) (l.length - n.toNat))) (some b) :=
    ⟨rfl, rfl, rfl, by simp [World.setCell], fun k _ hk => Below.heap_setCell _ _ _ _ (fun e => hk (by simp [e]))⟩
  have hgb : g ≠ b := by
    intro e
    subst e
    obtain ⟨cs, fr, hg', _⟩ := hr
    rw [hb] at hg'
    simp at hg'
  have hgk := Below.heap_setCell w ⟨b, 0, none⟩ (.slice (some ⟨g, tailOff o l.length n.toNat, none⟩) (l.length - n.toNat) (l.length - n.toNat)) g hgb
  have hr1 := (row_tail hr n.toNat).keep hgk
  have hr2 := (hr.take n.toNat).keep hgk
  have hfin : RdOf b g (tailOff o l.length n.toNat) (l.length - n.toNat) (l.drop n.toNat) x (w.setCell ⟨b, 0, none⟩ (.slice (some ⟨g, tailOff o l.length n.toNat, none⟩) (l.length - n.toNat) (l.length - n.toNat))) := by
    refine ⟨?_, hr1, by simp, by simp; omega⟩
    rw [hw]
    simp
  have Hf := Lib.hid hfin
  have Hg := Lib.hid hgr
  have Hr2 := Lib.hid hr2
  clear hfin hgr hr1 hr2 hgk hw hb
  go_enter Tryd.func64, Tryd.ntmps64
  go_wp2
  go_ret2
  exact ⟨rfl, Hf.out, Hg.out, Hr2.out⟩

def okTakeNo (w : World) (e : Ending) (w' : World) : Prop := e = .returned (.tuple #[.slice none 0 0, .bool false]) ∧ w = w'

set_option maxHeartbeats 400000 in
theorem take_no (b g o cap : Nat) (l : List UInt8) (x : Bool) (n : Int) (w : World) (hR : RdOf b g o cap l x w) (hn : (l.length : Int) < n) :
    Calls Tryd.prog 64 #[.pointer (some ⟨b, 0, none⟩), .int .u64 n] w (okTakeNo w) := by
  obtain ⟨hb, _, _, hl⟩ := hR
  have h1 : w.cell? ⟨b, 0, none⟩ = some (.slice (some ⟨g, o, none⟩) l.length cap) := by simp [World.cell?, hb]
  clear hb
  go_enter Tryd.func64, Tryd.ntmps64
  go_wp2
  go_ret2
  exact ⟨rfl, rfl⟩

end Go.Proofs.YtdpbdkacngaemaaDoor.wi

/- What reading a number and a text off a reader does: num, text, read, Num and Text of package wire. -/
namespace Go.Proofs.YtdpbdkacngaemaaDoor.wi
open Go.RowKit
set_option maxRecDepth 100000

def okNum (b : Nat) (l : List UInt8) (x : Bool) (w : World) (e : Ending) (w' : World) : Prop :=
  w.grownBy w' (some b) ∧
    ((∃ n r, rdNum l = some (n, r) ∧ e = .returned (.tuple #[.int .u64 (n : Int), .bool true]) ∧ RdAt b r x w') ∨
     (rdNum l = none ∧ e = .returned (.tuple #[.int .u64 0, .bool false]) ∧ ∃ m, RdAt b m x w'))

set_option maxHeartbeats 400000 in
theorem num_empty (b : Nat) (x : Bool) (w : World) (h : RdAt b [] x w) :
    Calls Tryd.prog 63 #[.func (.func 64) #[.pointer (some ⟨b, 0, none⟩)] #[]] w (okNum b [] x w) := by
  obtain ⟨g, o, cap, hR⟩ := h
  have hR' : RdAt b [] x w := ⟨g, o, cap, hR⟩
  go_enter Tryd.func63, Tryd.ntmps63
  go_wp2_with (go_at_call 64; refine (take_no b g o cap [] x 1 _ hR (by simp)).mono ?_; rintro e w' ⟨rfl, rfl⟩)
  go_ret2
  exact ⟨grown_refl _ _, .inr ⟨rfl, rfl, [], hR'⟩⟩

theorem Row.cell0 {w : World} {g o : Nat} {k : UInt8} {r : List UInt8} (h : Row w g o (k :: r)) : w.cell? ⟨g, o, none⟩ = some (.int .u8 (k.toNat : Int)) := by
  have := h.cell 0 (by simp)
  simpa using this

set_option maxHeartbeats 400000 in
theorem num_big (b : Nat) (k : UInt8) (r : List UInt8) (x : Bool) (w : World) (h : RdAt b (k :: r) x w) (hk : 8 < k.toNat) :
    Calls Tryd.prog 63 #[.func (.func 64) #[.pointer (some ⟨b, 0, none⟩)] #[]] w (okNum b (k :: r) x w) := by
  obtain ⟨g, o, cap, hR⟩ := h
  have hki : (8 : Int) < (k.toNat : Int) := by omega
  have hnone : rdNum (k :: r) = none := by simp [rdNum, hk]
  have Hn := Lib.hid hnone
  clear hnone
  go_enter Tryd.func63, Tryd.ntmps63
  go_wp2_with (go_at_call 64; refine (take_yes b g o cap (k :: r) x 1 _ hR (by decide) (by simp)).mono ?_)
  rintro e w1 ⟨rfl, h1, h2, h3⟩
  have hc : w1.cell? ⟨g, o, none⟩ = some (.int .u8 (k.toNat : Int)) := Row.cell0 (r := []) h3
  have H1 := Lib.hid h1
  have H2 := Lib.hid h2
  clear h1 h2 h3
  go_wp2
  go_ret2
  exact ⟨H2.out, .inr ⟨Hn.out, rfl, r, ⟨_, _, _, H1.out⟩⟩⟩

set_option maxHeartbeats 400000 in
theorem num_short (b : Nat) (k : UInt8) (r : List UInt8) (x : Bool) (w : World) (h : RdAt b (k :: r) x w) (hk : k.toNat ≤ 8) (hr : r.length < k.toNat) :
    Calls Tryd.prog 63 #[.func (.func 64) #[.pointer (some ⟨b, 0, none⟩)] #[]] w (okNum b (k :: r) x w) := by
  obtain ⟨g, o, cap, hR⟩ := h
  have hki : ¬ (8 : Int) < (k.toNat : Int) := by omega
  have hnone : rdNum (k :: r) = none := by simp [rdNum, Nat.not_lt.2 hk, hr]
  have Hn := Lib.hid hnone
  clear hnone
  go_enter Tryd.func63, Tryd.ntmps63
  go_wp2_with (go_at_call 64; refine (take_yes b g o cap (k :: r) x 1 _ hR (by decide) (by simp)).mono ?_)
  rintro e w1 ⟨rfl, h1, h2, h3⟩
  have hc : w1.cell? ⟨g, o, none⟩ = some (.int .u8 (k.toNat : Int)) := Row.cell0 (r := []) h3
  have H1 := Lib.hid h1
  have H2 := Lib.hid h2
  clear h1 h2 h3
  go_wp2_with (go_at_call 64; refine (take_no b g _ _ r x _ _ H1.out (by omega)).mono ?_; rintro e w' ⟨rfl, rfl⟩)
  go_ret2
  exact ⟨H2.out, .inr ⟨Hn.out, rfl, r, ⟨_, _, _, H1.out⟩⟩⟩

set_option maxHeartbeats 400000 in
theorem num_zero (b : Nat) (k : UInt8) (r : List UInt8) (x : Bool) (w : World) (h : RdAt b (k :: r) x w) (hk : k.toNat ≤ 8) (hr : k.toNat ≤ r.length) (h0 : (r.take k.toNat).head? = some 0) :
    Calls Tryd.prog 63 #[.func (.func 64) #[.pointer (some ⟨b, 0, none⟩)] #[]] w (okNum b (k :: r) x w) := by
  obtain ⟨g, o, cap, hR⟩ := h
  have hki : ¬ (8 : Int) < (k.toNat : Int) := by omega
  have hnone : rdNum (k :: r) = none := by simp [rdNum, Nat.not_lt.2 hk, Nat.not_lt.2 hr]; exact h0
  have Hn := Lib.hid hnone
  have hkp : (0 : Int) < (k.toNat : Int) := by
    have : k.toNat ≠ 0 := by
      intro e
      rw [e] at h0
      simp at h0
    omega
  have H0 := Lib.hid h0
  clear hnone h0
  go_enter Tryd.func63, Tryd.ntmps63
  go_wp2_with (go_at_call 64; refine (take_yes b g o cap (k :: r) x 1 _ hR (by decide) (by simp)).mono ?_)
  rintro e w1 ⟨rfl, h1, h2, h3⟩
  have hc : w1.cell? ⟨g, o, none⟩ = some (.int .u8 (k.toNat : Int)) := Row.cell0 (r := []) h3
  obtain ⟨o1, c1, h1⟩ : ∃ o1 c1, RdOf b g o1 c1 r x w1 := ⟨_, _, h1⟩
  have H1 := Lib.hid h1
  have H2 := Lib.hid h2
  clear h1 h2 h3
  go_wp2_with (go_at_call 64; refine (take_yes b g o1 c1 r x (k.toNat : Int) _ H1.out (by omega) (by omega)).mono ?_)
  rintro e w2 ⟨rfl, h1, h2, h3⟩
  rw [Int.toNat_natCast] at h1 h3
  have hc0 : w2.cell? ⟨g, o1, none⟩ = some (.int .u8 0) := by
    have e0 := H0.out
    cases hd : r.take k.toNat with
    | nil => rw [hd] at e0; simp at e0
    | cons y q =>
      rw [hd] at e0 h3
      simp at e0
      subst e0
      exact Row.cell0 h3
  have H3 := Lib.hid h1
  have H4 := Lib.hid h2
  clear h1 h2 h3 hc
  go_wp2
  go_ret2
  exact ⟨grown_trans H2.out H4.out, .inr ⟨Hn.out, rfl, _, ⟨_, _, _, H3.out⟩⟩⟩

end Go.Proofs.YtdpbdkacngaemaaDoor.wi

/- Reading a number's bytes that are good ones. -/
namespace Go.Proofs.YtdpbdkacngaemaaDoor.wi
open Go.RowKit
set_option maxRecDepth 100000


theorem or_byte (v z : Nat) (hv : v < 72057594037927936) (hz : z < 256) : bits BinOp.or IntKind.u64 ((v : Int) * 256) (z : Int) = ((v * 256 + z : Nat) : Int) := by
  have e : (v : Int) * 256 = ((v * 256 : Nat) : Int) := by omega
  rw [e, u64_or_nat _ _ (by omega) (by omega)]
  have := Nat.shiftLeft_add_eq_or_of_lt (i := 8) (b := z) (by omega) v
  rw [Nat.shiftLeft_eq, show (2 : Nat) ^ 8 = 256 from rfl] at this
  rw [← this]

def NumRel (d : List UInt8) (n i : Value) : Prop := ∃ j : Nat, j ≤ d.length ∧ i = .int .i64 (j : Int) ∧ n = .int .u64 (val (d.take j) : Int)

set_option maxHeartbeats 800000 in
theorem num_good (b : Nat) (k : UInt8) (r : List UInt8) (x : Bool) (w : World) (h : RdAt b (k :: r) x w) (hk : k.toNat ≤ 8) (hr : k.toNat ≤ r.length) (h0 : ¬ (r.take k.toNat).head? = some 0) :
    Calls Tryd.prog 63 #[.func (.func 64) #[.pointer (some ⟨b, 0, none⟩)] #[]] w (okNum b (k :: r) x w) := by
  obtain ⟨g, o, cap, hR⟩ := h
  have hki : ¬ (8 : Int) < (k.toNat : Int) := by omega
  have hsome : rdNum (k :: r) = some (val (r.take k.toNat), r.drop k.toNat) := by simp [rdNum, Nat.not_lt.2 hk, Nat.not_lt.2 hr, h0]
  have Hn := Lib.hid hsome
  have H0 := Lib.hid h0
  clear hsome h0
  go_enter Tryd.func63, Tryd.ntmps63
  go_wp2_with (go_at_call 64; refine (take_yes b g o cap (k :: r) x 1 _ hR (by decide) (by simp)).mono ?_)
  rintro e w1 ⟨rfl, h1, h2, h3⟩
  have hc : w1.cell? ⟨g, o, none⟩ = some (.int .u8 (k.toNat : Int)) := Row.cell0 (r := []) h3
  obtain ⟨o1, c1, h1⟩ : ∃ o1 c1, RdOf b g o1 c1 r x w1 := ⟨_, _, h1⟩
  have H1 := Lib.hid h1
  have H2 := Lib.hid h2
  clear h1 h2 h3
  go_wp2_with (go_at_call 64; refine (take_yes b g o1 c1 r x (k.toNat : Int) _ H1.out (by omega) (by omega)).mono ?_)
  rintro e w2 ⟨rfl, h1, h2, h3⟩
  rw [Int.toNat_natCast] at h1 h3
  have H3 := Lib.hid h1
  have H4 := Lib.hid h2
  have hlen : (r.take k.toNat).length = k.toNat := by simp; omega
  obtain ⟨d, hd⟩ : ∃ d, d = r.take k.toNat := ⟨_, rfl⟩
  have hE : Hid (rdNum (k :: r) = some (val d, r.drop k.toNat)) := by rw [hd]; exact Hn
  have hZ : Hid (¬ d.head? = some 0) := by rw [hd]; exact H0
  rw [← hd] at hlen h3
  clear hd Hn H0 h1 h2 hc hR
  have hkb : k.toNat ≤ 8 := hk
  cases d with
  | nil =>
    have hk0 : ¬ (0 : Int) < (k.toNat : Int) := by simp at hlen; omega
    have Hl := Lib.hid hlen
    have H5 := Lib.hid h3
    clear hlen h3 hZ
    go_wp2
    go_loop [7, 47] (fun n i => NumRel [] n i) (fun _ i => k.toNat - (intOf i).toNat)
    case atStart => exact ⟨0, Nat.zero_le _, rfl, rfl⟩
    case round =>
      obtain ⟨j, hj, rfl, rfl⟩ := hrel
      have hlt : ¬ j < k.toNat := by omega
      go_wp2
      go_ret2
      exact ⟨grown_trans H2.out H4.out, .inl ⟨val [], _, hE.out, by simp, _, _, _, H3.out⟩⟩
  | cons y q =>
    have hk0 : (0 : Int) < (k.toNat : Int) := by simp at hlen; omega
    have hc := Row.cell0 h3
    have hy : ((y.toNat : Int) == 0) = false := by
      have hz := hZ.out
      simp at hz
      have : y.toNat ≠ 0 := fun e => hz (by apply UInt8.toNat_inj.1; simpa using e)
      simp; omega
    have Hl := Lib.hid hlen
    have H5 := Lib.hid h3
    clear hlen h3 hZ
    go_wp2
    go_loop [7, 47] (fun n i => NumRel (y :: q) n i) (fun _ i => k.toNat - (intOf i).toNat)
    case atStart => exact ⟨0, Nat.zero_le _, rfl, rfl⟩
    case round =>
      obtain ⟨j, hj, rfl, rfl⟩ := hrel
      by_cases hlt : j < k.toNat
      · have hl := Hl.out
        have hc := H5.out.cell j (by omega)
        have hb : val ((y :: q).take j) < 72057594037927936 := by
          have a := val_lt ((y :: q).take j)
          have b : 256 ^ ((y :: q).take j).length ≤ 256 ^ 7 := Nat.pow_le_pow_right (by omega) (by rw [List.length_take]; omega)
          have e : (256 : Nat) ^ 7 = 72057594037927936 := by decide
          omega
        have hs := val_step (y :: q) j (by omega)
        have Hs := Lib.hid hs
        generalize val ((y :: q).take j) = v at *
        generalize (y :: q)[j] = z at *
        have hzb : z.toNat < 256 := z.toNat_lt
        clear hs
        go_wp2
        rw [or_byte v z.toNat hb hzb]
        exact ⟨⟨j + 1, by omega, by go_num, by rw [Hs.out]⟩, by simp [intOf]; omega⟩
      · have hl := Hl.out
        have hjl : j = (y :: q).length := by omega
        have ht : val ((y :: q).take j) = val (y :: q) := by rw [hjl, List.take_length]
        have Ht := Lib.hid ht
        clear ht hjl hl
        go_wp2
        go_ret2
        exact ⟨grown_trans H2.out H4.out, .inl ⟨val (y :: q), _, hE.out, by rw [← Ht.out]; rfl, _, _, _, H3.out⟩⟩

theorem num_any (b : Nat) (l : List UInt8) (x : Bool) (w : World) (h : RdAt b l x w) :
    Calls Tryd.prog 63 #[.func (.func 64) #[.pointer (some ⟨b, 0, none⟩)] #[]] w (okNum b l x w) := by
  cases l with
  | nil => exact num_empty b x w h
  | cons k r =>
    by_cases hk : k.toNat ≤ 8
    · by_cases hr : k.toNat ≤ r.length
      · by_cases h0 : (r.take k.toNat).head? = some 0
        · exact num_zero b k r x w h hk hr h0
        · exact num_good b k r x w h hk hr h0
      · exact num_short b k r x w h hk (by omega)
    · exact num_big b k r x w h (by omega)

end Go.Proofs.YtdpbdkacngaemaaDoor.wi


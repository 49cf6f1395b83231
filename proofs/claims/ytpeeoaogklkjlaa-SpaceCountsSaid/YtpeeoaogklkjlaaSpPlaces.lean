/- The places of all images, one behind the other: the contract of the iterator. -/
import Derived.RangeFuncNested
import Derived.RangeFuncBound
import Derived.RangeFuncCalls
import Derived.RangeFuncLeaves
import Derived.Shelf.Abstract
import Derived.Shelf.RegionOpen
import Derived.WalkKit
import Derived.OwnWalkIn
import Derived.TacticsInMore
import Derived.LoopNIn
import Derived.LoopIn
import Derived.Test.YtpeeoaogklkjlaaSpHyp
namespace Go.Proofs.Ytpeeoaogklkjlaa.sp
open Go Go.RowKit Go.Shelf Go.Proofs.Ytpeeoaogklkjlaa.ib
set_option maxRecDepth 100000

attribute [local go_sem] Oper.semAt_some

abbrev I64 := { x : Int // i64B x }
abbrev Plain (L : List (List I64)) : List (List Int) := L.map fun l => l.map fun x => x.1

theorem lift64 : ∀ (zss : List (List Int)), (∀ l ∈ zss, ∀ z ∈ l, i64B z) → ∃ L, Plain L = zss
  | [], _ => ⟨[], rfl⟩
  | l :: r, h => by
    obtain ⟨L, hL⟩ := lift64 r (fun l' hl' => h l' (List.mem_cons_of_mem _ hl'))
    obtain ⟨l', hl'⟩ : ∃ l' : List I64, l'.map (fun x => x.1) = l := ⟨l.attachWith i64B (h l (by simp)), by simp [List.attachWith, List.map_pmap]⟩
    refine ⟨l' :: L, ?_⟩
    show l'.map (fun x => x.1) :: Plain L = _
    rw [hL, hl']

theorem flat_take' {α : Type} (zss : List (List α)) (k : Nat) (h : k < zss.length) : (zss.take (k + 1)).flatten = (zss.take k).flatten ++ zss[k] := by
  rw [List.take_succ_eq_append_getElem h, List.flatten_append]
  simp
theorem flat_at' {α : Type} (zss : List (List α)) (k : Nat) (h : k < zss.length) : (zss.take k).flatten ++ zss[k] <+: zss.flatten := by
  rw [← flat_take' zss k h]
  refine ⟨(zss.drop (k + 1)).flatten, ?_⟩
  rw [← List.flatten_append, List.take_append_drop]
theorem flat_pre' {α : Type} (zss : List (List α)) (k : Nat) (h : k < zss.length) (j : Nat) (hj : j < zss[k].length) : (zss.take k).flatten ++ zss[k].take j ++ [zss[k][j]] <+: zss.flatten := by
  refine List.IsPrefix.trans ?_ (flat_at' zss k h)
  rw [List.append_assoc, ← List.take_succ_eq_append_getElem hj]
  exact (List.prefix_append_right_inj _).2 (List.take_prefix _ _)

def PlOut (n₀ : Nat) (L : List (List I64)) (J : List I64 → World → Prop) (W : World) (i : Value) (wr : World) : Prop :=
  ∃ k : Nat, k ≤ L.length ∧ i = .int .i64 (k : Int) ∧ J (L.take k).flatten wr ∧ Below n₀ W wr
def PlIn (n₀ : Nat) (pre l : List I64) (J : List I64 → World → Prop) (W : World) (i : Value) (wr : World) : Prop :=
  ∃ j : Nat, j ≤ l.length ∧ i = .int .i64 (j : Int) ∧ J (pre ++ l.take j) wr ∧ Below n₀ W wr

set_option maxHeartbeats 3200000 in
theorem places1_in (F : Fence) (nn : Nat) (hF : F.fn 18) (hro : F.round = none) (hn : 1 ≤ nn) (l Bs : Nat) (A : Option Addr) (c : Nat) (L : List (List I64)) (w0 : World) (J Jx : List I64 → World → Prop)
    (hA : ImsAt w0 A (Plain L)) (hL : L.length ≤ 9223372036854775807)
    (hY : ∀ pre x W, J pre W → pre.length < L.flatten.length → YieldAt F (nn - 1) Try.prog l #[.int .i64 x.1] W fun e W' =>
      (e = .returned (.bool true) ∧ J (pre ++ [x]) W' ∧ Below w0.heap.size W W') ∨ (e = .returned (.bool false) ∧ Jx (pre ++ [x]) W'))
    (W : World) (hb : Below w0.heap.size w0 W) (hBs : W.cell? ⟨Bs, 0, none⟩ = some (.slice A L.length c)) (h0 : J [] W) :
    CallsIn F nn Try.prog 18 #[.func (.yield l) #[] #[], .pointer (some ⟨Bs, 0, none⟩)] W fun e W' => (∃ v, e = .returned v) ∧
      ((∃ ys, ys = L.flatten ∧ J ys W') ∨ (∃ pre, pre <+: L.flatten ∧ Jx pre W')) := by
  have HA := Lib.hid hA
  have HY := Lib.hid hY
  have HB := Lib.hid hb
  have HJ := Lib.hid h0
  clear hA hY hb h0
  refine callsIn_of_wp Try.func18 rfl hF ?_ hro
  simp only [Try.ntmps18, List.size_toArray, List.length_cons, List.length_nil, Nat.reduceAdd, Nat.reduceSub, Array.replicate_succ, Array.replicate_zero, List.push_toArray, List.append_toArray, List.nil_append, List.cons_append]
  gi_wp2
  gi_loopw [9] (fun i wr => PlOut w0.heap.size L J W i wr) (fun i _ => L.length - (intOf i).toNat)
  case atStart => exact ⟨0, Nat.zero_le _, rfl, HJ.out, Below.refl _ _⟩
  case round =>
    obtain ⟨k, hk, rfl, hj, hkb⟩ := hrel
    have HJK := Lib.hid hj
    have HKB := Lib.hid hkb
    clear hj hkb HJ
    by_cases hlt : k < L.length
    · have hlti : (k : Int) < (L.length : Int) := by omega
      have hft := flat_take' L k hlt
      have hpr := flat_pre' L k hlt
      obtain ⟨b, o, A1, c1, rfl, hbl, hc, hz, hzl⟩ := HA.out k (by rw [List.length_map]; exact hlt)
      have ec : wr.cell? ⟨b, o + k, none⟩ = some (.slice A1 ((Plain L)[k]'(by rw [List.length_map]; exact hlt)).length c1) := by
        rw [HKB.out.cell (p := ⟨b, o + k, none⟩) hbl, HB.out.cell (p := ⟨b, o + k, none⟩) hbl]; exact hc
      have lb : b < wr.heap.size := Nat.lt_of_lt_of_le hbl (Nat.le_trans HB.out.size HKB.out.size)
      have HFT := Lib.hid hft
      have HPR := Lib.hid hpr
      have HZ := Lib.hid hz
      clear hft hpr hz hc
      have hpk : (Plain L)[k]'(by rw [List.length_map]; exact hlt) = L[k].map (fun x => x.1) := List.getElem_map _
      rw [hpk] at ec HZ hzl
      rw [List.length_map] at ec hzl
      clear hpk
      generalize hzs : L[k] = zs at *
      clear hzs
      gi_wp2
      gi_loopw [15] (fun i wr => PlIn w0.heap.size (L.take k).flatten zs J W i wr) (fun i _ => zs.length - (intOf i).toNat)
      case atStart => exact ⟨0, Nat.zero_le _, rfl, by rw [List.take_zero, List.append_nil]; exact HJK.out, HKB.out⟩
      case round =>
        clear HJK HKB ec lb
        obtain ⟨j, hjl, rfl, hj, hkb⟩ := hrel
        have HJK := Lib.hid hj
        have HKB := Lib.hid hkb
        clear hj hkb
        by_cases hjt : j < zs.length
        · have hjti : (j : Int) < (zs.length : Int) := by omega
          obtain ⟨b1, o1, rfl, hbl1, hc1, hz1⟩ := HZ.out j (by rw [List.length_map]; exact hjt)
          rw [List.getElem_map] at hc1 hz1
          have e1 : wr.cell? ⟨b1, o1 + j, none⟩ = some (.int .i64 zs[j].1) := by
            rw [HKB.out.cell (p := ⟨b1, o1 + j, none⟩) hbl1, HB.out.cell (p := ⟨b1, o1 + j, none⟩) hbl1]; exact hc1
          have l1 : b1 < wr.heap.size := Nat.lt_of_lt_of_le hbl1 (Nat.le_trans HB.out.size HKB.out.size)
          have hp := HPR.out j hjt
          have htk : zs.take (j + 1) = zs.take j ++ [zs[j]] := List.take_succ_eq_append_getElem hjt
          have hln := hp.length_le
          rw [List.length_append] at hln
          obtain ⟨fn, tmps, assign, body, hy, hR⟩ := HY.out _ zs[j] wr HJK.out (by simp only [List.length_cons, List.length_nil] at hln; omega)
          have HP := Lib.hid hp
          have HTK := Lib.hid htk
          have HR := Lib.hid hR
          clear hp htk hR hc1 hz1 hln
          generalize zs[j] = x at *
          gi_wp2
          refine HR.out.mono ?_
          rintro e W3 (⟨rfl, hJ3, hk3⟩ | ⟨rfl, hJx3⟩)
          · have HJ3 := Lib.hid hJ3
            have HK3 := Lib.hid (HKB.out.trans hk3)
            clear hJ3 hk3 HR
            gi_wp2
            refine ⟨⟨j + 1, by omega, by go_num, by rw [HTK.out, ← List.append_assoc]; exact HJ3.out, HK3.out⟩, ?_⟩
            simp [intOf]; omega
          · gi_wp2
            refine bodyPost_ret (results_none rfl _ _ _) rfl ?_
            exact ⟨⟨_, rfl⟩, .inr ⟨_, HP.out, hJx3⟩⟩
        · have hjti : ¬ (j : Int) < (zs.length : Int) := by omega
          have hj := HJK.out
          rw [List.take_of_length_le (l := zs) (by omega), ← HFT.out] at hj
          have HJ2 := Lib.hid hj
          clear hj
          gi_wp2
          refine ⟨⟨k + 1, by omega, by go_num, HJ2.out, HKB.out⟩, ?_⟩
          simp [intOf]; omega
    · have hlti : ¬ (k : Int) < (L.length : Int) := by omega
      have hj := HJK.out
      rw [List.take_of_length_le (by omega)] at hj
      have HJ2 := Lib.hid hj
      clear hj
      gi_wp2
      go_end0
      exact ⟨⟨_, rfl⟩, .inl HJ2.out⟩

theorem places_in (F : Fence) (n : Nat) (hF : F.fn 16) (hro : F.round = none) (a : Option Addr) (len cap : Nat) (w : World) :
    CallsIn F n Try.prog 16 #[.slice a len cap] w fun e w' => e = .returned (.func (.func 18) #[] #[.pointer (some ⟨w.heap.size, 0, none⟩)]) ∧ w' = w.alloc (.cells #[.slice a len cap] 22) := by
  refine callsIn_of_wp Try.func16 rfl hF ?_ hro
  simp only [Try.ntmps16, List.size_toArray, List.length_cons, List.length_nil, Nat.reduceAdd, Nat.reduceSub, Array.replicate_succ, Array.replicate_zero, List.push_toArray, List.append_toArray, List.nil_append, List.cons_append]
  gi_wp2
  go_ret
  exact ⟨rfl, rfl⟩

theorem places_stops (F : Fence) (nn : Nat) (hF : F.fn 18) (hro : F.round = none) (hn : 1 ≤ nn) (Bs : Nat) (A : Option Addr) (c : Nat) (L : List (List I64)) (w0 w : World)
    (hA : ImsAt w0 A (Plain L)) (hL : L.length ≤ 9223372036854775807) (hb : Below w0.heap.size w0 w) (hBs : Blk w Bs 22 #[.slice A L.length c]) :
    SeqStopsK F nn Try.prog 18 #[.pointer (some ⟨Bs, 0, none⟩)] (fun x : I64 => #[.int .i64 x.1]) (Below w0.heap.size) (fun ys => ys = L.flatten) (fun pre => pre <+: L.flatten) L.flatten.length w := fun l J Jx W hW _ _ hY h0 =>
  places1_in F nn hF hro hn l Bs A c L w0 J Jx hA hL hY W (below_step hb hW) ((hBs.below hW).cell 0) h0
end Go.Proofs.Ytpeeoaogklkjlaa.sp

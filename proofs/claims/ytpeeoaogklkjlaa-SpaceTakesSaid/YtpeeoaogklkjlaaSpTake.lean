/- Which sectors are taken. -/
import Derived.Test.YtpeeoaogklkjlaaSpFree
import Derived.Test.YtpeeoaogklkjlaaSpRefC
namespace Go.Proofs.Ytpeeoaogklkjlaa.sp
open Go Go.RowKit Go.Proofs.Ytpeeoaogklkjlaa.ib
set_option maxRecDepth 100000

theorem make_ints_b (n : Int) (h0 : 0 ≤ n) (h : n * 8 ≤ 140737488355328) (W : World) : (Instr.makeSlice 23 (.int .i64 n) (.int .i64 n)).run Try.prog W = .ok (.slice (some ⟨W.heap.size, 0, none⟩) n.toNat n.toNat) (W.alloc (.cells (icells (List.replicate n.toNat 0)) 3)) := by
  obtain ⟨i0, hi, hz0, hz1, hz2⟩ := info_parts infoInt
  have hmk := run_make (P := Try.prog) W 23 3 i0 (.int .i64 0) Try.underlying23 hi hz0 .i64 .i64 n n h0 (Int.le_refl _) (by rw [hz2]; omega) (by omega)
  rw [hz1] at hmk
  rw [← icells_new]
  simpa [Value.cells] using hmk

/-- So many are taken. -/
def TkRel (w W : World) (g B0 B1 : Nat) (A : Option Addr) (c : Nat) (cs : List Int) (m : Nat) (v : Value) (wr : World) : Prop :=
  ∃ (n k : Nat), n ≤ m ∧ v = .int .i64 (n : Int) ∧ FindAt W wr B0 B1 A c cs k ∧ (frees cs k).length = n ∧ Blk wr g 3 (icells (frees cs k ++ List.replicate (m - n) 0)) ∧ Below w.heap.size w wr

theorem take_at {cs : List Int} {k m : Nat} (h : (frees cs k).length = m) (hk : k ≤ cs.length ∨ k = 193) : (frees cs cs.length).take m = frees cs k := by
  rcases hk with h1 | h1
  · obtain ⟨r, hr⟩ := frees_pre cs k cs.length h1
    rw [hr, ← h, List.take_left]
  · rw [h1, frees_low cs 193 (by omega)] at h
    rw [h1, frees_low cs 193 (by omega), ← h]
    rfl

theorem fill_one (l : List Int) (r : Nat) (x : Int) : (l ++ List.replicate (r + 1) 0).set l.length x = (l ++ [x]) ++ List.replicate r 0 := by
  rw [List.set_append_right _ _ (Nat.le_refl _), Nat.sub_self, List.replicate_succ, List.append_assoc]
  rfl

set_option maxHeartbeats 3200000 in
theorem hTake : HTake := by
  intro A c cs n w hp hl hn
  have HP := Lib.hid hp
  have hsm := sFree_most cs
  obtain ⟨res, hres⟩ : ∃ r, sTake cs n = r := ⟨_, rfl⟩
  rw [hres]
  unfold sTake at hres
  by_cases h0 : n < 0
  · rw [if_pos h0] at hres
    subst hres
    clear hp
    go_enter Try.func12, Try.ntmps12
    go_wp2_with fail
    go_ret2
    exact okL_nil (Below.refl _ _)
  rw [if_neg h0] at hres
  have HF := Lib.hid (hFree A c cs w hp (by omega))
  obtain ⟨fr, hfr⟩ : ∃ f, sFree cs = f := ⟨_, rfl⟩
  have HFR := Lib.hid hfr
  rw [hfr] at HF hres hsm
  clear hfr hp
  by_cases h1 : (fr : Int) < n
  · rw [if_pos h1] at hres
    subst hres
    go_enter Try.func12, Try.ntmps12
    go_wp2_with fail
    refine HF.out.mono ?_
    rintro e W ⟨rfl, hb⟩
    go_wp2_with fail
    go_ret2
    exact okL_nil hb
  rw [if_neg h1] at hres
  have hmk := make_ints_b n (by omega) (by omega)
  obtain ⟨m, rfl⟩ := Int.eq_ofNat_of_zero_le (show 0 ≤ n by omega)
  rw [Int.toNat_natCast] at hmk hres
  have HRES := Lib.hid hres
  have HMK := Lib.hid hmk
  clear hres hmk
  go_enter Try.func12, Try.ntmps12
  go_wp2_with fail
  refine HF.out.mono ?_
  rintro e W ⟨rfl, hb⟩
  have HB := Lib.hid hb
  have HPW := Lib.hid (HP.out.below hb)
  clear hb HF
  have hmk := HMK.out
  go_wp2_with fail
  clear hmk
  have hkb : Blk (W.alloc (.cells (icells (List.replicate m 0)) 3)) W.heap.size 3 (icells (List.replicate m 0)) := Blk.new _ _ _
  have hb2 := (Below.refl W.heap.size W).alloc (Nat.le_refl _) (.cells (icells (List.replicate m 0)) 3)
  have hsz : (W.alloc (.cells (icells (List.replicate m 0)) 3)).heap.size = W.heap.size + 1 := by simp
  obtain ⟨W1, hW1⟩ : ∃ x, W.alloc (.cells (icells (List.replicate m 0)) 3) = x := ⟨_, rfl⟩
  rw [hW1] at hkb hb2 hsz ⊢
  obtain ⟨g, hg⟩ : ∃ x, W.heap.size = x := ⟨_, rfl⟩
  rw [hg] at hkb hb2 hsz ⊢
  have HG := Lib.hid hg
  have HK := Lib.hid hkb
  have HB1 := Lib.hid (below_step HB.out (by rw [hg]; exact hb2))
  have HP1 := HPW
  have hfi := finder_any A c cs W W1 (by rw [hg]; exact hb2)
  rw [hsz] at hfi
  have HWS : Hid (w.heap.size ≤ W.heap.size) := HB.out.size
  have HB1s : Hid (w.heap.size ≤ g) := by rw [← hg]; exact HB.out.size
  clear hkb hb2 hW1 hg HB HPW HMK
  refine hfi.mono ?_
  clear hfi
  rintro e W2 ⟨rfl, hf, hb⟩
  have HF := Lib.hid hf
  have HK2 := Lib.hid (HK.out.below (by rw [hsz]; exact hb))
  have HB2 := Lib.hid (below_step HB1.out (by rw [hsz]; exact hb))
  have HSZ := Lib.hid hsz
  clear hf hb HK HB1 hsz
  unfold fFind
  go_wp2_with fail
  go_loopw [21] (fun v wr => TkRel w W g (g + 1) (g + 1 + 1) A c cs m v wr) (fun v _ => m - (intOf v).toNat)
  case atStart => exact ⟨0, 193, Nat.zero_le _, rfl, HF.out, by rw [frees_low cs 193 (by omega)]; rfl, by rw [frees_low cs 193 (by omega)]; exact HK2.out, HB2.out⟩
  case round =>
    clear HF HK2 HB2
    obtain ⟨n, k, hnm, rfl, hf, hfl, hk, hb⟩ := hrel
    have HF := Lib.hid hf
    have HFL := Lib.hid hfl
    have HK := Lib.hid hk
    have HB := Lib.hid hb
    have hk2 := hf.k2
    clear hf hfl hk hb
    by_cases hlt : n < m
    · have hlti : (n : Int) < (m : Int) := by omega
      go_wp2_with fail
      refine (find_any HF.out HP1.out (by omega)).mono ?_
      rintro e W3 ⟨hb3, ⟨t, ht, hft, rfl, hf3⟩ | ⟨hs, _⟩⟩
      · have hk3 := HK.out.of_block (hb3.block g HK.out.lt (by omega))
        have hset := hk3.set_ n (.int .i64 (t : Int))
        have hlo := HF.out.low
        have hbl : Below w.heap.size w W3 := HB.out.trans (hb3.below (fun i e => by rw [e]; have := HB1s.out; omega) HB.out.size)
        have hbt : But (fun j => j = g) W3 (W3.setCell ⟨g, n, none⟩ (.int .i64 (t : Int))) := (But.refl _ _).setCell ⟨g, n, none⟩ _ (.inl rfl)
        have hcl : W3.cell? ⟨g, n, none⟩ = some (.int .i64 0) := by
          rw [hk3.cell n, icells_at _ n (by rw [List.length_append, List.length_replicate, HFL.out]; omega), List.getElem_append_right (by rw [HFL.out]; exact Nat.le_refl _)]
          simp
        have hgl := hk3.lt
        have hfz := hk3.frozen n
        rw [icells_set, show m - n = m - (n + 1) + 1 by omega] at hset
        have hfo := fill_one (frees cs k) (m - (n + 1)) (t : Int)
        rw [HFL.out] at hfo
        rw [hfo, ← hft] at hset
        have hf4 : FindAt W (W3.setCell ⟨g, n, none⟩ (.int .i64 (t : Int))) (g + 1) (g + 1 + 1) A c cs (t + 1) :=
          ⟨hf3.box.of_block (hbt.block _ hf3.box.lt (by omega)), hf3.at_.of_block (hbt.block _ hf3.at_.lt (by omega)), hf3.low, hf3.lt, hf3.k1, hf3.k2, hf3.below.trans (hbt.below (fun i e => by rw [e, HG.out]; exact Nat.le_refl _) hf3.below.size)⟩
        have hfl4 : (frees cs (t + 1)).length = n + 1 := by rw [hft, List.length_append, HFL.out]; rfl
        have hb4 : Below w.heap.size w (W3.setCell ⟨g, n, none⟩ (.int .i64 (t : Int))) := hbl.trans (hbt.below (fun i e => by rw [e]; exact HB1s.out) hbl.size)
        have HK4 := Lib.hid hset
        have HF4 := Lib.hid hf4
        have HFL4 := Lib.hid hfl4
        have HB4 := Lib.hid hb4
        clear hset hf4 hfl4 hb4 hk3 hbl hbt hfo hft hb3 hf3
        go_wp2_with fail
        go_roundw
        case rel => exact ⟨n + 1, t + 1, by omega, by go_num, HF4.out, HFL4.out, HK4.out, HB4.out⟩
        case measure => simp [intOf]; omega
      · exact absurd hs (by rw [HFR.out, HFL.out]; omega)
    · have hlti : ¬ (n : Int) < (m : Int) := by omega
      have hnm2 : n = m := by omega
      have hk' := HK.out
      rw [hnm2, Nat.sub_self, List.replicate_zero, List.append_nil] at hk'
      have HKE := Lib.hid hk'
      have htk := take_at (HFL.out.trans hnm2) hk2
      have hr : res = (frees cs k, 0) := by rw [← HRES.out, htk]
      have HR := Lib.hid hr
      have HZ := Lib.hid (frees_i64 (cs := cs) (i := k) (by omega))
      have HLN := Lib.hid (HFL.out.trans hnm2)
      clear hk' htk hr hnm2
      go_wp2_with fail
      go_ret2
      exact okL_blk HKE.out HB.out (by rw [← HG.out]; exact HWS.out) HLN.out (Nat.le_refl _) HZ.out HR.out
end Go.Proofs.Ytpeeoaogklkjlaa.sp

/- JHead, JAllP. -/
import Derived.Test.YtjllpbckmioiiaaDoorQ19
import Derived.Test.YtjllpbckmioiiaaDoorQ23
/- A head's two calls: how it is laid, and read. -/
namespace Go.Proofs.YtjllpbckmioiiaaDoor.jr
open Go Go.RowKit Go.Proofs.YtjllpbckmioiiaaDoor.dk Go.Proofs.YtjllpbckmioiiaaDoor.wi
set_option maxRecDepth 100000

theorem hstr_add (a b : List UInt8) : str a ++ str b = str (a ++ b) := by
  apply ByteArray.ext
  apply Array.ext'
  simp [str]

theorem rep_is (l : List UInt8) (n : Nat) (h : l = [0]) : Lib.repeatL l n = List.replicate n 0 := by
  subst h
  induction n with
  | zero => rfl
  | succ n ih => rw [List.replicate_succ, ← ih]; rfl

set_option maxHeartbeats 1600000 in
theorem headW : HeadW := by
  intro a c w ha hc
  have e1 : (a : Int) + 1 = ((a + 1 : Nat) : Int) := by omega
  have E1 := Lib.hid e1
  have ha1 : (a : Int) ≤ 1 := by omega
  have hc1 : (c : Int) ≤ 72 := by omega
  clear e1
  go_enter Tryd.func32, Tryd.ntmps32
  go_wp2_with fail
  rw [E1.out]
  have hA : Blk ((w.alloc (.cells #[.int .i64 (a : Int), .int .i64 (c : Int)] 54)).alloc (.cells #[.int .i64 0, .string ⟨#[]⟩] 49)) w.heap.size 54 #[.int .i64 (a : Int), .int .i64 (c : Int)] := by
    have k := Blk.new w 54 #[.int .i64 (a : Int), .int .i64 (c : Int)]
    exact k.of_block (((Below.refl _ (w.alloc (.cells #[.int .i64 (a : Int), .int .i64 (c : Int)] 54))).alloc (Nat.le_refl _) _).block _ k.lt)
  have hA2 : Blk ((w.alloc (.cells #[.int .i64 (a : Int), .int .i64 (c : Int)] 54)).alloc (.cells #[.int .i64 0, .string ⟨#[]⟩] 49)) (w.heap.size + 1) 49 #[.int .i64 0, .string ⟨#[]⟩] := by
    have := Blk.new (w.alloc (.cells #[.int .i64 (a : Int), .int .i64 (c : Int)] 54)) 49 #[.int .i64 0, .string ⟨#[]⟩]
    simpa using this
  have hB0 : Below w.heap.size w ((w.alloc (.cells #[.int .i64 (a : Int), .int .i64 (c : Int)] 54)).alloc (.cells #[.int .i64 0, .string ⟨#[]⟩] 49)) := ((Below.refl w.heap.size w).alloc (Nat.le_refl _) _).alloc (by simp) _
  refine (putNum_nat ⟨#[]⟩ (a + 1) _ (by omega) (by decide)).mono ?_
  rintro e W1 ⟨rfl, b1⟩
  have HA := Lib.hid (hA.of_block (b1.block _ hA.lt))
  have HA2 := Lib.hid (hA2.of_block (b1.block _ hA2.lt))
  have HB := Lib.hid (below_step hB0 b1)
  have q1 := HA.out.cell 1
  have lt1 := HA.out.lt
  obtain ⟨S1, hS1⟩ : ∃ s, str (bl ⟨#[]⟩ ++ numB (a + 1)) = s := ⟨_, rfl⟩
  have hl1 := numB_len (a + 1)
  have hS1s : S1.size ≤ 9 := by
    rw [← hS1, str_size, List.length_append]
    have : (bl ⟨#[]⟩).length = 0 := rfl
    omega
  rw [hS1]
  have HS1 := Lib.hid hS1
  clear hA hA2 hB0 b1 hS1
  go_wp2_with fail
  refine (putNum_nat S1 c _ (by omega) (by omega)).mono ?_
  rintro e W2 ⟨rfl, b2⟩
  have HC := Lib.hid (HA2.out.of_block (b2.block _ HA2.out.lt))
  have HB2 := Lib.hid (below_step HB.out b2)
  have lt2 := HC.out.lt
  have q2 := HC.out.frozen 0
  obtain ⟨S2, hS2⟩ : ∃ s, str (bl S1 ++ numB c) = s := ⟨_, rfl⟩
  have hl2 := numB_len c
  have hS2s : S2.size ≤ 18 := by rw [← hS2, str_size, List.length_append, bl_len]; omega
  have hS2i : (S2.size : Int) ≤ 18 := by omega
  rw [hS2]
  have HS2 := Lib.hid hS2
  clear hS2 b2 q1 lt1
  go_wp2_with fail
  have en : (32 : Int) - (S2.size : Int) = ((32 - S2.size : Nat) : Int) := by omega
  rw [en]
  refine (Tryd.strings_Repeat ⟨#[0]⟩ (32 - S2.size) _ (by omega) (by have : (⟨#[0]⟩ : ByteArray).size = 1 := rfl; rw [this]; omega)).mono ?_
  rintro e W3 ⟨rfl, b3⟩
  obtain ⟨R, hR⟩ : ∃ r : ByteArray, (⟨(Lib.repeatL (⟨#[0]⟩ : ByteArray).data.toList (32 - S2.size)).toArray⟩ : ByteArray) = r := ⟨_, rfl⟩
  rw [hR]
  have hRs : R.size = 32 - S2.size := by
    rw [← hR, rep_is _ _ rfl]
    show (List.replicate (32 - S2.size) (0 : UInt8)).toArray.size = _
    rw [List.size_toArray, List.length_replicate]
  have HR := Lib.hid hR
  have HD := Lib.hid (HC.out.of_block (b3.block _ lt2))
  have HB3 := Lib.hid (below_step HB2.out b3)
  have lt3 := HD.out.lt
  have q3 := HD.out.frozen 0
  have q4 := HD.out.frozen 1
  have q5 := HD.out.cell 0
  have q6 := HD.out.cell 1
  clear b3 hR q2 lt2
  go_wp2_with fail
  have hE := (HD.out.set_ 0 (.int .i64 0)).set_ 1 (.string (S2 ++ R))
  have q7 := hE.cell 0
  have q8 := hE.cell 1
  have hout : str (hdB a c) = S2 ++ R := by
    have hz : S2.size = (numB (a + 1)).length + (numB c).length := by
      rw [← HS2.out, str_size, List.length_append, bl_len, ← HS1.out, str_size, List.length_append]
      have : (bl ⟨#[]⟩).length = 0 := rfl
      omega
    have h2 : S2 = str (numB (a + 1) ++ numB c) := by rw [← HS2.out, ← HS1.out, bl_str]; rfl
    have h3 : R = str (List.replicate (32 - (numB (a + 1)).length - (numB c).length) 0) := by
      rw [← HR.out, rep_is _ _ rfl, hz, Nat.sub_add_eq]
      rfl
    rw [h2, h3, hstr_add]
    rfl
  have HO := Lib.hid hout
  clear hout hE
  (try simp only [Exit.inBlock, Exit.then])
  refine bodyPost_ret (v := .agg #[.int .i64 0, .string (S2 ++ R)]) (by simp [results, Tryd.results32, go_sem, q7, q8]) rfl ⟨by rw [HO.out], (HB3.out.setCell (p := ⟨w.heap.size + 1, 0, none⟩) (Nat.le_succ _) _).setCell (p := ⟨w.heap.size + 1, 1, none⟩) (Nat.le_succ _) _⟩

/-! ### What is read -/
def m1 (s : Bt) : Nat := match rdNum s with | none => 0 | some (m, _) => m
def c1 (s : Bt) : Nat := match rdNum s with | none => 0 | some (_, r) => match rdNum r with | none => 0 | some (c, _) => c

theorem hdB_reads {a c : Nat} (ha : a < 2) (hc : c ≤ 72) : m1 (hdB a c) = a + 1 ∧ c1 (hdB a c) = c := by
  unfold m1 c1 hdB
  rw [List.append_assoc, rdNum_put (a + 1) (by omega)]
  dsimp only
  rw [rdNum_put c (by omega)]
  exact ⟨rfl, rfl⟩

theorem hdOf_eq (s : Bt) : hdOf s = if m1 s < 1 ∨ 2 < m1 s ∨ 72 < c1 s then none else if hdB (m1 s - 1) (c1 s) = s then some (m1 s - 1, c1 s) else none := by
  by_cases h : m1 s < 1 ∨ 2 < m1 s ∨ 72 < c1 s
  · rw [if_pos h]
    cases hx : hdOf s with
    | none => rfl
    | some p =>
      obtain ⟨a, c⟩ := p
      obtain ⟨ha, hc, rfl⟩ := hdOf_some hx
      have := hdB_reads ha hc
      omega
  · rw [if_neg h]
    by_cases he : hdB (m1 s - 1) (c1 s) = s
    · rw [if_pos he]
      have := (hd_facts (a := m1 s - 1) (c := c1 s) (by omega) (by omega)).2.1
      rw [he] at this
      exact this
    · rw [if_neg he]
      cases hx : hdOf s with
      | none => rfl
      | some p =>
        obtain ⟨a, c⟩ := p
        obtain ⟨ha, hc, rfl⟩ := hdOf_some hx
        have := hdB_reads ha hc
        rw [this.1, this.2] at he
        exact absurd rfl he

def HNum1 (rb : Nat) (s : Bt) (w : World) (e : Ending) (w' : World) : Prop :=
  e = .returned (.int .u64 (m1 s : Int)) ∧ m1 s < 18446744073709551616 ∧ w.grownBy w' (some rb) ∧ ((∃ m r, rdNum s = some (m, r) ∧ RdAt rb r false w') ∨ (rdNum s = none ∧ ∃ m, RdAt rb m true w'))
def HNum2 (rb : Nat) (s : Bt) (w : World) (e : Ending) (w' : World) : Prop :=
  e = .returned (.int .u64 (c1 s : Int)) ∧ c1 s < 18446744073709551616 ∧ w.grownBy w' (some rb)

theorem hnum1 {rb : Nat} {s : Bt} {w : World} (h : RdAt rb s false w) : Calls Tryd.prog 44 #[.pointer (some ⟨rb, 0, none⟩)] w (HNum1 rb s w) := by
  refine (num_good1 rb s w h).mono ?_
  rintro e w' ⟨hg, ⟨z, r1, hn, rfl, hr⟩ | ⟨hn, rfl, hm⟩⟩
  · have e1 : m1 s = z := by unfold m1; rw [hn]
    exact ⟨by rw [e1], by rw [e1]; exact (rdNum_is _ _ _ hn).2, hg, .inl ⟨z, r1, hn, hr⟩⟩
  · have e1 : m1 s = 0 := by unfold m1; rw [hn]
    exact ⟨by rw [e1]; rfl, by rw [e1]; decide, hg, .inr ⟨hn, hm⟩⟩

theorem hnum2 {rb : Nat} {s : Bt} {w : World} (h : (∃ m r, rdNum s = some (m, r) ∧ RdAt rb r false w) ∨ (rdNum s = none ∧ ∃ m, RdAt rb m true w)) : Calls Tryd.prog 44 #[.pointer (some ⟨rb, 0, none⟩)] w (HNum2 rb s w) := by
  rcases h with ⟨m, r, hs, h⟩ | ⟨hs, m, h⟩
  · refine (num_good1 rb r w h).mono ?_
    rintro e w' ⟨hg, ⟨z, r1, hn, rfl, hr⟩ | ⟨hn, rfl, hm⟩⟩
    · have e1 : c1 s = z := by unfold c1; rw [hs]; dsimp only; rw [hn]
      exact ⟨by rw [e1], by rw [e1]; exact (rdNum_is _ _ _ hn).2, hg⟩
    · have e1 : c1 s = 0 := by unfold c1; rw [hs]; dsimp only; rw [hn]
      exact ⟨by rw [e1]; rfl, by rw [e1]; decide, hg⟩
  · refine (num_bad1 rb m w h).mono ?_
    rintro e w' ⟨rfl, rfl⟩
    have e1 : c1 s = 0 := by unfold c1; rw [hs]
    exact ⟨by rw [e1]; rfl, by rw [e1]; decide, grown_refl _ _⟩

set_option maxHeartbeats 3200000 in
theorem headR : HeadR := by
  intro most w own p d h hon hn
  have hrd : d.read 0 = (rd d.now 0, 0) := by
    unfold DD.read
    have : d.has 0 = true := by
      simp only [DD.has, Bool.and_eq_true, decide_eq_true_eq]
      omega
    rw [if_neg (by rw [hon]; simp), if_neg (by rw [this]; simp)]
    rfl
  have h32 : (rd d.now 0).length = 32 := by
    unfold rd
    cases hx : dk.look d.now 0 with
    | none => exact zz_length
    | some u => exact h.1.look1 hx
  generalize rd d.now 0 = x at *
  obtain ⟨res, hres⟩ : ∃ r, hdOf x = r := ⟨_, rfl⟩
  rw [hres]
  rw [hdOf_eq] at hres
  have HRES := Lib.hid hres
  have HD := Lib.hid h
  have HRD := Lib.hid hrd
  have H32 := Lib.hid h32
  have hb0 : Below w.heap.size w (w.alloc (.cells #[.int .i64 0, .int .i64 0] 54)) := (Below.refl w.heap.size w).alloc (Nat.le_refl _) _
  have hk0 : Blk (w.alloc (.cells #[.int .i64 0, .int .i64 0] 54)) w.heap.size _ _ := Blk.new w _ _
  have HB0 := Lib.hid hb0
  have HK0 := Lib.hid hk0
  clear h hrd h32 hres hb0 hk0
  go_enter Tryd.func28, Tryd.ntmps28
  go_wp2_with fail
  refine (read_in (B := 0) ⟨own, HD.out.below HB0.out, fun _ _ => Nat.zero_le _⟩ 0 x (str x) rfl 0 HRD.out).mono ?_
  rintro e W1 ⟨rfl, _, b1⟩
  have HK1 := Lib.hid (HK0.out.of_block (b1.block _ HK0.out.lt))
  have HB1 := Lib.hid (below_step HB0.out b1)
  obtain ⟨X, hX⟩ : ∃ s, str x = s := ⟨_, rfl⟩
  rw [hX]
  have HX := Lib.hid hX
  clear b1 hX
  go_wp2_with fail
  refine (new_any X W1 (by rw [← HX.out, str_size, H32.out]; decide)).mono ?_
  rintro e W2 ⟨rb, rfl, hrb, hR, b2⟩
  have HR2 := Lib.hid hR
  have HK2 := Lib.hid (HK1.out.of_block (b2.block _ HK1.out.lt))
  have HB2 := Lib.hid (below_step HB1.out b2)
  have hne : rb ≠ w.heap.size := by have := HK1.out.lt; omega
  clear b2 hR
  go_wp2_with fail
  have hRx : RdAt rb x false W2 := by
    have := HR2.out
    rw [← HX.out, bl_str] at this
    exact this
  refine (hnum1 hRx).mono ?_
  rintro e W3 ⟨rfl, hm64, g3, hst⟩
  have HST := Lib.hid hst
  have HK3 := Lib.hid (HK2.out.of_block (g3.block _ HK2.out.lt (by simpa using Ne.symm hne)))
  have HB3 := Lib.hid (HB2.out.grown g3 HB2.out.size (fun j hj => by simp at hj; have := HB1.out.size; omega))
  clear hRx hst g3
  go_wp2_with fail
  refine (hnum2 HST.out).mono ?_
  rintro e W4 ⟨rfl, hc64, g4⟩
  have HK4 := Lib.hid (HK3.out.of_block (g4.block _ HK3.out.lt (by simpa using Ne.symm hne)))
  have HB4 := Lib.hid (HB3.out.grown g4 HB3.out.size (fun j hj => by simp at hj; have := HB1.out.size; omega))
  clear g4
  obtain ⟨m, hm⟩ : ∃ m, m1 x = m := ⟨_, rfl⟩
  obtain ⟨c, hc⟩ : ∃ c, c1 x = c := ⟨_, rfl⟩
  have hres := HRES.out
  rw [hm, hc] at hres
  rw [hm] at hm64
  rw [hc] at hc64
  rw [hm, hc]
  clear HRES hm hc HK1 HK2 HK3 HB1 HB2 HB3 HST
  have lt4 := HK4.out.lt
  have f0 := HK4.out.frozen 0
  have f1 := HK4.out.frozen 1
  have q0 := HK4.out.cell 0
  have q1 := HK4.out.cell 1
  have hno : ∀ W, Below w.heap.size w W → res = none → HeadPost res w (.returned (.tuple #[.agg #[.int .i64 0, .int .i64 0], .bool false])) W := by
    intro W hb hr
    subst hr
    exact ⟨hb, 0, 0, rfl⟩
  have HNO := Lib.hid hno
  clear hno
  by_cases hlo : m < 1
  · have c1 : ((m : Int) < 1) := by omega
    rw [if_pos (.inl hlo)] at hres
    have HRS := Lib.hid hres
    clear hres
    go_wp2_with fail
    have hE := (HK4.out.set_ 0 (.int .i64 0)).set_ 1 (.int .i64 0)
    have q7 := hE.cell 0
    have q8 := hE.cell 1
    (try simp only [Exit.inBlock, Exit.then])
    refine bodyPost_ret (v := .tuple #[.agg #[.int .i64 0, .int .i64 0], .bool false]) (by simp [results, Tryd.results28, go_sem, q7, q8]) rfl (HNO.out _ ((HB4.out.setCell (p := ⟨w.heap.size, 0, none⟩) (Nat.le_refl _) _).setCell (p := ⟨w.heap.size, 1, none⟩) (Nat.le_refl _) _) HRS.out.symm)
  · by_cases hhi : 2 < m
    · have c1 : ¬ ((m : Int) < 1) := by omega
      have c2 : (2 : Int) < (m : Int) := by omega
      rw [if_pos (.inr (.inl hhi))] at hres
      have HRS := Lib.hid hres
      clear hres
      go_wp2_with fail
      have hE := (HK4.out.set_ 0 (.int .i64 0)).set_ 1 (.int .i64 0)
      have q7 := hE.cell 0
      have q8 := hE.cell 1
      (try simp only [Exit.inBlock, Exit.then])
      refine bodyPost_ret (v := .tuple #[.agg #[.int .i64 0, .int .i64 0], .bool false]) (by simp [results, Tryd.results28, go_sem, q7, q8]) rfl (HNO.out _ ((HB4.out.setCell (p := ⟨w.heap.size, 0, none⟩) (Nat.le_refl _) _).setCell (p := ⟨w.heap.size, 1, none⟩) (Nat.le_refl _) _) HRS.out.symm)
    · by_cases h72 : 72 < c
      · have c1 : ¬ ((m : Int) < 1) := by omega
        have c2 : ¬ (2 : Int) < (m : Int) := by omega
        have c3 : (72 : Int) < (c : Int) := by omega
        rw [if_pos (.inr (.inr h72))] at hres
        have HRS := Lib.hid hres
        clear hres
        go_wp2_with fail
        have hE := (HK4.out.set_ 0 (.int .i64 0)).set_ 1 (.int .i64 0)
        have q7 := hE.cell 0
        have q8 := hE.cell 1
        (try simp only [Exit.inBlock, Exit.then])
        refine bodyPost_ret (v := .tuple #[.agg #[.int .i64 0, .int .i64 0], .bool false]) (by simp [results, Tryd.results28, go_sem, q7, q8]) rfl (HNO.out _ ((HB4.out.setCell (p := ⟨w.heap.size, 0, none⟩) (Nat.le_refl _) _).setCell (p := ⟨w.heap.size, 1, none⟩) (Nat.le_refl _) _) HRS.out.symm)
      · have c1 : ¬ ((m : Int) < 1) := by omega
        have c2 : ¬ (2 : Int) < (m : Int) := by omega
        have c3 : ¬ (72 : Int) < (c : Int) := by omega
        rw [if_neg (by omega)] at hres
        obtain ⟨k, rfl⟩ : ∃ k, m = k + 1 := ⟨m - 1, by omega⟩
        have e1 : ((k + 1 : Nat) : Int) - 1 = (k : Int) := by omega
        rw [Nat.add_sub_cancel] at hres
        have HRS := Lib.hid hres
        have E1 := Lib.hid e1
        have hk2 : k < 2 := by omega
        have hc72 : c ≤ 72 := by omega
        clear hres e1
        go_wp2_with fail
        have kb5 : Blk (W4.alloc (.cells #[.int .i64 (k : Int), .int .i64 (c : Int)] 54)) W4.heap.size _ _ := Blk.new W4 _ _
        have hb5 : Below w.heap.size w (W4.alloc (.cells #[.int .i64 (k : Int), .int .i64 (c : Int)] 54)) := HB4.out.alloc HB4.out.size _
        have hk5 : Blk (W4.alloc (.cells #[.int .i64 (k : Int), .int .i64 (c : Int)] 54)) w.heap.size 54 #[.int .i64 0, .int .i64 0] := HK4.out.of_block (((Below.refl W4.heap.size W4).alloc (Nat.le_refl _) _).block _ lt4)
        have KB5 := Lib.hid kb5
        have HB5 := Lib.hid hb5
        have HK5 := Lib.hid hk5
        clear kb5 hb5 hk5 q0 q1 f0 f1 lt4
        refine (headW k c _ hk2 hc72).mono ?_
        rintro e W6 ⟨rfl, b6⟩
        have kb6 : Blk W6 W4.heap.size _ _ := KB5.out.of_block (b6.block _ KB5.out.lt)
        have hk6 : Blk W6 w.heap.size 54 #[.int .i64 0, .int .i64 0] := HK5.out.of_block (b6.block _ HK5.out.lt)
        have HB6 := Lib.hid (below_step HB5.out b6)
        have HK6 := Lib.hid hk6
        have r0 := kb6.cell 0
        have r1 := kb6.cell 1
        have lt6 := hk6.lt
        have lt6' := kb6.lt
        have q0 := hk6.cell 0
        have q1 := hk6.cell 1
        have f0 := hk6.frozen 0
        have f1 := hk6.frozen 1
        clear kb6 hk6 b6 KB5 HB5 HK5 HB4 HK4
        have hfl : ∀ (Z : ByteArray) (W : World), (Instr.field 49 (.agg #[.int .i64 0, .string Z]) 1).run Tryd.prog W = .ok (.string Z) W := fun Z W => by simp [Instr.field, go_sem, asAgg]
        obtain ⟨Y, hY⟩ : ∃ s, str (hdB k c) = s := ⟨_, rfl⟩
        rw [hY]
        have HY := Lib.hid hY
        clear hY
        by_cases heq : hdB k c = x
        · have hsome : res = some (k, c) := by rw [← HRS.out, if_pos heq]
          have hYX : Y = X := by rw [← HY.out, ← HX.out, heq]
          have hq : (Y.toList == X.toList) = true := by rw [hYX]; simp
          have HS := Lib.hid hsome
          clear hsome hYX HRS heq
          go_wp2_with fail
          have hE := (HK6.out.set_ 0 (.int .i64 (k : Int))).set_ 1 (.int .i64 (c : Int))
          have q7 := hE.cell 0
          have q8 := hE.cell 1
          (try simp only [Exit.inBlock, Exit.then])
          refine bodyPost_ret (v := .tuple #[.agg #[.int .i64 (k : Int), .int .i64 (c : Int)], .bool true]) (by simp [results, Tryd.results28, go_sem, q7, q8]) rfl ?_
          rw [HS.out]
          exact ⟨(HB6.out.setCell (p := ⟨w.heap.size, 0, none⟩) (Nat.le_refl _) _).setCell (p := ⟨w.heap.size, 1, none⟩) (Nat.le_refl _) _, rfl⟩
        · have hnone : res = none := by rw [← HRS.out, if_neg heq]
          have hYX : Y ≠ X := by
            intro h
            rw [← HY.out, ← HX.out] at h
            exact heq (str_inj h)
          have hq : (Y.toList == X.toList) = false := by
            rw [beq_eq_false_iff_ne]
            intro h
            apply hYX
            rw [← str_bl Y, ← str_bl X]
            exact congrArg str (by simpa [bl, ByteArray.toList_eq] using h)
          have HS := Lib.hid hnone
          clear hnone hYX HRS heq
          go_wp2_with fail
          have hE := (HK6.out.set_ 0 (.int .i64 0)).set_ 1 (.int .i64 0)
          have q7 := hE.cell 0
          have q8 := hE.cell 1
          (try simp only [Exit.inBlock, Exit.then])
          refine bodyPost_ret (v := .tuple #[.agg #[.int .i64 0, .int .i64 0], .bool false]) (by simp [results, Tryd.results28, go_sem, q7, q8]) rfl ?_
          exact HNO.out _ ((HB6.out.setCell (p := ⟨w.heap.size, 0, none⟩) (Nat.le_refl _) _).setCell (p := ⟨w.heap.size, 1, none⟩) (Nat.le_refl _) _) HS.out
end Go.Proofs.YtjllpbckmioiiaaDoor.jr

/- All or nothing, as the statements ask it: plain data. -/
namespace Go.Proofs.YtjllpbckmioiiaaDoor.jr
open Go Go.RowKit Go.Proofs.YtjllpbckmioiiaaDoor.dk Go.Proofs.YtjllpbckmioiiaaDoor.wi
set_option maxRecDepth 100000

def KB (tgt : Int → Bt) : List Bt := (List.range 55).map fun i => tgt ((145 + i : Nat) : Int)

theorem kept_is {tgt : Int → Bt} {d : DD} (h : JJ 200 tgt d) : keptB d = KB tgt := by
  unfold keptB KB
  rw [h.n, h.now]
  exact List.map_congr_left fun i _ => h.is _ (by omega)

theorem JJ.arm {tgt : Int → Bt} {d : DD} (h : JJ 200 tgt d) (f : Int) : JJ 200 tgt (d.arm f) := ⟨⟨h.on, h.more, h.room, h.rb⟩, h.is⟩
theorem RJ.arm {tgt : Int → Bt} {d : DD} (h : RJ 200 tgt d) (f : Int) : RJ 200 tgt (d.arm f) := ⟨h.on, h.more, h.room, h.rb⟩
theorem wake_fuse (d : DD) (bs : List Bool) : (d.wake bs).fuse = d.fuse := by
  unfold DD.wake
  split <;> rfl
theorem RJ.n {tgt : Int → Bt} {d : DD} (h : RJ 200 tgt d) : d.n = 200 := h.rb.1

/-- The end of it: how Recover goes, and what is kept then. -/
def Ends (kq : List Bt) (bs : List Bool) (d4 : DD) : Prop :=
  (d4.n = 200 ∧ d4.more = []) ∧ ((∃ d5, jrecover d4 = (0, d5) ∧ d5.on = true ∧ keptB d5 = kq) ∨
    (∃ d5 d7, jrecover d4 = (6, d5) ∧ d5.on = false ∧ ((d5.wake bs).n = 200 ∧ (d5.wake bs).more = []) ∧ jrecover (d5.wake bs) = (0, d7) ∧ keptB d7 = kq ∧ d7.on = true))

theorem ends_of {tgt : Int → Bt} {d4 : DD} (h : RJ 200 tgt d4) (hf : 0 ≤ d4.fuse) (bs : List Bool) : Ends (KB tgt) bs d4 := by
  refine ⟨⟨h.n, h.more⟩, ?_⟩
  rcases recover_any h hf with ⟨h1, h2, _, _⟩ | ⟨h1, ⟨h2, h3⟩, _, h5⟩
  · exact .inl ⟨(jrecover d4).2, by rw [← h1], h2.on, kept_is h2⟩
  · obtain ⟨d7, k1, k2, _⟩ := recover_done (h3 bs) (by rw [wake_fuse]; exact h5)
    exact .inr ⟨(jrecover d4).2, d7, by rw [← h1], h2, ⟨(h3 bs).n, (h3 bs).more⟩, k1, kept_is k2, k2.on⟩

theorem all_pure {tgt : Int → Bt} {d : DD} (h : JJ 200 tgt d) (L : List Wr) (f0 f1 : Int) (h0 : 0 ≤ f0) (h1 : 0 ≤ f1) (bs : List Bool) :
    (∃ d2, jcommit (d.arm f0) L = (ansJ 200 L, d2) ∧ d2.on = true ∧ keptB d2 = KB (aft tgt L)) ∨
    (ansJ 200 L = 0 ∧ ∃ d2 kq, jcommit (d.arm f0) L = (6, d2) ∧ d2.on = false ∧ (kq = KB tgt ∨ kq = KB (aft tgt L)) ∧ Ends kq bs ((d2.wake bs).arm f1)) := by
  have ha := h.arm f0
  have hfu : 0 ≤ (d.arm f0).fuse := by unfold DD.arm; dsimp only; omega
  by_cases hans : ansJ 200 L = 0
  · have e : aft tgt L = over tgt L := by unfold aft; rw [if_pos hans]
    rw [e]
    rcases commit_any (l := L) (by decide) (by decide) ha hfu hans with ⟨g1, g2, _, _⟩ | ⟨g1, ⟨g2, g3⟩, _, _⟩
    · exact .inl ⟨(jcommit (d.arm f0) L).2, by rw [hans, ← g1], g2.on, kept_is g2⟩
    · have hf2 : 0 ≤ (((jcommit (d.arm f0) L).2.wake bs).arm f1).fuse := by unfold DD.arm; dsimp only; omega
      rcases g3 bs with k | k
      · exact .inr ⟨hans, (jcommit (d.arm f0) L).2, KB tgt, by rw [← g1], g2, .inl rfl, ends_of (k.arm f1) hf2 bs⟩
      · exact .inr ⟨hans, (jcommit (d.arm f0) L).2, KB (over tgt L), by rw [← g1], g2, .inr rfl, ends_of (k.arm f1) hf2 bs⟩
  · have e : aft tgt L = tgt := by unfold aft; rw [if_neg hans]
    rw [e]
    have := commit_not (l := L) ha.on (.inl (by rw [ha.n]; exact hans))
    rw [ha.n] at this
    exact .inl ⟨d.arm f0, this, ha.on, kept_is ha⟩

/-! ### Beside other memory -/
section
variable {w : World} {G : Nat → Prop} {p : Nat} {d : DD}

theorem commit_g (HW : HeadW) (HR : HeadR) (h : InG 400 w G p d) (hG : ∀ k, w.heap.size ≤ k → G k) (hn : 145 < d.n) (A : Option Addr) (cl n : Nat) (l : List Wr) (hln : l.length = n) (hwl : WsAt w A l) (hll : l.length ≤ 1000000) (ht : CTab w) (hm : d.more.length ≤ 200) (r : Int) (d' : DD) (h1 : jcommit d l = (r, d')) :
    Calls Tryd.prog 8 #[.pointer (some ⟨p, 0, none⟩), .slice A n cl] w (PostG 400 G p d' (.int .i64 r) w) := by
  obtain ⟨own, hd, ho⟩ := h
  subst hln
  have := commit_calls HW HR hd hn A cl l hwl hll ht (by omega) (by decide)
  rw [h1] at this
  exact this.mono fun _ _ h => g_of_post hG ho h

theorem recover_g (HR : HeadR) (h : InG 400 w G p d) (hG : ∀ k, w.heap.size ≤ k → G k) (hn : 145 < d.n) (ht : CTab w) (hm : d.more.length ≤ 200) (r : Int) (d' : DD) (h1 : jrecover d = (r, d')) :
    Calls Tryd.prog 17 #[.pointer (some ⟨p, 0, none⟩)] w (PostG 400 G p d' (.int .i64 r) w) := by
  obtain ⟨own, hd, ho⟩ := h
  have := recover_calls HR hd hn ht (by omega) (by decide)
  rw [h1] at this
  exact this.mono fun _ _ h => g_of_post hG ho h

theorem kept_g (h : InG 400 w G p d) (hon : d.on = true) (ks : List Bt) (hk : keptB d = ks) :
    Calls Tryd.prog 10 #[.pointer (some ⟨p, 0, none⟩)] w (okOwnS ks w) := by
  obtain ⟨own, hd, ho⟩ := h
  subst hk
  exact kept_any hd hon

theorem strsAt_but {w' : World} {A : Option Addr} {ps : List Bt} (h : StrsAt w A ps) (hb : But G w w') (hn : ∀ b o, A = some ⟨b, o, none⟩ → ¬ G b) : StrsAt w' A ps := by
  intro i hi
  obtain ⟨b, o, h1, h2, h3⟩ := h i hi
  refine ⟨b, o, h1, Nat.lt_of_lt_of_le h2 hb.size, ?_⟩
  rw [World.cell?_of_block (a := ⟨b, o + i, none⟩) (hb.block b h2 (hn b o h1))]
  exact h3

theorem wsAt_but {w' : World} {A : Option Addr} {l : List Wr} (h : WsAt w A l) (hb : But G w w') (hn : ∀ b o, A = some ⟨b, o, none⟩ → ¬ G b) : WsAt w' A l := by
  intro i hi
  obtain ⟨b, o, h1, h2, h3, h4, h5⟩ := h i hi
  refine ⟨b, o, h1, Nat.lt_of_lt_of_le h2 hb.size, ?_, ?_, h5⟩
  · rw [World.cell?_of_block (a := ⟨b, o + i * 2, none⟩) (hb.block b h2 (hn b o h1))]
    exact h3
  · rw [World.cell?_of_block (a := ⟨b, o + i * 2 + 1, none⟩) (hb.block b h2 (hn b o h1))]
    exact h4
end

theorem OWs.block {w : World} {B : Nat} {A : Option Addr} {n c : Nat} {l : List Wr} (h : OWs w B (.slice A n c) l) : ∀ b o, A = some ⟨b, o, none⟩ → B ≤ b ∧ b < w.heap.size := by
  intro b o hA
  subst hA
  rcases h.2 with ⟨hv, _⟩ | ⟨g, cap, cur, hv, hg, hh, _⟩
  · cases hv
  · simp only [Value.slice.injEq, Option.some.injEq, Addr.mk.injEq] at hv
    obtain ⟨⟨rfl, _⟩, _⟩ := hv
    exact ⟨hg, (Array.getElem?_eq_some_iff.1 hh).1⟩

/-- A list of lists of puts. -/
def PssAt (w : World) (a : Option Addr) (zss : List (List PutV)) : Prop :=
  ∀ i (h : i < zss.length), ∃ b o A c, a = some ⟨b, o, none⟩ ∧ b < w.heap.size ∧ w.cell? ⟨b, o + i, none⟩ = some (.slice A zss[i].length c) ∧ PutsAt3 w A zss[i] ∧ zss[i].length ≤ 9223372036854775807

def AllRel (zss : List (List PutV)) (p : Nat) (wb : World) (i : Value) (wr : World) : Prop :=
  ∃ (k : Nat) (d : DD) (tgt : Int → Bt), k ≤ zss.length ∧ k ≤ 4 ∧ i = .int .i64 (k : Int) ∧ In 400 wr wb.heap.size p d ∧ JJ 200 tgt d ∧ d.fuse = 0 ∧ Below wb.heap.size wb wr

theorem bools_keep {w w' : World} {B : Nat} {A : Option Addr} {bs : List Bool} (h : BoolsAt w A bs) (hk : ∀ b o, A = some ⟨b, o, none⟩ → 0 < bs.length → b < B) (hb : Below B w w') : BoolsAt w' A bs := fun i hi => by
  obtain ⟨b, o, h1, h2, h3⟩ := h i hi
  exact ⟨b, o, h1, Nat.lt_of_lt_of_le h2 hb.size, by rw [hb.cell (p := ⟨b, o + i, none⟩) (hk b o h1 (by omega))]; exact h3⟩

theorem PutsAt3.below {w w' : World} {a : Option Addr} {zs : List PutV} (h : PutsAt3 w a zs) (hb : Below w.heap.size w w') : PutsAt3 w' a zs := by
  intro i hi
  obtain ⟨b, o, h1, h2, h3, h4, h5, h6⟩ := h i hi
  refine ⟨b, o, h1, Nat.lt_of_lt_of_le h2 hb.size, ?_, ?_, ?_, h6⟩
  · rw [hb.cell (p := ⟨b, o + i * 3, none⟩) h2]; exact h3
  · rw [hb.cell (p := ⟨b, o + i * 3 + 1, none⟩) h2]; exact h4
  · rw [hb.cell (p := ⟨b, o + i * 3 + 2, none⟩) h2]; exact h5

theorem wsP_i64 {w : World} {a : Option Addr} {zs : List PutV} (h : PutsAt3 w a zs) : ∀ x ∈ wsP zs, i64B x.1 := by
  intro x hx
  unfold wsP at hx
  obtain ⟨y, hy, rfl⟩ := List.mem_map.1 hx
  obtain ⟨i, hi, rfl⟩ := List.getElem_of_mem (List.mem_of_mem_take hy)
  obtain ⟨_, _, _, _, _, _, _, h6⟩ := h i hi
  exact h6
theorem wsP_70 (zs : List PutV) : (wsP zs).length ≤ 70 := by
  unfold wsP
  simp
  omega
end Go.Proofs.YtjllpbckmioiiaaDoor.jr


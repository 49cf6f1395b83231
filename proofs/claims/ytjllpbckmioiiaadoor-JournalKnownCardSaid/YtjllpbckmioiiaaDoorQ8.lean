/- DkWrite2, DkFlush. -/
import Derived.Test.YtjllpbckmioiiaaDoorQ5
import Derived.Deep.RegionLaw
/- What Write of package disk does, where the power goes by it, and where it is done. -/
namespace Go.Proofs.YtjllpbckmioiiaaDoor.dk
open Go Go.RowKit
set_option maxRecDepth 100000

section
variable {w : World} {p m : Nat} {v : Value} {d : DD} {own : Nat → Prop}

theorem DkIs.low {most : Nat} (h : DkIs most w own p d) : ∀ j, own j → j < w.heap.size := by
  obtain ⟨_, m, v, h1⟩ := h
  exact h1.2.2.2.2.2.2

theorem DkIs.below {most : Nat} {w' : World} (h : DkIs most w own p d) (hb : Below w.heap.size w w') : DkIs most w' own p d :=
  h.keep hb.size (fun j hj => hb.block j (h.low j hj))

theorem write_gone {most : Nat} (h : DkIs most w own p d) (hon : d.on = true) (k : Int) (hh : d.has k = true) (s : ByteArray) (hs : s.size = 32) (hf : d.fits [k] = true) (hop : d.oper.on = false) :
    Calls Tryd.prog 54 #[.pointer (some ⟨p, 0, none⟩), .int .i64 k, .string s] w (DkPost most own p d.oper (.int .i64 6) w) := by
  have hk0 : 0 ≤ k ∧ k < (d.n : Int) := by simpa [DD.has] using hh
  have hn := h.1.n1
  have h2 : DkIs most (w.alloc (.cells #[.int .i64 k] 3)) own p d := h.below ((Below.refl _ _).alloc (Nat.le_refl _) _)
  have HF := Lib.hid (fits_any h2 _ 1 [k] (ints_one w k (by omega) (by omega)) (by simp))
  rw [hf] at HF
  have H := Lib.hid h
  have HO := Lib.hid (fun (W : World) (hW : DkIs most W own p d) => oper_any hW hon)
  rw [hop] at HO
  obtain ⟨h0, m, v, h1⟩ := h
  have hhas := has_any h1 k
  rw [hh] at hhas
  have HH := Lib.hid hhas
  obtain ⟨c0, c1, c2, c3, c4, c5⟩ := blk6 h1.1
  rw [hon] at c4
  have hsz : ((s.size : Int) == 32) = true := by rw [beq_iff_eq]; omega
  clear h0 h1 c0 c1 c2 c3 c5 hon hhas hh hs hf h2 hk0 hn hop
  go_enter Tryd.func54, Tryd.ntmps54
  go_wp2_with (first | (go_at_call 42; refine HH.out.mono ?_; rintro e w' ⟨rfl, rfl⟩) | (go_at_call 33; refine HF.out.mono ?_; rintro e w2 ⟨rfl, hb2⟩; have HB2 := Lib.hid (((Below.refl _ w).alloc (Nat.le_refl _) (.cells #[.int .i64 k] 3)).trans (hb2.mono (by simp))); clear hb2; have HW2 := Lib.hid (HO.out w2 (H.out.below HB2.out))) | (go_at_call 74; refine HW2.out.mono ?_; rintro e w3 ⟨rfl, own3, hd3, hb3, hg3⟩; have HD3 := Lib.hid hd3; have HB3 := Lib.hid hb3; have HG3 := Lib.hid hg3; clear hd3 hb3 hg3))
  go_ret
  exact ⟨rfl, own3, HD3.out, (But.of_below HB2.out).trans HB3.out (fun _ h => .inl h), fun j hj => by
    rcases HG3.out j hj with h | h
    · exact .inl h
    · exact .inr (Nat.le_trans HB2.out.size h)⟩

set_option maxRecDepth 100000 in
set_option maxHeartbeats 1600000 in
theorem write_done {most : Nat} (h : DkIs most w own p d) (hm : d.more.length < most) (hmost : most ≤ 100000) (hon : d.on = true) (k : Int) (hh : d.has k = true) (s : ByteArray) (hs : s.size = 32) (hf : d.fits [k] = true) (hop : d.oper.on = true) :
    Calls Tryd.prog 54 #[.pointer (some ⟨p, 0, none⟩), .int .i64 k, .string s] w (DkPost most own p { d.oper with more := d.more ++ [(k.toNat, bl s)] } (.int .i64 0) w) := by
  have hk0 : 0 ≤ k ∧ k < (d.n : Int) := by simpa [DD.has] using hh
  have hn := h.1.n1
  have h2 : DkIs most (w.alloc (.cells #[.int .i64 k] 3)) own p d := h.below ((Below.refl _ _).alloc (Nat.le_refl _) _)
  have HF := Lib.hid (fits_any h2 _ 1 [k] (ints_one w k (by omega) (by omega)) (by simp))
  rw [hf] at HF
  have H := Lib.hid h
  have HO := Lib.hid (fun (W : World) (hW : DkIs most W own p d) => oper_any hW hon)
  rw [hop] at HO
  obtain ⟨h0, m, v, h1⟩ := h
  have hhas := has_any h1 k
  rw [hh] at hhas
  have HH := Lib.hid hhas
  obtain ⟨c0, c1, c2, c3, c4, c5⟩ := blk6 h1.1
  rw [hon] at c4
  have hsz : ((s.size : Int) == 32) = true := by rw [beq_iff_eq]; omega
  have HS := Lib.hid hs
  have HK := Lib.hid hk0
  have HN := Lib.hid hn
  have HMO := Lib.hid hm
  have HMM := Lib.hid hmost
  have HOP := Lib.hid hop
  obtain ⟨k, rfl⟩ : ∃ j : Nat, k = (j : Int) := ⟨k.toNat, by omega⟩
  clear h0 h1 c0 c1 c2 c3 c5 hon hhas hh hs hf h2 hk0 hn hop hm hmost
  go_enter Tryd.func54, Tryd.ntmps54
  go_wp2_with (first | (go_at_call 42; refine HH.out.mono ?_; rintro e w' ⟨rfl, rfl⟩) | (go_at_call 33; refine HF.out.mono ?_; rintro e w2 ⟨rfl, hb2⟩; have HB2 := Lib.hid (((Below.refl _ w).alloc (Nat.le_refl _) (.cells #[.int .i64 (k : Int)] 3)).trans (hb2.mono (by simp))); clear hb2; have HW2 := Lib.hid (HO.out w2 (H.out.below HB2.out))) | (go_at_call 74; refine HW2.out.mono ?_))
  rintro e w3 ⟨rfl, own3, hd3, hb3, hg3⟩
  have HD3 := Lib.hid hd3
  have HB3 := Lib.hid hb3
  have HG3 := Lib.hid hg3
  obtain ⟨h30, m3, v3, h31⟩ := hd3
  have H30 := Lib.hid h30
  have H31 := Lib.hid h31
  obtain ⟨A, c, hA⟩ := own_form h31.2.2.1
  obtain ⟨g0, g1, g2, g3, g4, g5⟩ := blk6 h31.1
  have hp3 := h31.1.lt
  have hm3 := h31.2.1.lt
  have HLB : Hid (((look d.oper.now (k : Int)).getD zz).length = 32) := by
    unfold Hid
    cases hx : look d.oper.now (k : Int) with
    | none => exact zz_length
    | some u => exact h30.look1 hx
  clear hb3 hg3 c4 h30 h31 HF HO HH HW2
  go_wp2_with (first | (refine wpList_value rfl (exec_build70 _ k rfl rfl) ?_) | (refine wpList_value rfl (exec_alloc70 rfl) ?_) | (refine wpList_skip rfl (exec_store_new w3 80 _ _ (.tmp 7) (.tmp 38) rfl rfl rfl (by rw [size70, List.size_toArray, wrCells_len _ zz_length zz_length]) (by simp [wrCells_len, zz_length]) (wr_all _)) ?_) | (refine wpList_value rfl (exec_copy70 w3 (.tmp 40) (.tmp 41) k s rfl rfl rfl HS.out) ?_) | (at_lookup; refine wpList_value rfl (exec_look_ok _ _ rfl rfl (H31.out.2.1.of_block (Below.heap_alloc w3 _ _ hm3)) (k : Int) rfl (by omega) (by have := HK.out; have := HN.out; omega)) ?_) | (refine wpList_skip rfl (exec_store_before w3 (.tmp 52) (.tmp 50) k (bl s) _ false rfl rfl rfl (by rw [bl_len, HS.out]) HLB.out) ?_) | (refine wpList_skip rfl (exec_store_written w3 (.tmp 53) (.tmp 51) k (bl s) _ _ rfl rfl rfl (by rw [bl_len, HS.out]) HLB.out) ?_))
  have HX : Hid (DkAt (w3.alloc (.cells (wrCells (k, bl s, (look d.oper.now (k : Int)).getD zz, (look d.oper.now (k : Int)).isSome)).toArray 80)) own3 p m3 v3 d.oper) :=
    H31.out.keep (by simp) (fun j hj => Below.heap_alloc _ _ _ (HD3.out.low j hj))
  have HXB : Hid (Blk (w3.alloc (.cells (wrCells (k, bl s, (look d.oper.now (k : Int)).getD zz, (look d.oper.now (k : Int)).isSome)).toArray 80)) w3.heap.size 80 (wrCells (k, bl s, (look d.oper.now (k : Int)).getD zz, (look d.oper.now (k : Int)).isSome)).toArray) := Blk.new _ _ _
  have HXW : Hid (Below w3.heap.size w3 (w3.alloc (.cells (wrCells (k, bl s, (look d.oper.now (k : Int)).getD zz, (look d.oper.now (k : Int)).isSome)).toArray 80))) := (Below.refl _ _).alloc (Nat.le_refl _) _
  have HXS : Hid ((w3.alloc (.cells (wrCells (k, bl s, (look d.oper.now (k : Int)).getD zz, (look d.oper.now (k : Int)).isSome)).toArray 80)).heap.size = w3.heap.size + 1) := by unfold Hid; simp
  have HLX : Hid ((wrCells (k, bl s, (look d.oper.now (k : Int)).getD zz, (look d.oper.now (k : Int)).isSome)).length = 66) := wrCells_len _ (by rw [bl_len, HS.out]) HLB.out
  generalize hX : w3.alloc (.cells (wrCells (k, bl s, (look d.oper.now (k : Int)).getD zz, (look d.oper.now (k : Int)).isSome)).toArray 80) = X at *
  clear hX g0 g1 g2 g3 g4 g5
  subst hA
  obtain ⟨g0, g1, g2, g3, g4, g5⟩ := blk6 HX.out.1
  have hf3 := HX.out.1.frozen 3
  have hpX := HX.out.1.lt
  simp only [Act.put]
  refine wp_region_any (by kernel_rfl) ?_
  change wpAny _ _ _ _ _ _ _ (World.drew _)
  refine wpAny_take (i := 0) (v := .pointer (some ⟨p, 0, none⟩)) rfl (by kernel_rfl) (by kernel_rfl) (by kernel_rfl) (fun _ _ _ h => h) (Or.inl ⟨by rfl, fun w => by go_simp⟩) ?_
  go_simp
  refine wpAny_take (i := 1) (v := .pointer (some ⟨p, 0, none⟩)) rfl (by kernel_rfl) (by kernel_rfl) (by kernel_rfl) (fun _ _ _ h => h) (Or.inl ⟨by rfl, fun w => by go_simp⟩) ?_
  go_simp
  refine wpAny_take (i := 2) (v := .pointer (some ⟨p, 0, none⟩)) rfl (by kernel_rfl) (by kernel_rfl) (by kernel_rfl) (fun _ _ _ h => h) (Or.inl ⟨by rfl, fun w => by go_simp⟩) ?_
  go_simp
  refine wpAny_take (i := 3) (v := .pointer (some ⟨p, 3, none⟩)) rfl (by kernel_rfl) (by kernel_rfl) (by kernel_rfl) (fun _ _ _ h => h) (Or.inl ⟨by rfl, fun w => by go_simp⟩) ?_
  go_simp
  refine wpAny_diamond (i := 4) (j := 5) (l := 6) (di := 58) (dj := 59) (dl := 60) (vi := .slice A d.oper.more.length c) (vj := .agg (wrCells (k, bl s, (look d.oper.now (k : Int)).getD zz, (look d.oper.now (k : Int)).isSome)).toArray) (vl := .slice (some ⟨X.drew.heap.size, 0, none⟩) 1 1) (w2 := X.drew.alloc (.cells (wrCells (k, bl s, (look d.oper.now (k : Int)).getD zz, (look d.oper.now (k : Int)).isSome)).toArray 80))
    (by kernel_rfl) (by kernel_rfl) (by kernel_rfl) (by kernel_rfl) (by kernel_rfl) (by decide) (by decide) rfl rfl rfl rfl rfl rfl rfl rfl rfl (by decide) (by decide) (exec_load59 _ rfl p 3 rfl _ _ _ g3) (exec_load59 _ rfl p 3 rfl _ _ _ g3) (exec_load59 _ rfl p 3 rfl _ _ _ ((World.cell?_of_block (a := ⟨p, 3, none⟩) (Below.heap_alloc _ _ _ hpX)).trans g3))
    (exec_load70 _ rfl w3.heap.size rfl _ HXB.out (by rw [List.size_toArray, HLX.out])) (exec_load70 _ rfl w3.heap.size rfl _ HXB.out (by rw [List.size_toArray, HLX.out])) (exec_one70 _ _ rfl rfl (by rw [List.size_toArray, HLX.out])) (exec_one70 _ _ rfl rfl (by rw [List.size_toArray, HLX.out])) ?_
  have hown6 := HX.out.2.2.1
  have hlow6 := HX.out.2.2.2.2.2.2
  have hnew6 : Blk (X.drew.alloc (.cells (wrCells (k, bl s, (look d.oper.now (k : Int)).getD zz, (look d.oper.now (k : Int)).isSome)).toArray 80)) X.drew.heap.size 80 (wrCells (k, bl s, (look d.oper.now (k : Int)).getD zz, (look d.oper.now (k : Int)).isSome)).toArray := Blk.new _ _ _
  have hown6' : (X.drew.alloc (.cells (wrCells (k, bl s, (look d.oper.now (k : Int)).getD zz, (look d.oper.now (k : Int)).isSome)).toArray 80)).ownsRow 0 80 66 (.slice A d.oper.more.length c) d.oper.more.length (wrRow (unOf d.oper.base d.oper.more)) :=
    own_of_block (w := X) hown6 (fun j hj => Below.heap_alloc X.drew _ j (own_lt hown6 j hj))
  have hml : d.oper.more.length < 100000 := by rw [(oper_rest d).2.1]; have := HMO.out; have := HMM.out; omega
  obtain ⟨i0, hi, hz0, hz1, hz2⟩ := info_parts info70
  refine wpAny_one (i := 7) (by kernel_rfl) rfl rfl ?_
  refine wp_append_at (.tmp 58) (.tmp 60) 72 rfl 0 80 i0 _ 66 80 Tryd.underlying72 hi hz0 hz1 hz2 (by simp [Value.cells, wrCells_len, zz_length]) (by decide) _ _ _ rfl hown6' ⟨X.drew.heap.size, 0, none⟩ 1 1 (wrCells (k, bl s, (look d.oper.now (k : Int)).getD zz, (look d.oper.now (k : Int)).isSome)) rfl (by rw [HLX.out]) ?_ (wrCells_one _) (by unfold maxLen; omega) (by omega) (Nat.zero_le _) ?_
  · intro j u hu
    rw [addr_add, Nat.zero_add, hnew6.cell j]
    simpa using hu
  intro v7 w7 hown7 hgr7 hblk7
  obtain ⟨A7, c7, rfl⟩ := own_form hown7
  have hne := HX.out.ne
  have hsz6 : (X.drew.alloc (.cells (wrCells (k, bl s, (look d.oper.now (k : Int)).getD zz, (look d.oper.now (k : Int)).isSome)).toArray 80)).heap.size = X.heap.size + 1 := by simp
  have hkeep7 : ∀ j, j < X.heap.size → (Value.slice A d.oper.more.length c).ownBlock ≠ some j → w7.heap[j]? = X.heap[j]? := fun j hj hn =>
    (hgr7.block j (by rw [hsz6]; omega) (fun e => hn e.symm)).trans (Below.heap_alloc X.drew _ j hj)
  have hm3X := HX.out.2.1.lt
  have hP7 : w7.heap[p]? = X.heap[p]? := hkeep7 p hpX (fun e => (hne.2 _ e).1 rfl)
  have hM7 : w7.heap[m3]? = X.heap[m3]? := hkeep7 m3 hm3X (fun e => (hne.2 _ e).2 rfl)
  have hvb : ∀ j, (Value.slice A d.oper.more.length c).ownBlock = some j → j < w3.heap.size := fun j hj => HD3.out.low j (HX.out.2.2.2.2.2.1 j hj)
  have hS7 : w7.heap[w3.heap.size]? = X.heap[w3.heap.size]? := hkeep7 _ (by rw [HXS.out]; omega) (fun e => by have := hvb _ e; omega)
  have HBut7 : Hid (But own3 w3 w7) := by
    refine ((But.of_below (S := own3) HXW.out).drew.alloc _).grown hgr7 (fun j hj => .inl (HX.out.2.2.2.2.2.1 j hj))
  have hblk7' : ∀ j, (Value.slice A7 (d.oper.more.length + 1) c7).ownBlock = some j → own3 j ∨ w3.heap.size ≤ j := by
    intro j hj
    rcases hblk7 with e | e
    · exact .inl (HX.out.2.2.2.2.2.1 j (e.symm.trans hj))
    · rw [hj] at e
      injection e with e
      right
      have := HXS.out
      have e2 : X.drew.alloc (.cells (wrCells (k, bl s, (look d.oper.now (k : Int)).getD zz, (look d.oper.now (k : Int)).isSome)).toArray 80) = X.drew.alloc (.cells (wrCells (k, bl s, (look d.oper.now (k : Int)).getD zz, (look d.oper.now (k : Int)).isSome)).toArray 80) := rfl
      omega
  have hlt7 : ∀ j, (Value.slice A7 (d.oper.more.length + 1) c7).ownBlock = some j → j < w7.heap.size := own_lt hown7
  have hpne7 : ∀ j, (Value.slice A7 (d.oper.more.length + 1) c7).ownBlock = some j → j ≠ p ∧ j ≠ m3 := by
    intro j hj
    rcases hblk7 with e | e
    · exact hne.2 j (e.symm.trans hj)
    · rw [hj] at e
      injection e with e
      exact ⟨by omega, by omega⟩
  have HP7 : Hid (Blk w7 p 74 #[.int .i64 (d.oper.n : Int), .int .i64 d.oper.room, .map (some m3), .slice A d.oper.more.length c, .bool d.oper.on, .int .i64 d.oper.fuse]) := HX.out.1.of_block hP7
  have HM7 : Hid (MapIs w7 m3 d.oper.now) := HX.out.2.1.of_block hM7
  have HS7 : Hid (Blk w7 w3.heap.size 80 (wrCells (k, bl s, (look d.oper.now (k : Int)).getD zz, (look d.oper.now (k : Int)).isSome)).toArray) := HXB.out.of_block hS7
  have HO7 := Lib.hid hown7
  have HBL := Lib.hid hblk7'
  have HLT := Lib.hid hlt7
  have HPN := Lib.hid hpne7
  have HNE := Lib.hid hne
  have HSZ : Hid (w3.heap.size ≤ w7.heap.size) := HBut7.out.size
  have k3 := HP7.out.cell 3
  have fr3 := HP7.out.frozen 3
  have hp7 := HP7.out.lt
  clear hS7 hM7 hP7 hkeep7 hgr7 hblk7 hown7 hown6 hown6' hnew6 hblk7' hlt7 hpne7 hne hsz6 hlow6 g0 g1 g2 g3 g4 g5 hf3 hi hz0 hz1 hz2 hvb hml
  go_simp
  refine wpAny_one (i := 8) (by kernel_rfl) rfl rfl ?_
  go_simp
  refine wpAny_one (i := 9) (by kernel_rfl) rfl rfl ?_
  go_simp
  refine wpAny_one (i := 10) (by kernel_rfl) rfl rfl ?_
  go_simp
  refine ⟨by kernel_rfl, ?_⟩
  go_wp2_with fail
  have HP8 : Hid (Blk (w7.setCell ⟨p, 3, none⟩ (.slice A7 (d.oper.more.length + 1) c7)) p 74 #[.int .i64 (d.oper.n : Int), .int .i64 d.oper.room, .map (some m3), .slice A7 (d.oper.more.length + 1) c7, .bool d.oper.on, .int .i64 d.oper.fuse]) := HP7.out.set_ 3 _
  have HM8 : Hid (MapIs (w7.setCell ⟨p, 3, none⟩ (.slice A7 (d.oper.more.length + 1) c7)) m3 d.oper.now) := HM7.out.of_block (set_other _ _ _ _ _ (fun e => HNE.out.1 e.symm))
  have HS8 : Hid (Blk (w7.setCell ⟨p, 3, none⟩ (.slice A7 (d.oper.more.length + 1) c7)) w3.heap.size 80 (wrCells (k, bl s, (look d.oper.now (k : Int)).getD zz, (look d.oper.now (k : Int)).isSome)).toArray) := HS7.out.of_block (set_other _ _ _ _ _ (by omega))
  have HO8 : Hid ((w7.setCell ⟨p, 3, none⟩ (.slice A7 (d.oper.more.length + 1) c7)).ownsRow 0 80 66 (.slice A7 (d.oper.more.length + 1) c7) (d.oper.more.length + 1) (wrRow (unOf d.oper.base d.oper.more) ++ wrCells (k, bl s, (look d.oper.now (k : Int)).getD zz, (look d.oper.now (k : Int)).isSome))) :=
    own_of_block HO7.out (fun j hj => set_other _ _ _ _ _ (HPN.out j hj).1)
  have HBut8 : Hid (But own3 w3 (w7.setCell ⟨p, 3, none⟩ (.slice A7 (d.oper.more.length + 1) c7))) := HBut7.out.setCell _ _ (.inl H31.out.2.2.2.1)
  have HSZ8 : Hid ((w7.setCell ⟨p, 3, none⟩ (.slice A7 (d.oper.more.length + 1) c7)).heap.size = w7.heap.size) := by unfold Hid; simp [size_set]
  generalize hw8 : w7.setCell ⟨p, 3, none⟩ (.slice A7 (d.oper.more.length + 1) c7) = w8 at *
  clear hw8 k3 fr3
  have q2 := HP8.out.cell 2
  have hp8 := HP8.out.lt
  have hRow := rowOf (k, bl s, (look d.oper.now (k : Int)).getD zz, (look d.oper.now (k : Int)).isSome) (by rw [bl_len, HS.out]) HLB.out
  have HRow := Lib.hid hRow
  have hlb : (Lib.byteCells (bl s)).length = 32 := by rw [Lib.byteCells_length, bl_len, HS.out]
  have HLb := Lib.hid hlb
  clear hRow hlb
  refine wp_region_still_w 7 (by kernel_rfl) (by kernel_rfl) ?_
  simp only [List.take_succ_cons, List.take_zero, List.drop_succ_cons, List.drop_zero]
  iterate 6 still_step
  refine still_value rfl (exec_load_part _ _ rfl w3.heap.size 1 rfl _ _ (Lib.byteCells (bl s)) _ _ HS8.out Tryd.underlying77 rfl (by rw [info67, HLb.out]) HRow.out.data) ?_
  refine wpStill_nil ?_
  have hnl : d.oper.now.length = d.n := by rw [d.oper.now_length, oper_n]
  have hkn : k < d.oper.now.length := by rw [hnl]; have := HK.out; omega
  have hnl2 : d.oper.now.length ≤ 1024 := by rw [hnl]; exact HN.out
  have HNL := Lib.hid hnl
  have HKN := Lib.hid hkn
  have HNL2 := Lib.hid hnl2
  clear hnl hkn hnl2
  refine wpList_store_dk (w := w8.drew) rfl _ _ _ rfl rfl HM8.out k rfl (bl s) rfl HKN.out HNL2.out ?_
  intro w9 hm9 ht9
  have HM9 := Lib.hid hm9
  have HT9 := Lib.hid (turned_but ht9)
  clear hm9 ht9
  go_wp2_with fail
  go_ret
  have hb9 : ∀ j, j < w8.heap.size → j ≠ m3 → w9.heap[j]? = w8.heap[j]? := fun j hj hn => HT9.out.block j hj hn
  have hm38 : m3 < w8.heap.size := HM8.out.lt
  refine ⟨rfl, fun j => own3 j ∨ (Value.slice A7 (d.oper.more.length + 1) c7).ownBlock = some j, ⟨?_, m3, .slice A7 (d.oper.more.length + 1) c7, ?_⟩, ?_, ?_⟩
  · refine { H30.out with more1 := ?_, at1 := ?_ }
    · simp
      have := HMO.out
      omega
    · intro x hx
      simp only [List.mem_append, List.mem_singleton] at hx
      rcases hx with hx | rfl
      · exact H30.out.at1 x (by rw [(oper_rest d).2.1]; exact hx)
      · refine ⟨?_, by show (bl s).length = 32; rw [bl_len, HS.out]⟩
        show k < d.oper.n
        rw [oper_n]
        have := HK.out
        omega
  · have hd : ({ d.oper with more := d.more ++ [((k : Int).toNat, bl s)] } : DD).now = put d.oper.now k (bl s) := by
      show play d.oper.base (d.more ++ [((k : Int).toNat, bl s)]) = _
      rw [play_snoc, ← (oper_rest d).2.1]
      rfl
    refine ⟨?_, by rw [hd]; exact HM9.out, ?_, .inl HX.out.2.2.2.1, .inl HX.out.2.2.2.2.1, fun j hj => .inr hj, ?_⟩
    · exact HP8.out.of_block (hb9 p hp8 HNE.out.1)
    · have e1 : (d.more ++ [((k : Int).toNat, bl s)]).length = d.oper.more.length + 1 := by rw [(oper_rest d).2.1]; simp
      have e2 : wrRow (unOf d.oper.base (d.more ++ [((k : Int).toNat, bl s)])) = wrRow (unOf d.oper.base d.oper.more) ++ wrCells (k, bl s, (look d.oper.now (k : Int)).getD zz, (look d.oper.now (k : Int)).isSome) := by
        rw [Int.toNat_natCast, unOf_snoc, wrRow_snoc, (oper_rest d).2.1, oper_now]
        rw [show play d.oper.base d.more = d.now from by rw [(oper_rest d).1]; rfl]
      show w9.ownsRow 0 _ 66 _ (d.more ++ [((k : Int).toNat, bl s)]).length (wrRow (unOf d.oper.base (d.more ++ [((k : Int).toNat, bl s)])))
      rw [e1, e2]
      exact own_of_block HO8.out (fun j hj => hb9 j (by rw [HSZ8.out]; exact HLT.out j hj) (HPN.out j hj).2)
    · intro j hj
      have h9 := HT9.out.size
      have h8 := HBut8.out.size
      have e9 : w8.drew.heap.size = w8.heap.size := rfl
      rcases hj with hj | hj
      · have := HD3.out.low j hj
        omega
      · have := HLT.out j hj
        have := HSZ8.out
        omega
  · have t1 : But own w w2 := But.of_below HB2.out
    have t2 : But own w w3 := t1.trans HB3.out (fun _ h => .inl h)
    refine (t2.trans HBut8.out ?_).drew.trans HT9.out ?_
    · intro j hj
      rcases HG3.out j hj with h | h
      · exact .inl h
      · exact .inr (Nat.le_trans HB2.out.size h)
    · intro j hj
      subst hj
      rcases HG3.out _ HX.out.2.2.2.2.1 with h | h
      · exact .inl h
      · exact .inr (Nat.le_trans HB2.out.size h)
  · intro j hj
    have hj2 : own3 j ∨ w3.heap.size ≤ j := by
      rcases hj with hj | hj
      · exact .inl hj
      · exact HBL.out j hj
    have s2 := HB2.out.size
    have s3 := HB3.out.size
    rcases hj2 with hj2 | hj2
    · rcases HG3.out j hj2 with h | h
      · exact .inl h
      · exact .inr (by omega)
    · exact .inr (by omega)
end
end Go.Proofs.YtjllpbckmioiiaaDoor.dk

/- Write and Flush of package disk, whatever comes. -/
namespace Go.Proofs.YtjllpbckmioiiaaDoor.dk
open Go Go.RowKit
set_option maxRecDepth 100000

section
variable {w : World} {p m : Nat} {v : Value} {d : DD} {own : Nat → Prop}

theorem write_any {most : Nat} (h : DkIs most w own p d) (hm : d.more.length < most) (hmost : most ≤ 100000) (k : Int) (s : ByteArray) :
    Calls Tryd.prog 54 #[.pointer (some ⟨p, 0, none⟩), .int .i64 k, .string s] w (DkPost most own p (d.write k (bl s)).2 (.int .i64 (d.write k (bl s)).1) w) := by
  unfold DD.write
  by_cases h1 : d.on = false
  · rw [if_pos h1]
    exact write_off h h1 k s
  · rw [if_neg h1]
    have h1' : d.on = true := by simpa using h1
    by_cases h2 : d.has k = false
    · rw [if_pos (.inl h2)]
      exact write_not h h1' k h2 s
    · have h2' : d.has k = true := by simpa using h2
      by_cases h3 : s.size = 32
      · rw [if_neg (by rw [bl_len]; rintro (h | h); exact h2 h; exact h h3)]
        have hf := fits_one d k h2'
        by_cases h4 : (look d.now k).isSome = false ∧ d.room ≤ (d.used : Int)
        · rw [if_pos h4]
          refine write_full h h1' k h2' s h3 ?_
          rw [hf, h4.1, Bool.false_or]
          simp only [decide_eq_false_iff_not]
          omega
        · rw [if_neg h4]
          have hf' : d.fits [k] = true := by
            rw [hf]
            by_cases h5 : (look d.now k).isSome = true
            · rw [h5]; rfl
            · have h5' : (look d.now k).isSome = false := by simpa using h5
              rw [h5', Bool.false_or]
              simp only [decide_eq_true_eq]
              have : ¬ d.room ≤ (d.used : Int) := fun e => h4 ⟨h5', e⟩
              omega
          by_cases h5 : d.oper.on = false
          · rw [if_pos h5]
            exact write_gone h h1' k h2' s h3 hf' h5
          · rw [if_neg h5]
            exact write_done h hm hmost h1' k h2' s h3 hf' (by simpa using h5)
      · rw [if_pos (.inr (by rw [bl_len]; exact h3))]
        exact write_len h h1' k h2' s h3

theorem flush_any {most : Nat} (h : DkIs most w own p d) :
    Calls Tryd.prog 55 #[.pointer (some ⟨p, 0, none⟩)] w (DkPost most own p d.flush.2 (.int .i64 d.flush.1) w) := by
  unfold DD.flush
  by_cases hon : d.on = false
  · rw [if_pos hon]
    have H := Lib.hid h
    obtain ⟨h0, m, v, h1⟩ := h
    obtain ⟨c0, c1, c2, c3, c4, c5⟩ := blk6 h1.1
    rw [hon] at c4
    clear h0 h1 c0 c1 c2 c3 c5 hon
    go_enter Tryd.func55, Tryd.ntmps55
    go_wp2_with fail
    go_ret
    exact ⟨rfl, own, H.out, But.refl _ _, Grows.refl _ _⟩
  · rw [if_neg hon]
    have hon' : d.on = true := by simpa using hon
    have HO := Lib.hid (oper_any h hon')
    have H := Lib.hid h
    have hp := h.2.choose_spec.choose_spec.1.lt
    obtain ⟨h0, m, v, h1⟩ := h
    obtain ⟨c0, c1, c2, c3, c4, c5⟩ := blk6 h1.1
    rw [hon'] at c4
    clear h0 h1 c0 c1 c2 c3 c5 hon hon'
    by_cases hop : d.oper.on = false
    · rw [if_pos hop]
      rw [hop] at HO
      clear hop
      go_enter Tryd.func55, Tryd.ntmps55
      go_wp2_with (go_at_call 74; refine HO.out.mono ?_; rintro e w3 ⟨rfl, own3, hd3, hb3, hg3⟩; have HD3 := Lib.hid hd3; have HB3 := Lib.hid hb3; have HG3 := Lib.hid hg3; clear hd3 hb3 hg3)
      go_ret
      exact ⟨rfl, own3, HD3.out, HB3.out, HG3.out⟩
    · rw [if_neg hop]
      rw [show d.oper.on = true by simpa using hop] at HO
      clear hop
      go_enter Tryd.func55, Tryd.ntmps55
      go_wp2_with (go_at_call 74; refine HO.out.mono ?_)
      rintro e w3 ⟨rfl, own3, hd3, hb3, hg3⟩
      have HD3 := Lib.hid hd3
      have HB3 := Lib.hid hb3
      have HG3 := Lib.hid hg3
      obtain ⟨h30, m3, v3, h31⟩ := hd3
      have H30 := Lib.hid h30
      have H31 := Lib.hid h31
      obtain ⟨A, c, rfl⟩ := own_form h31.2.2.1
      obtain ⟨g0, g1, g2, g3, g4, g5⟩ := blk6 h31.1
      have f3 := h31.1.frozen 3
      have hp3 := h31.1.lt
      clear hb3 hg3 c4 h30 h31 HO
      go_wp2_with fail
      go_ret
      have hne := H31.out.ne
      refine ⟨rfl, own3, ⟨?_, m3, .slice none 0 0, ?_⟩, HB3.out.trans (S' := own3) ((But.refl _ _).setCell _ _ (.inl H31.out.2.2.2.1)) HG3.out, HG3.out⟩
      · have hl : d.now.length = d.oper.n := by rw [← oper_now]; exact d.oper.now_length
        refine { H30.out with n0 := ?_, n1 := ?_, more1 := Nat.zero_le _, at1 := fun _ h => by simp at h, base1 := ?_ }
        · show 1 ≤ d.now.length
          rw [hl]
          exact H30.out.n0
        · show d.now.length ≤ 1024
          rw [hl]
          exact H30.out.n1
        · show ∀ v, some v ∈ d.now → v.length = 32
          rw [← oper_now]
          exact H30.out.now1
      · obtain ⟨b1, b2, b3, b4, b5, b6, b7⟩ := H31.out
        refine ⟨?_, ?_, ⟨rfl, .inl ⟨rfl, rfl⟩⟩, b4, b5, fun k hk => by simp [Value.ownBlock] at hk, fun k hk => by rw [size_set]; exact b7 k hk⟩
        · have hl : (DD.n { d.oper with base := d.now, more := [] }) = d.oper.n := by
            show d.now.length = d.oper.n
            rw [← oper_now]
            exact d.oper.now_length
          rw [hl]
          exact b1.set_ 3 _
        · have hn : (DD.now { d.oper with base := d.now, more := [] }) = d.oper.now := by
            show d.now = d.oper.now
            rw [oper_now]
          rw [hn]
          exact b2.of_block (set_other _ _ _ _ _ (fun e => hne.1 e.symm))
end
end Go.Proofs.YtjllpbckmioiiaaDoor.dk


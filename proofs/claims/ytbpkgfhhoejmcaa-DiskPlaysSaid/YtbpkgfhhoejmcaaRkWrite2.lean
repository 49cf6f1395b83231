/- What Write of the document's disk does, where it is done. -/
import Derived.Test.YtbpkgfhhoejmcaaRkWrite
import Derived.Test.YtbpkgfhhoejmcaaDkWrite2
namespace Go.Proofs.Ytbpkgfhhoejmcaa.dk
open Go Go.RowKit

theorem infoW : (Try.prog.info? 73).map (fun i => (i.zero, i.size, i.bytes)) = some (some (.agg #[.int .i64 0, .string ByteArray.empty]), 2, 24) := by kernel_rfl
theorem sizeW : (Try.prog.info? 73).map (·.size) = some 2 := by kernel_rfl
theorem wCells_len (x : Nat × Bt) : (wCells x).length = 2 := rfl
theorem wCells_one (x : Nat × Bt) : ∀ u ∈ wCells x, u.oneCell' = true := by
  intro u hu
  simp [wCells] at hu
  rcases hu with rfl | rfl <;> rfl

theorem exec_oneW {ρ : Operand → Value} {o : Oper} {w : World} (x : Operand) (cs : Array Value) (ho : o.op = .buildSlice 47 1 #[(0, x)]) (hx : ρ x = .agg cs) (hs : cs.size = 2) :
    (execOp ρ o).run Try.prog w = .ok (.value (.slice (some ⟨w.heap.size, 0, none⟩) 1 1)) (w.alloc (.cells cs 73)) := by
  obtain ⟨i0, hi, hz0, hz1, hz2⟩ := info_parts infoW
  have hr := run_buildSlice (P := Try.prog) w 47 73 1 #[(0, .agg cs)] cs i0 _ Try.underlying47 hi hz0 (by rw [hz1]; decide) (by rw [hz1]; decide) (by
    rw [hz1]
    exact fill_one 2 cs _ hs (by simp))
  simp [execOp, ho, hx, hr, Result.andThen]

theorem exec_loadW {ρ : Operand → Value} {o : Oper} {w : World} (x : Operand) (ho : o.op = .load 73 x) (g : Nat) (hx : ρ x = .pointer (some ⟨g, 0, none⟩)) (cs : Array Value) (hg : Blk w g 73 cs) (hs : cs.size = 2) :
    (execOp ρ o).run Try.prog w = .ok (.value (.agg cs)) w := by
  have := exec_load_part (P := Try.prog) (w := w) 73 x ho g 0 hx 73 cs cs.toList (0, 0) _ hg Try.underlying73 rfl (by rw [sizeW]; simp [hs]) (fun j u hu => by rw [Nat.zero_add]; simpa using hu)
  simpa using this

theorem exec_loadSW {ρ : Operand → Value} {o : Oper} {w : World} (x : Operand) (ho : o.op = .load 47 x) (b i : Nat) (hx : ρ x = .pointer (some ⟨b, i, none⟩)) (A : Option Addr) (n c : Nat) (hc : w.cell? ⟨b, i, none⟩ = some (.slice A n c)) :
    (execOp ρ o).run Try.prog w = .ok (.value (.slice A n c)) w := by
  unfold execOp
  simp only [ho, hx]
  go_simp

section
variable {w : World} {own : Nat → Prop} {p gb cb gn cn : Nat} {v : Value} {d : DD}

set_option maxRecDepth 100000 in
set_option maxHeartbeats 1600000 in
/-- Behind the operation. -/
theorem rwrite_done {most : Nat} (h : RkIs most w own p d) (hm : d.more.length < most) (hmost : most ≤ 100000) (hon : d.on = true) (k : Nat) (hk : k < d.n) (t : Bt) (hs : t.length = 32) (h1 : (look d.now (k : Int)).isSome = true ∨ (d.used : Int) < d.room) (hop : d.oper.on = true) :
    Calls Try.prog 28 #[.pointer (some ⟨p, 0, none⟩), .int .i64 (k : Int), .string (str t)] w (RkPost most own p { d.oper with more := d.more ++ [(k, t)] } (.int .i64 0) w) := by
  have H := Lib.hid h
  have hlen : d.now.length = d.n := d.now_length
  have hsz : (((str t).size : Int) != 32) = false := by rw [bne_eq_false_iff_eq, str_size]; omega
  have HO := Lib.hid (fun (W : World) (hW : RkIs most W own p d) => roper_any hW hon)
  rw [hop] at HO
  obtain ⟨h0, gb, cb, gn, cn, v, hr⟩ := h
  have hc := hr.now.cell k (by omega)
  have he := sStr_some (look d.now (k : Int)) (fun u hu => h0.look1 hu)
  have i0 : (0 : Int) ≤ (k : Int) := by omega
  have i1 : (k : Int) < (d.n : Int) := by omega
  obtain ⟨c0, c1, c2, c3, c4, c5, c6, c7⟩ := blk8 hr.blk
  rw [hon] at c7
  have HS := Lib.hid hs
  have HK := Lib.hid hk
  have HMO := Lib.hid hm
  have HMM := Lib.hid hmost
  have HOP := Lib.hid hop
  have HN := Lib.hid h0.n1
  have hgd : ((look d.now (k : Int)).isSome = true ∧ (sStr (look d.now (k : Int))).toList.isEmpty = false) ∨ ((sStr (look d.now (k : Int))).toList.isEmpty = true ∧ (d.used : Int) < d.room ∧ decide (d.room ≤ (d.used : Int)) = false) := by
    by_cases hx : (look d.now (k : Int)).isSome = true
    · left
      rw [hx] at he
      exact ⟨hx, he⟩
    · right
      have hx' : (look d.now (k : Int)).isSome = false := by simpa using hx
      have hu : (d.used : Int) < d.room := by
        rcases h1 with h1 | h1
        · exact absurd h1 hx
        · exact h1
      rw [hx'] at he
      exact ⟨he, hu, by rw [decide_eq_false_iff_not]; omega⟩
  generalize sStr (look d.now (k : Int)) = S at *
  clear h0 hr c2 c5 c6 hon hs hlen hk hop hm hmost h1 he
  go_enter Try.func28, Try.ntmps28
  go_wp2_with fail
  rcases hgd with ⟨_, he⟩ | ⟨he, hu, hu'⟩
  all_goals
    go_quiet (fail)
    go_wp2_with fail
    refine (HO.out (w.drewN nq) (H.out.keep (Nat.le_refl _) (fun _ _ => rfl))).mono ?_
    rintro e w3 ⟨rfl, own3, hd3, hb3, hg3⟩
    have HD3 := Lib.hid hd3
    have HB3 := Lib.hid hb3
    have HG3 := Lib.hid hg3
    obtain ⟨h30, gb3, cb3, gn3, cn3, v3, h31⟩ := hd3
    have H30 := Lib.hid h30
    have H31 := Lib.hid h31
    obtain ⟨A, c, hA⟩ := own_form h31.more
    clear h30 h31 hb3 hg3 HO H c0 c1 c3 c4 c7 hc
    go_wp2_with (refine wpList_skip rfl (exec_store_new w3 73 _ #[.int .i64 (k : Int), .string (str t)] (.tmp 7) (.tmp 52) rfl rfl rfl (by rw [sizeW]; rfl) rfl (by rfl)) ?_)
    have HX : Hid (RkAt (w3.alloc (.cells #[.int .i64 (k : Int), .string (str t)] 73)) own3 p gb3 cb3 gn3 cn3 v3 d.oper) := H31.out.keep (by simp) (fun j hj => Below.heap_alloc _ _ _ (H31.out.low j hj))
    have HXB : Hid (Blk (w3.alloc (.cells #[.int .i64 (k : Int), .string (str t)] 73)) w3.heap.size 73 #[.int .i64 (k : Int), .string (str t)]) := Blk.new _ _ _
    have HXW : Hid (Below w3.heap.size w3 (w3.alloc (.cells #[.int .i64 (k : Int), .string (str t)] 73))) := (Below.refl _ _).alloc (Nat.le_refl _) _
    have HXS : Hid ((w3.alloc (.cells #[.int .i64 (k : Int), .string (str t)] 73)).heap.size = w3.heap.size + 1) := by unfold Hid; simp
    generalize hX : w3.alloc (.cells #[.int .i64 (k : Int), .string (str t)] 73) = X at *
    clear hX
    subst hA
    obtain ⟨g0, g1, g2, g3, g4, g5, g6, g7⟩ := blk8 HX.out.blk
    have hf5 := HX.out.blk.frozen 5
    have hpX := HX.out.blk.lt
    clear g0 g1 g2 g3 g4 g6 g7
    try simp only [Act.put]
    refine wp_region_any (by kernel_rfl) ?_
    change wpAny _ _ _ _ _ _ _ (World.drew _)
    refine wpAny_take (i := 0) (v := .pointer (some ⟨p, 0, none⟩)) rfl (by kernel_rfl) (by kernel_rfl) (by kernel_rfl) (fun _ _ _ h => h) (Or.inl ⟨by rfl, fun w => by go_simp⟩) ?_
    go_simp
    refine wpAny_take (i := 1) (v := .pointer (some ⟨p, 0, none⟩)) rfl (by kernel_rfl) (by kernel_rfl) (by kernel_rfl) (fun _ _ _ h => h) (Or.inl ⟨by rfl, fun w => by go_simp⟩) ?_
    go_simp
    refine wpAny_take (i := 2) (v := .pointer (some ⟨p, 0, none⟩)) rfl (by kernel_rfl) (by kernel_rfl) (by kernel_rfl) (fun _ _ _ h => h) (Or.inl ⟨by rfl, fun w => by go_simp⟩) ?_
    go_simp
    refine wpAny_take (i := 3) (v := .pointer (some ⟨p, 5, none⟩)) rfl (by kernel_rfl) (by kernel_rfl) (by kernel_rfl) (fun _ _ _ h => h) (Or.inl ⟨by rfl, fun w => by go_simp⟩) ?_
    go_simp
    refine wpAny_diamond (i := 4) (j := 5) (l := 6) (di := 57) (dj := 58) (dl := 59) (vi := .slice A d.oper.more.length c) (vj := .agg #[.int .i64 (k : Int), .string (str t)]) (vl := .slice (some ⟨X.drew.heap.size, 0, none⟩) 1 1) (w2 := X.drew.alloc (.cells #[.int .i64 (k : Int), .string (str t)] 73))
      (by kernel_rfl) (by kernel_rfl) (by kernel_rfl) (by kernel_rfl) (by kernel_rfl) (by decide) (by decide) rfl rfl rfl rfl rfl rfl rfl rfl rfl (by decide) (by decide) (exec_loadSW _ rfl p 5 rfl _ _ _ g5) (exec_loadSW _ rfl p 5 rfl _ _ _ g5) (exec_loadSW _ rfl p 5 rfl _ _ _ ((World.cell?_of_block (a := ⟨p, 5, none⟩) (Below.heap_alloc _ _ _ hpX)).trans g5))
      (exec_loadW _ rfl w3.heap.size rfl _ HXB.out rfl) (exec_loadW _ rfl w3.heap.size rfl _ HXB.out rfl) (exec_oneW _ _ rfl rfl rfl) (exec_oneW _ _ rfl rfl rfl) ?_
    have hown6 := HX.out.more
    have hnew6 : Blk (X.drew.alloc (.cells #[.int .i64 (k : Int), .string (str t)] 73)) X.drew.heap.size 73 #[.int .i64 (k : Int), .string (str t)] := Blk.new _ _ _
    have hown6' : (X.drew.alloc (.cells #[.int .i64 (k : Int), .string (str t)] 73)).ownsRow 0 73 2 (.slice A d.oper.more.length c) d.oper.more.length (wRow d.oper.more) :=
      own_of_block (w := X) hown6 (fun j hj => Below.heap_alloc X.drew _ j (own_lt hown6 j hj))
    have hml : d.oper.more.length < 100000 := by rw [(oper_rest d).2.1]; have := HMO.out; have := HMM.out; omega
    obtain ⟨z0, hi, hz0, hz1, hz2⟩ := info_parts infoW
    refine wpAny_one (i := 7) (by kernel_rfl) rfl rfl ?_
    refine wp_append_at (.tmp 57) (.tmp 59) 47 rfl 0 73 z0 _ 2 24 Try.underlying47 hi hz0 hz1 hz2 rfl (by decide) _ _ _ rfl hown6' ⟨X.drew.heap.size, 0, none⟩ 1 1 (wCells (k, t)) rfl rfl ?_ (wCells_one _) (by unfold maxLen; omega) (by omega) (Nat.zero_le _) ?_
    · intro j u hu
      rw [addr_add, Nat.zero_add, hnew6.cell j]
      simpa [wCells] using hu
    intro v7 w7 hown7 hgr7 hblk7
    obtain ⟨A7, c7, rfl⟩ := own_form hown7
    have hsz6 : (X.drew.alloc (.cells #[.int .i64 (k : Int), .string (str t)] 73)).heap.size = X.heap.size + 1 := by simp
    have hkeep7 : ∀ j, j < X.heap.size → (Value.slice A d.oper.more.length c).ownBlock ≠ some j → w7.heap[j]? = X.heap[j]? := fun j hj hn =>
      (hgr7.block j (by rw [hsz6]; omega) (fun e => hn e.symm)).trans (Below.heap_alloc X.drew _ j hj)
    have hgbX := HX.out.base.lt
    have hgnX := HX.out.now.lt
    have HP7 : Hid (Blk w7 p 49 (put8 d.oper.n d.oper.room gb3 cb3 gn3 cn3 (cnt d.oper.now : Int) (.slice A d.oper.more.length c) d.oper.fuse d.oper.on)) := HX.out.blk.of_block (hkeep7 p hpX (fun e => HX.out.vp _ e rfl))
    have HB7 : Hid (StrsB w7 gb3 d.oper.base) := HX.out.base.of_block (hkeep7 gb3 hgbX (fun e => HX.out.vb _ e rfl))
    have HN7 : Hid (StrsB w7 gn3 d.oper.now) := HX.out.now.of_block (hkeep7 gn3 hgnX (fun e => HX.out.vn _ e rfl))
    have hvb : ∀ j, (Value.slice A d.oper.more.length c).ownBlock = some j → j < w3.heap.size := fun j hj => H31.out.low j (HX.out.om j hj)
    have HS7 : Hid (Blk w7 w3.heap.size 73 #[.int .i64 (k : Int), .string (str t)]) := HXB.out.of_block (hkeep7 _ (by rw [HXS.out]; omega) (fun e => by have := hvb _ e; omega))
    have HBut7 : Hid (But own3 w3 w7) := ((But.of_below (S := own3) HXW.out).drew.alloc _).grown hgr7 (fun j hj => .inl (HX.out.om j hj))
    have hblk7' : ∀ j, (Value.slice A7 (d.oper.more.length + 1) c7).ownBlock = some j → own3 j ∨ w3.heap.size ≤ j := by
      intro j hj
      rcases hblk7 with e | e
      · exact .inl (HX.out.om j (e.symm.trans hj))
      · rw [hj] at e
        injection e with e
        right
        have := HXS.out
        omega
    have hlt7 : ∀ j, (Value.slice A7 (d.oper.more.length + 1) c7).ownBlock = some j → j < w7.heap.size := own_lt hown7
    have HO7 := Lib.hid hown7
    have HBL := Lib.hid hblk7'
    have HLT := Lib.hid hlt7
    have HPN : Hid (∀ j, (Value.slice A7 (d.oper.more.length + 1) c7).ownBlock = some j → j ≠ p ∧ j ≠ gn3) := fun j hj => by
      obtain ⟨en, hN⟩ := HN7.out
      exact ⟨own_type hown7 HP7.out (by decide) j hj, own_type hown7 hN (by decide) j hj⟩
    have k5 := HP7.out.cell 5
    have fr5 := HP7.out.frozen 5
    have hp7 := HP7.out.lt
    clear hkeep7 hgr7 hblk7 hown7 hown6 hown6' hnew6 hblk7' hlt7 hsz6 g5 hf5 hi hz0 hz1 hz2 hvb hml hgbX hgnX
    go_simp
    refine wpAny_one (i := 8) (by kernel_rfl) rfl rfl ?_
    go_simp
    refine wpAny_one (i := 9) (by kernel_rfl) rfl rfl ?_
    go_simp
    refine wpAny_one (i := 10) (by kernel_rfl) rfl rfl ?_
    go_simp
    refine ⟨by kernel_rfl, ?_⟩
    have HP8 : Hid (Blk (w7.setCell ⟨p, 5, none⟩ (.slice A7 (d.oper.more.length + 1) c7)) p 49 (put8 d.oper.n d.oper.room gb3 cb3 gn3 cn3 (cnt d.oper.now : Int) (.slice A7 (d.oper.more.length + 1) c7) d.oper.fuse d.oper.on)) := HP7.out.set_ 5 _
    have HB8 : Hid (StrsB (w7.setCell ⟨p, 5, none⟩ (.slice A7 (d.oper.more.length + 1) c7)) gb3 d.oper.base) := HB7.out.of_block (set_other _ _ _ _ _ (fun e => HX.out.pb e.symm))
    have HN8 : Hid (StrsB (w7.setCell ⟨p, 5, none⟩ (.slice A7 (d.oper.more.length + 1) c7)) gn3 d.oper.now) := HN7.out.of_block (set_other _ _ _ _ _ (fun e => HX.out.pn e.symm))
    have HS8 : Hid (Blk (w7.setCell ⟨p, 5, none⟩ (.slice A7 (d.oper.more.length + 1) c7)) w3.heap.size 73 #[.int .i64 (k : Int), .string (str t)]) := HS7.out.of_block (set_other _ _ _ _ _ (fun e => by have := H31.out.low p H31.out.op; omega))
    have HO8 : Hid ((w7.setCell ⟨p, 5, none⟩ (.slice A7 (d.oper.more.length + 1) c7)).ownsRow 0 73 2 (.slice A7 (d.oper.more.length + 1) c7) (d.oper.more.length + 1) (wRow d.oper.more ++ wCells (k, t))) :=
      own_of_block HO7.out (fun j hj => set_other _ _ _ _ _ (HPN.out j hj).1)
    have HBut8 : Hid (But own3 w3 (w7.setCell ⟨p, 5, none⟩ (.slice A7 (d.oper.more.length + 1) c7))) := HBut7.out.setCell _ _ (.inl H31.out.op)
    have HSZ8 : Hid ((w7.setCell ⟨p, 5, none⟩ (.slice A7 (d.oper.more.length + 1) c7)).heap.size = w7.heap.size) := by unfold Hid; simp [size_set]
    clear k5 fr5 hp7
    have hkn : k < d.oper.n := by rw [oper_n]; exact HK.out
    have hln : d.oper.now.length = d.oper.n := d.oper.now_length
    have hn1 : d.oper.n ≤ 1024 := by rw [oper_n]; exact HN.out
    have HPut := Lib.hid (rput_any (w7.setCell ⟨p, 5, none⟩ (.slice A7 (d.oper.more.length + 1) c7)) d.oper.n d.oper.room p gb3 cb3 gn3 cn3 d.oper.now (.slice A7 (d.oper.more.length + 1) c7) d.oper.fuse d.oper.on HP8.out HN8.out k t HS.out hkn hln hn1 H30.out.now1)
    generalize hw8 : w7.setCell ⟨p, 5, none⟩ (.slice A7 (d.oper.more.length + 1) c7) = w8 at *
    clear hw8 hkn hln hn1
    go_wp2_with (first | (refine wpList_value rfl (exec_loadW (.tmp 7) rfl w3.heap.size rfl _ HS8.out rfl) ?_) | (go_at_call 42; refine HPut.out.mono ?_))
    rintro e w9 ⟨rfl, hp9, hs9, hb9⟩
    have HP9 := Lib.hid hp9
    have HS9 := Lib.hid hs9
    have HB9 := Lib.hid hb9
    clear hp9 hs9 hb9
    go_wp2_with fail
    go_ret
    have hnow : ({ d.oper with more := d.more ++ [(k, t)] } : DD).now = put d.oper.now k t := by
      show play d.oper.base (d.more ++ [(k, t)]) = _
      rw [play_snoc, ← (oper_rest d).2.1]
      rfl
    have h9 := HB9.out.size
    have h8 := HBut8.out.size
    have hb8 : ∀ j, j < w8.heap.size → j ≠ p → j ≠ gn3 → w9.heap[j]? = w8.heap[j]? := fun j hj h1 h2 => HB9.out.block j hj (fun e => by rcases e with e | e <;> contradiction)
    refine ⟨rfl, fun j => own3 j ∨ (Value.slice A7 (d.oper.more.length + 1) c7).ownBlock = some j, ⟨?_, gb3, cb3, gn3, cn3, .slice A7 (d.oper.more.length + 1) c7, ?_⟩, ?_, ?_⟩
    · refine { H30.out with more1 := ?_, at1 := ?_ }
      · simp
        have := HMO.out
        omega
      · intro x hx
        simp only [List.mem_append, List.mem_singleton] at hx
        rcases hx with hx | rfl
        · exact H30.out.at1 x (by rw [(oper_rest d).2.1]; exact hx)
        · refine ⟨?_, HS.out⟩
          show k < d.oper.n
          rw [oper_n]
          exact HK.out
    · refine ⟨?_, ?_, ?_, ?_, .inl HX.out.op, .inl HX.out.ob, .inl HX.out.on_, fun j hj => .inr hj, HX.out.bn, ?_⟩
      · have hu : ({ d.oper with more := d.more ++ [(k, t)] } : DD).used = cnt (put d.oper.now k t) := by unfold DD.used; rw [hnow]
        rw [hu]
        exact HP9.out
      · exact HB8.out.of_block (hb8 _ HB8.out.lt (fun e => HX.out.pb e.symm) HX.out.bn)
      · rw [hnow]
        exact HS9.out
      · have e1 : (d.more ++ [(k, t)]).length = d.oper.more.length + 1 := by rw [(oper_rest d).2.1]; simp
        show w9.ownsRow 0 _ 2 _ (d.more ++ [(k, t)]).length (wRow (d.more ++ [(k, t)]))
        rw [e1, wRow_snoc, ← (oper_rest d).2.1]
        exact own_of_block HO8.out (fun j hj => hb8 j (by rw [HSZ8.out]; exact HLT.out j hj) (HPN.out j hj).1 (HPN.out j hj).2)
      · intro j hj
        rcases hj with hj | hj
        · have := H31.out.low j hj
          omega
        · have := HLT.out j hj
          have := HSZ8.out
          omega
    · have t1 : But own w w3 := ((But.refl own w).drewN nq).trans HB3.out (fun _ h => .inl h)
      refine (t1.trans HBut8.out ?_).trans HB9.out ?_
      · intro j hj
        exact HG3.out j hj
      · intro j hj
        rcases hj with rfl | rfl
        · exact HG3.out _ HX.out.op
        · exact HG3.out _ HX.out.on_
    · intro j hj
      have s3 := HB3.out.size
      have hj2 : own3 j ∨ w3.heap.size ≤ j := by
        rcases hj with hj | hj
        · exact .inl hj
        · exact HBL.out j hj
      rcases hj2 with hj2 | hj2
      · exact HG3.out j hj2
      · exact .inr (Nat.le_trans s3 hj2)

theorem rwrite_any {most : Nat} (h : RkIs most w own p d) (hm : d.more.length < most) (hmost : most ≤ 100000) (k : Int) (s : ByteArray) :
    Calls Try.prog 28 #[.pointer (some ⟨p, 0, none⟩), .int .i64 k, .string s] w (RkPost most own p (d.write k (bl s)).2 (.int .i64 (d.write k (bl s)).1) w) := by
  unfold DD.write
  by_cases h1 : d.on = false
  · rw [if_pos h1]
    exact rwrite_off h h1 k s
  · rw [if_neg h1]
    have hon : d.on = true := by simpa using h1
    by_cases h2 : d.has k = false ∨ (bl s).length ≠ 32
    · rw [if_pos h2]
      exact rwrite_not h hon k s (by rwa [bl_len] at h2)
    · rw [if_neg h2]
      have hh : d.has k = true := by
        cases hx : d.has k with
        | true => rfl
        | false => exact absurd (.inl hx) h2
      have hl : (bl s).length = 32 := Decidable.byContradiction fun e => h2 (.inr e)
      have hk0 : 0 ≤ k ∧ k < (d.n : Int) := by simpa [DD.has] using hh
      obtain ⟨k, rfl⟩ : ∃ j : Nat, k = (j : Int) := ⟨k.toNat, by omega⟩
      have hkn : k < d.n := by omega
      by_cases h3 : (look d.now (k : Int)).isSome = false ∧ d.room ≤ (d.used : Int)
      · rw [if_pos h3]
        exact rwrite_full h hon k hkn s (by rw [← bl_len]; exact hl) h3.1 h3.2
      · rw [if_neg h3]
        have h4 : (look d.now (k : Int)).isSome = true ∨ (d.used : Int) < d.room := by
          cases hx : (look d.now (k : Int)).isSome with
          | true => exact .inl rfl
          | false => exact .inr (Decidable.byContradiction fun e => h3 ⟨hx, by omega⟩)
        by_cases h5 : d.oper.on = false
        · rw [if_pos h5]
          exact rwrite_gone h hon k hkn s (by rw [← bl_len]; exact hl) h4 h5
        · rw [if_neg h5]
          have h6 := rwrite_done h hm hmost hon k hkn (bl s) hl h4 (by simpa using h5)
          rw [str_bl] at h6
          rw [Int.toNat_natCast]
          exact h6
end
end Go.Proofs.Ytbpkgfhhoejmcaa.dk

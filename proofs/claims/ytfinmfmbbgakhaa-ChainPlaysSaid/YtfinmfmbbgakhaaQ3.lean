/- RcLast, RcMay, PgMay. -/
import Derived.Test.YtfinmfmbbgakhaaQ2
/- The document's last guid; whether a snapshot may be made. -/
namespace Go.Proofs.Ytfinmfmbbgakhaa.ch
open Go Go.RowKit Go.Sort Go.Proofs.Ytfinmfmbbgakhaa.ib
set_option maxRecDepth 100000

theorem blk2 {w : World} {p : Nat} {t : TypeId} {a b : Value} (k : Blk w p t #[a, b]) : w.cell? ⟨p, 0, none⟩ = some a ∧ w.cell? ⟨p, 1, none⟩ = some b := ⟨k.cell 0, k.cell 1⟩

set_option maxHeartbeats 1600000 in
theorem rlast_any {own : Nat → Prop} {w : World} {p : Nat} {d : CH} (h : RcIs own w p d) : Calls Try.prog 58 #[.pointer (some ⟨p, 0, none⟩)] w fun e w' => e = .returned (gv d.last) ∧ Below w.heap.size w w' := by
  obtain ⟨h0, gn, cn, v, xs, hr⟩ := h
  obtain ⟨c0, c1⟩ := blk2 hr.blk
  have hplt := hr.blk.lt
  obtain ⟨A, c, rfl, _, _, _, hx⟩ := row_view hr.row
  have h20 : xs.length ≤ 20 := by have := h0.few; rw [hr.len]; exact this
  have HL1 := Lib.hid (hr.last_none)
  have HL2 := Lib.hid (hr.last_some)
  clear hr h0 c0
  by_cases hz : xs.length = 0
  · have hl := (HL1.out hz).1
    have HL := Lib.hid hl
    rw [hz] at c1
    clear HL1 HL2 hl hx
    go_enter Try.func58, Try.ntmps58
    go_wp2_with fail
    have q0 : (w.alloc (.cells #[.int .u64 0, .int .u64 0] 37)).cell? ⟨w.heap.size, 0, none⟩ = some (.int .u64 0) := (Blk.new w _ _).cell 0
    have q1 : (w.alloc (.cells #[.int .u64 0, .int .u64 0] 37)).cell? ⟨w.heap.size, 1, none⟩ = some (.int .u64 0) := (Blk.new w _ _).cell 1
    refine bodyPost_ret (v := gv (0, 0)) (by simp [results, Try.results58, go_sem, q0, q1, gv]) rfl ?_
    exact ⟨by rw [HL.out], (Below.refl w.heap.size w).alloc (Nat.le_refl _) _⟩
  · have hpos : 0 < xs.length := by omega
    have hl := (HL2.out hpos).1
    obtain ⟨k, hk⟩ : ∃ k, xs.length - 1 = k := ⟨_, rfl⟩
    have hkl : k < xs.length := by omega
    have hl2 : d.last = xs[k].1.g := by
      subst hk
      exact hl
    obtain ⟨g, rfl, hg, _, g0, g1, _, _⟩ := hx k hkl
    have HL := Lib.hid hl2
    have hw : IntKind.i64.wrap ((xs.length : Int) - 1) = (k : Int) := by rw [IntWalk.i64_in _ (by omega)]; omega
    have hki : (k : Int) < (xs.length : Int) := by omega
    have hnz : ((xs.length : Int) == 0) = false := beq_false_of_ne (by omega)
    have e0 : (w.alloc (.cells #[.int .u64 0, .int .u64 0] 37)).cell? ⟨g, k * 4, none⟩ = some (.int .u64 (xs[k].1.g.1 : Int)) := by rw [World.cell?_of_block (a := ⟨g, k * 4, none⟩) (Below.heap_alloc w _ _ hg)]; exact g0
    have e1 : (w.alloc (.cells #[.int .u64 0, .int .u64 0] 37)).cell? ⟨g, k * 4 + 1, none⟩ = some (.int .u64 (xs[k].1.g.2 : Int)) := by rw [World.cell?_of_block (a := ⟨g, k * 4 + 1, none⟩) (Below.heap_alloc w _ _ hg)]; exact g1
    clear HL1 HL2 hl hl2 hx hz hpos hk
    generalize xs[k].1.g = G at *
    go_enter Try.func58, Try.ntmps58
    go_wp2_with fail
    refine wp_region_still_w 13 (by kernel_rfl) (by kernel_rfl) ?_
    simp only [List.take_succ_cons, List.take_zero, List.drop_succ_cons, List.drop_zero]
    iterate 13 still_step
    refine wpStill_nil ?_
    go_wp2_with fail
    have q0 : (w.alloc (.cells #[.int .u64 (G.1 : Int), .int .u64 (G.2 : Int)] 37)).drew.cell? ⟨w.heap.size, 0, none⟩ = some (.int .u64 (G.1 : Int)) := (Blk.new w 37 #[.int .u64 (G.1 : Int), .int .u64 (G.2 : Int)]).cell 0
    have q1 : (w.alloc (.cells #[.int .u64 (G.1 : Int), .int .u64 (G.2 : Int)] 37)).drew.cell? ⟨w.heap.size, 1, none⟩ = some (.int .u64 (G.2 : Int)) := (Blk.new w 37 #[.int .u64 (G.1 : Int), .int .u64 (G.2 : Int)]).cell 1
    refine bodyPost_ret (v := gv G) (by simp [results, Try.results58, go_sem, q0, q1, gv]) rfl ?_
    exact ⟨by rw [HL.out], drewC ((Below.refl w.heap.size w).alloc (Nat.le_refl _) _) 1⟩
end Go.Proofs.Ytfinmfmbbgakhaa.ch

/- Whether a snapshot may be made. -/
namespace Go.Proofs.Ytfinmfmbbgakhaa.ch
open Go Go.RowKit Go.Sort Go.Proofs.Ytfinmfmbbgakhaa.ib
set_option maxRecDepth 100000

theorem rmixed : Try.prog.follows .mixedOrders = true := by kernel_rfl
theorem RcIs.below {own : Nat → Prop} {w w' : World} {p : Nat} {d : CH} (h : RcIs own w p d) (hb : Below w.heap.size w w') : RcIs own w' p d := h.keep (fun j hj => hb.block j (h.low j hj)) hb.size

set_option maxHeartbeats 1600000 in
theorem rmay_any {own : Nat → Prop} {w : World} {p : Nat} {d : CH} (h : RcIs own w p d) (g : Gd) : Calls Try.prog 51 #[.pointer (some ⟨p, 0, none⟩), gv g] w fun e w' => e = .returned (.int .i64 (d.may g)) ∧ Below w.heap.size w w' := by
  have hb0 := (Below.refl w.heap.size w).alloc (Nat.le_refl _) (.cells #[.int .u64 (g.1 : Int), .int .u64 (g.2 : Int)] 37)
  have HI := Lib.hid (h.below hb0)
  obtain ⟨W, hW⟩ : ∃ W, w.alloc (.cells #[.int .u64 (g.1 : Int), .int .u64 (g.2 : Int)] 37) = W := ⟨_, rfl⟩
  have q0 : W.cell? ⟨w.heap.size, 0, none⟩ = some (.int .u64 (g.1 : Int)) := by rw [← hW]; exact (Blk.new w _ _).cell 0
  have q1 : W.cell? ⟨w.heap.size, 1, none⟩ = some (.int .u64 (g.2 : Int)) := by rw [← hW]; exact (Blk.new w _ _).cell 1
  rw [hW] at HI hb0
  have HB := Lib.hid hb0
  have HW := Lib.hid hW
  have e0 : ∀ d os, (grow (redrawn W d) os).cell? ⟨w.heap.size, 0, none⟩ = some (.int .u64 (g.1 : Int)) := fun d os => cell_regrown q0 d os
  have e1 : ∀ d os, (grow (redrawn W d) os).cell? ⟨w.heap.size, 1, none⟩ = some (.int .u64 (g.2 : Int)) := fun d os => cell_regrown q1 d os
  have cL : ∀ b os, Calls Try.prog 58 #[.pointer (some ⟨p, 0, none⟩)] (grow (redrawn W b) os) fun e w'' => e = .returned (gv d.last) ∧ ∃ q : Regrown, w'' = grow (redrawn W q.d) q.os :=
    fun b os => Calls.regrown_of (rlast_any (HI.out.below (below_regrown W b os)))
  have cA : ∀ b os, Calls Try.prog 57 #[gv g, gv d.last] (grow (redrawn W b) os) fun e w'' => e = .returned (.bool (above g d.last)) ∧ ∃ q : Regrown, w'' = grow (redrawn W q.d) q.os :=
    fun b os => Calls.regrown_of (rabove_any g d.last _)
  obtain ⟨L, hL⟩ : ∃ L, gv d.last = L := ⟨_, rfl⟩
  rw [hL] at cL cA
  have HM : Hid (d.may g = if above g d.last then (if 20 ≤ d.snaps.length then 3 else 0) else 2) := rfl
  obtain ⟨m, hm⟩ : ∃ m, d.may g = m := ⟨_, rfl⟩
  rw [hm] at HM ⊢
  generalize above g d.last = q at *
  clear q0 q1 hW hb0 hL hm h
  unfold gv at cA ⊢
  go_enter Try.func51, Try.ntmps51
  go_wp2_with fail
  rw [HW.out]
  refine wp_region_quiet_below rmixed (by kernel_rfl) ?_
  repeat (any_goals (first | go_big_quiet_step (first | exact cL _ _ | exact cA _ _) | quiet_step (first | exact cL _ _ | exact cA _ _)))
  refine wpQuiet_nil ?_
  intro _ hw'
  obtain ⟨⟨dq, osq⟩, hw''⟩ := hw'
  subst hw''
  have HI2 := Lib.hid (HI.out.below (below_regrown W dq osq))
  have hb := below_regrown W dq osq
  have HB2 := Lib.hid (HB.out.trans (hb.mono HB.out.size))
  clear hb e0 e1 cL cA HI HB HW
  generalize grow (redrawn W dq) osq = W2 at *
  obtain ⟨h0, gn, cn, v, xs, hr⟩ := HI2.out
  obtain ⟨c0, c1⟩ := blk2 hr.blk
  obtain ⟨A, c, rfl, _, _, _, _⟩ := row_view hr.row
  have HLN := Lib.hid hr.len
  rw [← hr.len] at HM
  have h20 : xs.length ≤ 20 := by have := h0.few; rw [hr.len]; exact this
  clear hr HI2 c0 h0
  cases q with
  | false =>
    have HT : Hid (m = 2) := by unfold Hid; rw [HM.out]; rfl
    clear HM
    go_wp2_with fail
    go_ret
    exact ⟨by rw [HT.out]; rfl, HB2.out⟩
  | true =>
    by_cases hx : (20 : Int) ≤ (xs.length : Int)
    · have HT : Hid (m = 3) := by unfold Hid; rw [HM.out, if_pos rfl, if_pos (by omega)]
      clear HM
      go_wp2_with fail
      go_ret
      exact ⟨by rw [HT.out]; rfl, HB2.out⟩
    · have HT : Hid (m = 0) := by unfold Hid; rw [HM.out, if_pos rfl, if_neg (by omega)]
      clear HM
      go_wp2_with fail
      go_ret
      exact ⟨by rw [HT.out]; rfl, HB2.out⟩
end Go.Proofs.Ytfinmfmbbgakhaa.ch

/- Whether the program may put a snapshot. -/
namespace Go.Proofs.Ytfinmfmbbgakhaa.ch.pg
open Go Go.RowKit Go.Sort Go.Proofs.Ytfinmfmbbgakhaa.ib
set_option maxRecDepth 100000

theorem agg_true {t : TypeId} {d : TypeDesc} (h : Try.prog.underlying t = some d) (hd : (match d with | .struct _ | .array _ _ => true | _ => false) = true) (w : World) : (isAgg t).run Try.prog w = .ok true w := by
  unfold isAgg
  rw [Sem.run_bind, run_underlying h w]
  cases d <;> simp_all
theorem size_of {t : TypeId} {n : Nat} (h : (Try.prog.info? t).map (·.size) = some n) (w : World) : (sizeOf t).run Try.prog w = .ok n w := by
  cases hq : Try.prog.info? t with
  | none => simp [hq] at h
  | some i =>
    simp [hq] at h
    simp [sizeOf, typeInfo, hq, h]
theorem run_part {t : TypeId} {d : TypeDesc} {n : Nat} (h : Try.prog.underlying t = some d) (hd : (match d with | .struct _ | .array _ _ => true | _ => false) = true) (hn : (Try.prog.info? t).map (·.size) = some n)
    (cs xs : List Value) (o : Nat) (hx : (cs.drop o).take n = xs) (w : World) : (part t cs.toArray o).run Try.prog w = .ok (.agg xs.toArray) w := by
  have ha := agg_true h hd w
  have hz := size_of hn w
  have he : cs.toArray.extract o (o + n) = xs.toArray := by
    apply Array.ext'
    rw [Array.toList_extract, List.extract_eq_take_drop, Nat.add_sub_cancel_left]
    exact hx
  simp only [part, Sem.run_bind, ha, Result.andThen_ok, if_true, hz, Sem.run_pure, he]
theorem sizeGd : (Try.prog.info? 37).map (·.size) = some 2 := by kernel_rfl
theorem field_vol {n : Nat} (s : Sn) (h : volOk n s.bs) (h8 : n ≤ 8) (w : World) : (Instr.field 84 (.agg (sc s).toArray) 0).run Try.prog w = .ok (.agg (vc s.bs).toArray) w := by
  have hp := run_part (t := 69) Try.underlying69 rfl sizeVol (sc s) (vc s.bs) 0 (by
    unfold sc
    rw [List.drop_zero, List.take_left' (vc_len h h8)]) w
  simp [Instr.field, run_underlying Try.underlying84, Result.andThen, asAgg, hp]
theorem field_gd {n : Nat} (s : Sn) (h : volOk n s.bs) (h8 : n ≤ 8) (w : World) : (Instr.field 84 (.agg (sc s).toArray) 1).run Try.prog w = .ok (gv s.g) w := by
  have hp := run_part (t := 37) Try.underlying37 rfl sizeGd (sc s) [.int .u64 (s.g.1 : Int), .int .u64 (s.g.2 : Int)] 256 (by
    unfold sc
    rw [List.drop_left' (vc_len h h8)]
    rfl) w
  simp [Instr.field, run_underlying Try.underlying84, Result.andThen, asAgg, hp, gv]

set_option maxHeartbeats 1600000 in
theorem may_any {own : Nat → Prop} {w : World} {p : Nat} {d : CH} (h : Is0 own w p d) (g : Gd) : Calls Try.prog 45 #[.pointer (some ⟨p, 0, none⟩), gv g] w fun e w' => e = .returned (.int .i64 (d.may g)) ∧ Below w.heap.size w w' := by
  obtain ⟨h0, v, hr⟩ := h
  have hb0 := (Below.refl w.heap.size w).alloc (Nat.le_refl _) (.cells #[.int .u64 (g.1 : Int), .int .u64 (g.2 : Int)] 37)
  have hr1 := hr.below hb0
  obtain ⟨W, hW⟩ : ∃ W, w.alloc (.cells #[.int .u64 (g.1 : Int), .int .u64 (g.2 : Int)] 37) = W := ⟨_, rfl⟩
  have q0 : W.cell? ⟨w.heap.size, 0, none⟩ = some (.int .u64 (g.1 : Int)) := by rw [← hW]; exact (Blk.new w _ _).cell 0
  have q1 : W.cell? ⟨w.heap.size, 1, none⟩ = some (.int .u64 (g.2 : Int)) := by rw [← hW]; exact (Blk.new w _ _).cell 1
  rw [hW] at hr1 hb0
  have q2 := hr1.c2 h0
  have HB := Lib.hid hb0
  have HW := Lib.hid hW
  have HR := Lib.hid hr1
  have HH0 := Lib.hid h0
  have e0 : ∀ d os, (grow (redrawn W d) os).cell? ⟨w.heap.size, 0, none⟩ = some (.int .u64 (g.1 : Int)) := fun d os => cell_regrown q0 d os
  have e1 : ∀ d os, (grow (redrawn W d) os).cell? ⟨w.heap.size, 1, none⟩ = some (.int .u64 (g.2 : Int)) := fun d os => cell_regrown q1 d os
  have e2 : ∀ d os, (grow (redrawn W d) os).cell? ⟨p, 257, none⟩ = some v := fun d os => cell_regrown q2 d os
  have hfew := h0.few
  have cL : ∀ b os, Calls Try.prog 33 #[v] (grow (redrawn W b) os) fun e w'' => e = .returned (.agg (sc (lastS d.live.length d.snaps)).toArray) ∧ ∃ q : Regrown, w'' = grow (redrawn W q.d) q.os :=
    fun b os => Calls.regrown_of (last_any (HR.out.row.below (below_regrown W b os)) HH0.out.snaps HH0.out.n8 hfew)
  have cA : ∀ b os, Calls Try.prog 54 #[gv g, gv d.last] (grow (redrawn W b) os) fun e w'' => e = .returned (.bool (above g d.last)) ∧ ∃ q : Regrown, w'' = grow (redrawn W q.d) q.os :=
    fun b os => Calls.regrown_of (above_any g d.last _)
  have hfi := field_gd (lastS d.live.length d.snaps) (lastS_ok h0.snaps) h0.n8
  rw [lastS_g] at hfi
  obtain ⟨L, hL⟩ : ∃ L, gv d.last = L := ⟨_, rfl⟩
  obtain ⟨S, hS⟩ : ∃ S, (sc (lastS d.live.length d.snaps)).toArray = S := ⟨_, rfl⟩
  rw [hL] at cA hfi
  rw [hS] at cL hfi
  have HM : Hid (d.may g = if above g d.last then (if 20 ≤ d.snaps.length then 3 else 0) else 2) := rfl
  obtain ⟨m, hm⟩ : ∃ m, d.may g = m := ⟨_, rfl⟩
  rw [hm] at HM ⊢
  generalize above g d.last = q at *
  obtain ⟨A, c, rfl, hlc, _, _⟩ := srow_view hr1.row h0.snaps h0.n8
  clear q0 q1 q2 hW hb0 hL hm hr1 hr h0 hS
  unfold gv at cA ⊢
  go_enter Try.func45, Try.ntmps45
  go_wp2_with fail
  rw [HW.out]
  refine wp_region_quiet_below rmixed (by kernel_rfl) ?_
  repeat (any_goals (first | go_big_quiet_step (first | exact cL _ _ | exact cA _ _) | quiet_step (first | exact cL _ _ | exact cA _ _)))
  refine wpQuiet_nil ?_
  intro _ hw'
  obtain ⟨⟨dq, osq⟩, hw''⟩ := hw'
  subst hw''
  have c2 := e2 dq osq
  have hb := below_regrown W dq osq
  have HB2 := Lib.hid (HB.out.trans (hb.mono HB.out.size))
  clear hb e0 e1 e2 cL cA HR HB HW
  generalize grow (redrawn W dq) osq = W2 at *
  cases q with
  | false =>
    have HT : Hid (m = 2) := by unfold Hid; rw [HM.out]; rfl
    clear HM
    go_wp2_with fail
    go_ret
    exact ⟨by rw [HT.out]; rfl, HB2.out⟩
  | true =>
    by_cases hx : (20 : Int) ≤ (d.snaps.length : Int)
    · have HT : Hid (m = 3) := by unfold Hid; rw [HM.out, if_pos rfl, if_pos (by omega)]
      clear HM
      go_wp2_with fail
      go_ret
      exact ⟨by rw [HT.out]; rfl, HB2.out⟩
    · have HT : Hid (m = 0) := by unfold Hid; rw [HM.out, if_pos rfl, if_neg (by omega)]
      clear HM
      go_wp2_with fail
      go_ret
      exact ⟨by rw [HT.out]; rfl, HB2.out⟩
theorem nmay_any (g : Gd) (w : World) : Calls Try.prog 45 #[.pointer none, gv g] w (okErr 1 w) := by
  have HB := Lib.hid ((Below.refl w.heap.size w).alloc (Nat.le_refl _) (.cells #[.int .u64 (g.1 : Int), .int .u64 (g.2 : Int)] 37))
  unfold gv
  go_enter Try.func45, Try.ntmps45
  go_wp2_with fail
  go_ret
  exact ⟨rfl, HB.out⟩
end Go.Proofs.Ytfinmfmbbgakhaa.ch.pg


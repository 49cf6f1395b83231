/- JTwiceP, DkApp2, DkCopy, DkCopy2. -/
import Derived.Test.YtjllpbckmioiiaaDoorQ10
import Derived.Test.YtjllpbckmioiiaaDoorQ24
import Derived.Test.YtjllpbckmioiiaaDoorQ4
import Derived.Shelf.SlMaps.Clone
import Derived.Laws.Cover3
/- Three Commits, of which the power goes in the second one: plain data. -/
namespace Go.Proofs.YtjllpbckmioiiaaDoor.jr
open Go Go.RowKit Go.Proofs.YtjllpbckmioiiaaDoor.dk Go.Proofs.YtjllpbckmioiiaaDoor.wi
set_option maxRecDepth 100000

/-- At rest: what the calls on it ask. -/
def Rest (d : DD) : Prop := d.n = 200 ∧ d.more = []
theorem JJ.rest {tgt : Int → Bt} {d : DD} (h : JJ 200 tgt d) : Rest d := ⟨h.n, h.more⟩
theorem RJ.rest {tgt : Int → Bt} {d : DD} (h : RJ 200 tgt d) : Rest d := ⟨h.n, h.more⟩

/-- From the waking on. -/
def Back (t : Int → Bt) (C : List Wr) (d3 : DD) : Prop :=
  Rest d3 ∧ ∃ d4 d5 d6 d7, (jrecover d3 = (0, d4) ∧ Rest d4) ∧ (jrecover d4 = (0, d5) ∧ Rest d5) ∧ (jcommit d5 C = (ansJ 200 C, d6) ∧ Rest d6 ∧ d6.on = true) ∧ (jrecover d6 = (0, d7) ∧ d7.on = true ∧ keptB d7 = KB (aft t C))

theorem back_of {t : Int → Bt} {d3 : DD} (h : RJ 200 t d3) (hf : d3.fuse = 0) (C : List Wr) : Back t C d3 := by
  obtain ⟨d4, a1, a2, a3⟩ := recover_done h hf
  obtain ⟨d5, b1, b2, b3⟩ := recover_done a2.toRJ a3
  obtain ⟨d6, c1, c2, c3⟩ := commit_done b2 b3 C
  obtain ⟨d7, e1, e2, e3⟩ := recover_done c2.toRJ c3
  exact ⟨h.rest, d4, d5, d6, d7, ⟨a1, a2.rest⟩, ⟨b1, b2.rest⟩, ⟨c1, c2.rest, c2.on⟩, ⟨e1, e2.on, kept_is e2⟩⟩

theorem off_wake {t : Int → Bt} {d : DD} (h : JJ 200 t d) (bs : List Bool) : RJ 200 t (d.off.wake bs) ∧ (d.off.wake bs).fuse = 0 := by
  have e : d.off.wake bs = { d.off with base := play d.base (stay d.more bs), more := [], on := true } := rfl
  have hs : play d.base (stay d.more bs) = d.base := by rw [h.more]; cases bs <;> rfl
  rw [e, hs]
  exact ⟨⟨rfl, rfl, h.room, h.rb⟩, rfl⟩

theorem twice_pure {tgt : Int → Bt} {d : DD} (h : JJ 200 tgt d) (L C : List Wr) (f : Int) (h0 : 0 ≤ f) (bs : List Bool) :
    ∃ t, (t = tgt ∨ t = aft tgt L) ∧
      ((∃ r d2, jcommit (d.arm f) L = (r, d2) ∧ d2.on = true ∧ Back t C (d2.off.wake bs)) ∨
       (∃ d2, jcommit (d.arm f) L = (6, d2) ∧ d2.on = false ∧ Back t C (d2.wake bs))) := by
  have ha := h.arm f
  have hfu : 0 ≤ (d.arm f).fuse := by unfold DD.arm; dsimp only; omega
  by_cases hans : ansJ 200 L = 0
  · have e : aft tgt L = over tgt L := by unfold aft; rw [if_pos hans]
    rw [e]
    rcases commit_any (l := L) (by decide) (by decide) ha hfu hans with ⟨g1, g2, _, _⟩ | ⟨g1, ⟨g2, g3⟩, _, g5⟩
    · obtain ⟨k1, k2⟩ := off_wake g2 bs
      exact ⟨over tgt L, .inr rfl, .inl ⟨_, (jcommit (d.arm f) L).2, rfl, g2.on, back_of k1 k2 C⟩⟩
    · have hf2 : ((jcommit (d.arm f) L).2.wake bs).fuse = 0 := by rw [wake_fuse]; exact g5
      rcases g3 bs with k | k
      · exact ⟨tgt, .inl rfl, .inr ⟨(jcommit (d.arm f) L).2, by rw [← g1], g2, back_of k hf2 C⟩⟩
      · exact ⟨over tgt L, .inr rfl, .inr ⟨(jcommit (d.arm f) L).2, by rw [← g1], g2, back_of k hf2 C⟩⟩
  · have := commit_not (l := L) ha.on (.inl (by rw [ha.n]; exact hans))
    obtain ⟨k1, k2⟩ := off_wake ha bs
    exact ⟨tgt, .inl rfl, .inl ⟨_, d.arm f, this, ha.on, back_of k1 k2 C⟩⟩
end Go.Proofs.YtjllpbckmioiiaaDoor.jr

/- append of a whole slice, as an operation. -/
namespace Go.Proofs.YtjllpbckmioiiaaDoor.dk
open Go Go.RowKit

theorem exec_append2 {P : Program} {ρ : Operand → Value} {o : Oper} {w w' : World} {vx vy v' : Value} {t : TypeId} (x y : Operand) (ho : o.op = .call { callee := .builtin .append, args := #[x, y], argTypes := #[t, t] }) (ht : o.type = t) (hx : ρ x = vx) (hy : ρ y = vy)
    (hrun : (Builtin.append_ #[t, t] t #[vx, vy]).run P w = .ok v' w') : (execOp ρ o).run P w = .ok (.value v') w' := by
  simp [execOp, ho, resolve, invoke, builtin, hx, hy, ht, hrun, Result.andThen]

end Go.Proofs.YtjllpbckmioiiaaDoor.dk

/- What Copy of package disk does. -/
namespace Go.Proofs.YtjllpbckmioiiaaDoor.dk
open Go Go.RowKit
set_option maxRecDepth 100000

theorem MapIs.twin {w w' : World} {m n : Nat} {s : Sects} (h : MapIs w m s) : ∃ es clock, w.heap[m]? = some (.map es clock) ∧ ∀ (w' : World) (n : Nat), w'.heap[n]? = some (.map es clock) → MapIs w' n s := by
  obtain ⟨D, ⟨es, clock, h1, h2⟩, h3⟩ := h
  exact ⟨es, clock, h1, fun w' n hn => ⟨D, ⟨es, clock, hn, h2⟩, h3⟩⟩

theorem mclone_any (b : Nat) (es : Array MapEntry) (clock : Nat) (w : World) (hb : w.heap[b]? = some (.map es clock)) :
    Calls Tryd.prog 37 #[.map (some b)] w fun e w' => e = .returned (.map (some w.heap.size)) ∧ w' = w.alloc (.map es clock) := by
  have hq := fun w => run_eql_map_nil_sl (P := Tryd.prog) w 71 _ _ (some b) Tryd.underlying71
  go_enter Tryd.func37, Tryd.ntmps37
  go_wp2
  rw [run_callFunc_extern Tryd.func57 (by kernel_rfl) (by kernel_rfl) (by kernel_rfl) (e := Extern.MapsClone.clone) (by kernel_rfl), run_maps_clone_sl w 71 hb]
  simp only [Result.andThen]
  rw [Oper.upon_value]
  go_wp2
  rw [run_typeAssert_map_sl _ 71 _ _ _ _ Tryd.underlying71]
  simp only [Result.andThen]
  rw [Oper.upon_value]
  go_wp2
  go_ret
  exact ⟨rfl, rfl⟩

theorem exec_zero70 {ρ : Operand → Value} {o : Oper} {w : World} (ho : o.op = .buildSlice 72 0 #[]) :
    (execOp ρ o).run Tryd.prog w = .ok (.value (.slice (some ⟨w.heap.size, 0, none⟩) 0 0)) (w.alloc (.cells #[] 80)) := by
  unfold execOp
  rw [ho]
  go_simp

theorem eql_nil (w : World) (a : Option Addr) (n c : Nat) : (binOp .eql 72 (.slice a n c) (.slice none 0 0)).run Tryd.prog w = .ok (.bool a.isNone) w := by
  simp only [binOp]
  simp [run_equal_slice_nil _ _ _ _ _ _ Tryd.underlying72]

def SClonePost (n : Nat) (xs : List Value) (w : World) (e : Ending) (w' : World) : Prop := ∃ v', e = .returned v' ∧ w'.ownsRow w.heap.size 80 66 v' n xs ∧ Below w.heap.size w w'

set_option maxRecDepth 100000 in
theorem sclone_any (w : World) (v : Value) (n : Nat) (xs : List Value) (h : w.ownsRow 0 80 66 v n xs) (h1 : ∀ u ∈ xs, u.oneCell' = true) (hn : n ≤ 100000) :
    Calls Tryd.prog 38 #[v] w (SClonePost n xs w) := by
  have hown := h
  rcases h.2 with ⟨rfl, h0⟩ | ⟨g, cap, cur, rfl, hg, hh, hc, hm, hcs, hcur⟩
  · subst h0
    have hx : xs = [] := by have := h.1; simpa using this
    subst hx
    have hq := fun w => eql_nil w none 0 0
    clear hown h
    go_enter Tryd.func38, Tryd.ntmps38
    go_wp2_with fail
    go_ret
    exact ⟨_, rfl, World.ownsRow_nil _ _ _ _, Below.refl _ _⟩
  · obtain ⟨i0, hi, hz0, hz1, hz2⟩ := info_parts info70
    have hcell : ∀ (j : Nat) (u : Value), xs[j]? = some u → (w.alloc (.cells #[] 80)).cell? ((⟨g, 0, none⟩ : Addr).add j) = some u := by
      intro j u hu
      rw [addr_add, Nat.zero_add]
      have hj : j < xs.length := (List.getElem?_eq_some_iff.1 hu).1
      have := World.ownsRow.cellAt hown j (by rw [← hown.1]; exact hj)
      rw [World.cell?_of_block (a := ⟨g, j, none⟩) (Below.heap_alloc w _ g (Array.getElem?_eq_some_iff.1 hh).1), this]
      exact hu
    obtain ⟨v', w', hrun, h2, h3, _⟩ := run_append_own (P := Tryd.prog) (w.alloc (.cells #[] 80)) w.heap.size 72 72 80 i0 _ 66 80 Tryd.underlying72 hi hz0 hz1 hz2 (by simp [Value.cells, wrCells_len, zz_length]) (by decide) (.slice (some ⟨w.heap.size, 0, none⟩) 0 0) 0 [] (World.ownsRow_made w #[] 0 (Nat.le_refl _) (by decide) rfl) ⟨g, 0, none⟩ n cap xs h.1 hcell h1 (by unfold maxLen; omega) (by omega) (by simp)
    rw [Nat.zero_add, List.nil_append] at h2
    have HR := Lib.hid hrun
    have H2 := Lib.hid h2
    have H3 := Lib.hid h3
    clear hown h hcell h1 hrun h2 h3 hi hz0 hz1 hz2 hcs hcur hh
    have hq := fun w => eql_nil w (some ⟨g, 0, none⟩) n cap
    go_enter Tryd.func38, Tryd.ntmps38
    go_wp2_with (first | (refine wpList_value rfl (exec_zero70 rfl) ?_) | (refine wpList_value rfl (exec_append2 (.tmp 5) (.tmp 6) rfl rfl rfl rfl HR.out) ?_))
    go_ret
    refine ⟨_, rfl, H2.out, ?_⟩
    have hb : Below w.heap.size w (w.alloc (.cells #[] 80)) := (Below.refl _ _).alloc (Nat.le_refl _) _
    exact hb.grown H3.out hb.size (fun k hk => by simp [Value.ownBlock] at hk; omega)
end Go.Proofs.YtjllpbckmioiiaaDoor.dk

/- What Copy of package disk does: the walk. -/
namespace Go.Proofs.YtjllpbckmioiiaaDoor.dk
open Go Go.RowKit
set_option maxRecDepth 100000

theorem size61 : (Tryd.prog.info? 74).map (·.size) = some 6 := by kernel_rfl

def DkCopyPost (most : Nat) (d : DD) (w : World) (e : Ending) (w' : World) : Prop :=
  ∃ q own, e = .returned (.pointer (some ⟨q, 0, none⟩)) ∧ DkIs most w' own q d ∧ Below w.heap.size w w' ∧ ∀ k, own k → w.heap.size ≤ k

theorem unOf_at {s : Sects} : ∀ {l : List (Nat × Bt)}, (∀ v, some v ∈ s → v.length = 32) → (∀ x ∈ l, x.2.length = 32) → ∀ x ∈ unOf s l, x.2.1.length = 32 ∧ x.2.2.1.length = 32
  | [], _, _, x, hx => by simp [unOf] at hx
  | (k, v) :: r, hs, hl, x, hx => by
    simp only [unOf, List.mem_cons] at hx
    rcases hx with rfl | hx
    · refine ⟨hl (k, v) (by simp), ?_⟩
      show ((look s (k : Int)).getD zz).length = 32
      cases hq : look s (k : Int) with
      | none => exact zz_length
      | some u => exact hs u (look_mem hq)
    · refine unOf_at (s := put s k v) (fun u hu => ?_) (fun y hy => hl y (by simp [hy])) x hx
      rcases mem_set hu with h' | h'
      · exact hs u h'
      · injection h' with h'; subst h'; exact hl (k, v) (by simp)

section
variable {w : World} {own : Nat → Prop} {p : Nat} {d : DD}

set_option maxRecDepth 100000 in
set_option maxHeartbeats 1600000 in
theorem copy_any {most : Nat} (h : DkIs most w own p d) (hmost : most ≤ 100000) :
    Calls Tryd.prog 11 #[.pointer (some ⟨p, 0, none⟩)] w (DkCopyPost most d w) := by
  obtain ⟨h0, m, v, h1⟩ := h
  have H0 := Lib.hid h0
  have H1 := Lib.hid h1
  have hml : d.more.length ≤ 100000 := Nat.le_trans h0.more1 hmost
  have HML := Lib.hid hml
  have HON : Hid (∀ u ∈ wrRow (unOf d.base d.more), u.oneCell' = true) := by
    intro u hu
    simp only [wrRow, List.mem_flatMap] at hu
    obtain ⟨x, _, hu⟩ := hu
    exact wrCells_one x u hu
  obtain ⟨c0, c1, c2, c3, c4, c5⟩ := blk6 h1.1
  obtain ⟨V, cv, hA⟩ := own_form h1.2.2.1
  have hplt := h1.1.lt
  obtain ⟨es, clock, hm, hmk⟩ := h1.2.1.twin (w' := w) (n := 0)
  have HM := Lib.hid hm
  have HMK := Lib.hid hmk
  subst hA
  clear h0 h1 hmost hml hm hmk
  go_enter Tryd.func11, Tryd.ntmps11
  go_wp2_with (refine wpList_skip rfl (exec_store_new w 74 _ #[.int .i64 (d.n : Int), .int .i64 d.room, .map (some m), .slice V d.more.length cv, .bool d.on, .int .i64 d.fuse] (.tmp 3) (.tmp 8) rfl rfl rfl (by rw [size61]; rfl) rfl (by rfl)) ?_)
  have HP1 : Hid (Blk (w.alloc (.cells #[.int .i64 (d.n : Int), .int .i64 d.room, .map (some m), .slice V d.more.length cv, .bool d.on, .int .i64 d.fuse] 74)) w.heap.size 74 #[.int .i64 (d.n : Int), .int .i64 d.room, .map (some m), .slice V d.more.length cv, .bool d.on, .int .i64 d.fuse]) := Blk.new _ _ _
  have HB1 : Hid (Below w.heap.size w (w.alloc (.cells #[.int .i64 (d.n : Int), .int .i64 d.room, .map (some m), .slice V d.more.length cv, .bool d.on, .int .i64 d.fuse] 74))) := (Below.refl _ _).alloc (Nat.le_refl _) _
  generalize w.alloc (.cells #[.int .i64 (d.n : Int), .int .i64 d.room, .map (some m), .slice V d.more.length cv, .bool d.on, .int .i64 d.fuse] 74) = X1 at *
  clear c0 c1 c2 c3 c4 c5
  obtain ⟨q, hq⟩ : ∃ q, q = w.heap.size := ⟨_, rfl⟩
  rw [← hq] at HP1 ⊢
  have HQ := Lib.hid hq
  clear hq
  refine (mclone_any m es clock X1 ((HB1.out.block m (Array.getElem?_eq_some_iff.1 HM.out).1).trans HM.out)).mono ?_
  rintro e W2 ⟨rfl, rfl⟩
  have HP2 : Hid (Blk (X1.alloc (.map es clock)) q 74 #[.int .i64 (d.n : Int), .int .i64 d.room, .map (some m), .slice V d.more.length cv, .bool d.on, .int .i64 d.fuse]) := HP1.out.of_block (Below.heap_alloc _ _ _ HP1.out.lt)
  have HB2 : Hid (Below w.heap.size w (X1.alloc (.map es clock))) := HB1.out.alloc HB1.out.size _
  have HM2 : Hid (MapIs (X1.alloc (.map es clock)) X1.heap.size d.now) := HMK.out _ _ (heap_alloc_new _ _)
  have HQM : Hid (q < X1.heap.size) := HP1.out.lt
  obtain ⟨m2, hm2⟩ : ∃ x, x = X1.heap.size := ⟨_, rfl⟩
  rw [← hm2] at HM2 HQM ⊢
  have HML2 : Hid (m2 < (X1.alloc (.map es clock)).heap.size) := HM2.out.lt
  clear hm2
  generalize X1.alloc (.map es clock) = X2 at *
  obtain ⟨q0, q1, q2, q3, q4, q5⟩ := blk6 HP2.out
  have fq := HP2.out.frozen 2
  have hql := HP2.out.lt
  obtain ⟨s0, s1, s2, s3, s4, s5⟩ := blk6 (H1.out.keep HB2.out.size (fun k hk => HB2.out.block k (H1.out.2.2.2.2.2.2 k hk))).1
  have hpl : p < X2.heap.size := Nat.lt_of_lt_of_le hplt HB2.out.size
  have hpq : p < q := by rw [HQ.out]; exact hplt
  go_wp2_with fail
  have HP3 : Hid (Blk (X2.setCell ⟨q, 2, none⟩ (.map (some m2))) q 74 #[.int .i64 (d.n : Int), .int .i64 d.room, .map (some m2), .slice V d.more.length cv, .bool d.on, .int .i64 d.fuse]) := HP2.out.set_ 2 _
  have HB3 : Hid (Below w.heap.size w (X2.setCell ⟨q, 2, none⟩ (.map (some m2)))) := HB2.out.setCell (by rw [HQ.out]; exact Nat.le_refl _) _
  have HM3 : Hid (MapIs (X2.setCell ⟨q, 2, none⟩ (.map (some m2))) m2 d.now) := HM2.out.of_block (set_other _ _ _ _ _ (Nat.ne_of_gt HQM.out))
  generalize X2.setCell ⟨q, 2, none⟩ (.map (some m2)) = X3 at *
  clear q0 q1 q2 q3 q4 q5 fq hql s0 s1 s2 s3 s4 s5 hpl
  have hown3 : X3.ownsRow 0 80 66 (.slice V d.more.length cv) d.more.length (wrRow (unOf d.base d.more)) := (H1.out.keep HB3.out.size (fun k hk => HB3.out.block k (H1.out.2.2.2.2.2.2 k hk))).2.2.1
  refine (sclone_any X3 _ _ _ hown3 HON.out HML.out).mono ?_
  rintro e W4 ⟨v4, rfl, ho4, hb4⟩
  obtain ⟨A4, c4, rfl⟩ := own_form ho4
  have HO4 := Lib.hid ho4
  have HB4 := Lib.hid hb4
  clear hown3 ho4 hb4
  have HP4 : Hid (Blk W4 q 74 #[.int .i64 (d.n : Int), .int .i64 d.room, .map (some m2), .slice V d.more.length cv, .bool d.on, .int .i64 d.fuse]) := HP3.out.of_block (HB4.out.block q HP3.out.lt)
  obtain ⟨q0, q1, q2, q3, q4, q5⟩ := blk6 HP4.out
  have fq := HP4.out.frozen 3
  have hql := HP4.out.lt
  go_wp2_with fail
  go_ret
  have hq3 := HP3.out.lt
  have hm3 := HM3.out.lt
  have hx3 := HB3.out.size
  have qm := HQM.out
  have qq := HQ.out
  have h4 := HB4.out.size
  refine ⟨q, fun k => w.heap.size ≤ k ∧ k < W4.heap.size, rfl, ⟨H0.out, m2, .slice A4 d.more.length c4, ?_⟩, ?_, fun k hk => hk.1⟩
  · refine ⟨HP4.out.set_ 3 _, (HM3.out.of_block (HB4.out.block m2 hm3)).of_block (set_other _ _ _ _ _ (Nat.ne_of_gt qm)), ?_, ⟨by omega, by omega⟩, ⟨by omega, by omega⟩, fun j hj => ?_, fun k hk => by rw [size_set]; exact hk.2⟩
    · have h5 : (W4.setCell ⟨q, 3, none⟩ (.slice A4 d.more.length c4)).ownsRow X3.heap.size 80 66 (.slice A4 d.more.length c4) d.more.length (wrRow (unOf d.base d.more)) := own_of_block HO4.out (fun j hj => set_other _ _ _ _ _ (by have h := (HO4.out.lt j hj).1; omega))
      obtain ⟨h1, h2⟩ := h5
      refine ⟨h1, ?_⟩
      rcases h2 with h2 | ⟨g, cap, cur, e1, _, e3⟩
      · exact .inl h2
      · exact .inr ⟨g, cap, cur, e1, Nat.zero_le _, e3⟩
    · have h := HO4.out.lt j hj
      exact ⟨Nat.le_trans hx3 h.1, h.2⟩
  · exact (HB3.out.trans (HB4.out.mono HB3.out.size)).setCell (by rw [qq]; exact Nat.le_refl _) _
end
end Go.Proofs.YtjllpbckmioiiaaDoor.dk


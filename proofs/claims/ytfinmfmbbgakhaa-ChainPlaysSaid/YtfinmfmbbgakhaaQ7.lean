/- RcRead, RcHide, PgHide, PgSnap. -/
import Derived.Test.YtfinmfmbbgakhaaQ4
import Derived.Test.YtfinmfmbbgakhaaQ6
/- The document's Read, and its Hide. -/
namespace Go.Proofs.Ytfinmfmbbgakhaa.ch
open Go Go.RowKit Go.Sort Go.Proofs.Ytfinmfmbbgakhaa.ib
set_option maxRecDepth 100000

theorem findR_no {d : CH} {g : Gd} (h : (findR d g).2 ≠ 0) : d.read g = ([], (findR d g).2) ∧ d.hide g = (d, (findR d g).2) := by
  unfold findR at h ⊢
  unfold CH.read CH.hide
  cases hf : d.find g with
  | none => exact ⟨rfl, rfl⟩
  | some i =>
    rw [hf] at h
    dsimp only at h ⊢
    cases hs : d.snaps[i]? with
    | none => exact ⟨rfl, rfl⟩
    | some s =>
      rw [hs] at h
      dsimp only at h ⊢
      cases hh : s.hid with
      | true => exact ⟨rfl, rfl⟩
      | false =>
        rw [hh] at h
        exact absurd rfl h
theorem findR_yes {d : CH} {g : Gd} (h : (findR d g).2 = 0) : ∃ (i : Nat) (s : Sn), d.snaps[i]? = some s ∧ findR d g = ((i : Int), 0) ∧ d.read g = (s.bs, 0) ∧ d.hide g = (⟨d.live, hideAt d.snaps i⟩, 0) := by
  unfold findR at h ⊢
  unfold CH.read CH.hide
  cases hf : d.find g with
  | none => rw [hf] at h; cases h
  | some i =>
    rw [hf] at h
    dsimp only at h ⊢
    cases hs : d.snaps[i]? with
    | none => rw [hs] at h; cases h
    | some s =>
      rw [hs] at h
      dsimp only at h ⊢
      cases hh : s.hid with
      | true => rw [hh] at h; cases h
      | false => exact ⟨i, s, hs, rfl, rfl, rfl⟩

set_option maxHeartbeats 1600000 in
theorem rread_any {own : Nat → Prop} {w : World} {p : Nat} {d : CH} (h : RcIs own w p d) (g : Gd) : Calls Try.prog 39 #[.pointer (some ⟨p, 0, none⟩), gv g] w (okTxE (d.read g) w) := by
  have hb0 := (Below.refl w.heap.size w).alloc (Nat.le_refl _) (.cells #[.int .u64 (g.1 : Int), .int .u64 (g.2 : Int)] 37)
  have hI := h.below hb0
  have HB0 := Lib.hid hb0
  obtain ⟨y1, hy1⟩ : ∃ y, (g.1 : Int) = y := ⟨_, rfl⟩
  obtain ⟨y2, hy2⟩ : ∃ y, (g.2 : Int) = y := ⟨_, rfl⟩
  have HF := Lib.hid (rfind_any hI g)
  have HI := Lib.hid hI
  unfold gv at HF ⊢
  rw [hy1, hy2] at HF HI HB0 ⊢
  clear hb0 hI h hy1 hy2
  obtain ⟨R, hR⟩ : ∃ R, findR d g = R := ⟨_, rfl⟩
  rw [hR] at HF
  have HR := Lib.hid hR
  have HNO := Lib.hid (fun h => (findR_no (d := d) (g := g) h).1)
  have HYES := Lib.hid (fun h => findR_yes (d := d) (g := g) h)
  rw [hR] at HNO HYES
  clear hR
  obtain ⟨W0, hW0⟩ : ∃ W, w.alloc (.cells #[.int .u64 y1, .int .u64 y2] 37) = W := ⟨_, rfl⟩
  rw [hW0] at HF HI HB0
  have q0 : W0.cell? ⟨w.heap.size, 0, none⟩ = some (.int .u64 y1) := by rw [← hW0]; exact (Blk.new w _ _).cell 0
  have q1 : W0.cell? ⟨w.heap.size, 1, none⟩ = some (.int .u64 y2) := by rw [← hW0]; exact (Blk.new w _ _).cell 1
  go_enter Try.func39, Try.ntmps39
  go_wp2_with fail
  clear hW0
  refine HF.out.mono ?_
  rintro e W1 ⟨rfl, hb1⟩
  have HB1 := Lib.hid (HB0.out.trans (hb1.mono HB0.out.size))
  have HI1 := Lib.hid (HI.out.below hb1)
  clear hb1 HF HI HB0 q0 q1
  by_cases hz : R.2 = 0
  · obtain ⟨i, s, hs, hR, hrd, _⟩ := HYES.out hz
    have HRD := Lib.hid hrd
    subst hR
    obtain ⟨h0, gn, cn, v, xs, hr⟩ := HI1.out
    obtain ⟨c0, c1⟩ := blk2 hr.blk
    obtain ⟨A, c, rfl, _, _, _, hx⟩ := row_view hr.row
    have hil : i < xs.length := by rw [hr.len]; exact (List.getElem?_eq_some_iff.1 hs).1
    have hsx : xs[i].1 = s := by
      have := hr.nth i hil
      rw [hs] at this
      injection this with this
      exact this.symm
    obtain ⟨gr, rfl, _, _, _, _, g2, _⟩ := hx i hil
    have h20 : xs.length ≤ 20 := by have := h0.few; rw [hr.len]; exact this
    have hii : (i : Int) < (xs.length : Int) := by omega
    have hmem : xs[i] ∈ xs := List.getElem_mem hil
    have hok := h0.snaps xs[i].1 (by rw [← hr.eq]; exact List.mem_map_of_mem hmem)
    have hlen : xs[i].1.bs.length = d.live.length := hok.1
    have HO := Lib.hid (rown_any (some ⟨xs[i].2.1, 0, none⟩) xs[i].2.2 xs[i].1.bs W1 (hr.vols _ hmem).txl (by rw [hlen]; exact h0.n1) (by have := h0.n8; omega) (hr.room.2 _ hmem))
    rw [hsx] at g2 HO
    generalize xs[i].2 = x2 at *
    clear hx hr h0 c0 hmem hok hlen hs hrd HNO HYES HI1 hsx hz
    go_wp2_with fail
    refine HO.out.mono ?_
    rintro e W2 ⟨gg, cc, rfl, hg, hcc, ht, hb2⟩
    have HT := Lib.hid ht
    have HB2 := Lib.hid (HB1.out.trans (hb2.mono HB1.out.size))
    have HG : Hid (w.heap.size ≤ gg) := by have := HB1.out.size; unfold Hid; omega
    clear ht hb2
    go_wp2_with fail
    go_ret2
    rw [HRD.out]
    exact ⟨some ⟨gg, 0, none⟩, cc, rfl, HT.out.txl, fun b o e => by simp only [Option.some.injEq, Addr.mk.injEq, and_true] at e; obtain ⟨rfl, _⟩ := e; exact ⟨HG.out, HT.out.lt⟩, HB2.out⟩
  · have hrd := HNO.out hz
    have HRD := Lib.hid hrd
    obtain ⟨i, c⟩ := R
    have hc : (c == 0) = false := beq_false_of_ne hz
    clear hrd HNO HYES HI1
    dsimp only at hz hc HRD ⊢
    go_wp2_with fail
    go_ret2
    rw [HRD.out]
    exact ⟨none, 0, rfl, fun i h => absurd h (by simp), NewA.none _ _, HB1.out⟩
end Go.Proofs.Ytfinmfmbbgakhaa.ch

/- The document's Hide. -/
namespace Go.Proofs.Ytfinmfmbbgakhaa.ch
open Go Go.RowKit Go.Sort Go.Proofs.Ytfinmfmbbgakhaa.ib
set_option maxRecDepth 100000

def hidR (x : RSn) : RSn := ({ x.1 with hid := true }, x.2)
theorem row_set {w : World} {base e size n : Nat} {v : Value} {zs : List Value} (h : w.ownsRow base e size v n zs) (g : Nat) (hv : v.ownBlock = some g) (j : Nat) (u : Value) : (w.setCell ⟨g, j, none⟩ u).ownsRow base e size v n (zs.set j u) := by
  refine ⟨by simpa using h.1, ?_⟩
  rcases h.2 with ⟨rfl, _⟩ | ⟨g', cap, cur, rfl, hg, hh, hcc, hm, hcs, hcur⟩
  · cases hv
  · simp [Value.ownBlock] at hv
    subst hv
    refine .inr ⟨g', cap, cur.setIfInBounds j u, rfl, hg, heap_setCell_same w g' j cur _ u hh, hcc, hm, by simpa using hcs, ?_⟩
    rw [Array.toList_setIfInBounds, List.take_set, hcur]
theorem snRow_hide : ∀ (l : List RSn) (i : Nat), i < l.length → (snRow l).set (i * 4 + 3) (.bool true) = snRow (l.modify i hidR)
  | x :: l, 0, _ => by
    show (snV x ++ snRow l).set 3 (.bool true) = snV (hidR x) ++ snRow l
    rw [List.set_append_left _ _ (by simp [snV])]
    rfl
  | x :: l, i + 1, h => by
    have := snRow_hide l i (by simpa using h)
    show (snV x ++ snRow l).set ((i + 1) * 4 + 3) (.bool true) = snV x ++ snRow (l.modify i hidR)
    rw [List.set_append_right _ _ (by simp [snV]; omega), show (i + 1) * 4 + 3 - (snV x).length = i * 4 + 3 from by simp [snV]; omega, this]
theorem map_hide : ∀ (l : List RSn) (i : Nat), (l.modify i hidR).map (·.1) = hideAt (l.map (·.1)) i
  | [], i => by simp [hideAt]
  | x :: l, 0 => by simp [hideAt, hidR]
  | x :: l, i + 1 => by
    have := map_hide l i
    unfold hideAt at this ⊢
    simp [this]
theorem mem_hide : ∀ {l : List RSn} {i : Nat} {x : RSn}, x ∈ l.modify i hidR → ∃ y ∈ l, x.2 = y.2 ∧ x.1.bs = y.1.bs ∧ x.1.g = y.1.g
  | [], i, x, h => by simp at h
  | y :: l, 0, x, h => by
    simp at h
    rcases h with rfl | h
    · exact ⟨y, by simp, rfl, rfl, rfl⟩
    · exact ⟨x, by simp [h], rfl, rfl, rfl⟩
  | y :: l, i + 1, x, h => by
    simp at h
    rcases h with rfl | h
    · exact ⟨x, by simp, rfl, rfl, rfl⟩
    · obtain ⟨z, hz, h2⟩ := mem_hide h
      exact ⟨z, by simp [hz], h2⟩
theorem ok_hide {d : CH} (h : d.ok) (i : Nat) : CH.ok ⟨d.live, hideAt d.snaps i⟩ := by
  have hm : ∀ s ∈ hideAt d.snaps i, ∃ t ∈ d.snaps, s.bs = t.bs ∧ s.g = t.g := by
    intro s hs
    have e : hideAt d.snaps i = ((d.snaps.map fun s => ((s, 0, 0) : RSn)).modify i hidR).map (·.1) := by
      rw [map_hide, List.map_map]
      show hideAt d.snaps i = hideAt (d.snaps.map fun s => s) i
      rw [List.map_id']
    rw [e] at hs
    obtain ⟨x, hx, rfl⟩ := List.mem_map.1 hs
    obtain ⟨y, hy, _, h2, h3⟩ := mem_hide hx
    obtain ⟨t, ht, rfl⟩ := List.mem_map.1 hy
    exact ⟨t, ht, h2, h3⟩
  refine ⟨h.live, h.n1, h.n8, fun s hs => ?_, ?_, fun s hs => ?_⟩
  · obtain ⟨t, ht, h2, _⟩ := hm s hs
    rw [h2]
    exact h.snaps t ht
  · show (hideAt d.snaps i).length ≤ 20
    unfold hideAt
    rw [List.length_modify]
    exact h.few
  · obtain ⟨t, ht, _, h2⟩ := hm s hs
    rw [h2]
    exact h.gds t ht

theorem RcAt.hide {own : Nat → Prop} {w : World} {p gn cn : Nat} {A : Option Addr} {n c : Nat} {xs : List RSn} {d : CH} (h : RcAt w own p gn cn (.slice A n c) xs d) (i : Nat) (hi : i < xs.length) (g : Nat) (hA : A = some ⟨g, 0, none⟩) :
    RcAt (w.setCell ⟨g, i * 4 + 3, none⟩ (.bool true)) own p gn cn (.slice A n c) (xs.modify i hidR) ⟨d.live, hideAt d.snaps i⟩ := by
  subst hA
  have hv : (Value.slice (some ⟨g, 0, none⟩) n c).ownBlock = some g := rfl
  refine ⟨h.blk.of_block (set_oth _ _ _ _ _ (h.vp g hv).symm), h.now.of_block (set_oth _ _ _ _ _ (h.vn g hv).symm), ?_, ?_, fun x hx => ?_, ⟨h.room.1, fun x hx => ?_⟩, h.op, h.on_, h.om, fun x hx => ?_, fun x hx => ?_, fun j hj => ?_⟩
  · rw [List.length_modify, ← snRow_hide xs i hi]
    exact row_set h.row g hv _ _
  · rw [map_hide, h.eq]
  · obtain ⟨y, hy, h1, h2, _⟩ := mem_hide hx
    rw [h1, h2]
    exact (h.vols y hy).of_block (set_oth _ _ _ _ _ (h.vx g hv y hy))
  · obtain ⟨y, hy, h1, h2, _⟩ := mem_hide hx
    rw [h1, h2]
    exact h.room.2 y hy
  · obtain ⟨y, hy, h1, h2, _⟩ := mem_hide hx
    rw [h1]
    exact h.ov y hy
  · obtain ⟨y, hy, h1, h2, _⟩ := mem_hide hx
    rw [h1]
    exact h.ne y hy
  · have := h.low j hj
    simpa [World.setCell] using this

set_option maxHeartbeats 1600000 in
theorem rhide_any {own : Nat → Prop} {w : World} {p : Nat} {d : CH} (h : RcIs own w p d) (g : Gd) : Calls Try.prog 37 #[.pointer (some ⟨p, 0, none⟩), gv g] w (Aft RcIs own p (d.hide g) w) := by
  have hb0 := (Below.refl w.heap.size w).alloc (Nat.le_refl _) (.cells #[.int .u64 (g.1 : Int), .int .u64 (g.2 : Int)] 37)
  have hI := h.below hb0
  have HB0 := Lib.hid hb0
  obtain ⟨y1, hy1⟩ : ∃ y, (g.1 : Int) = y := ⟨_, rfl⟩
  obtain ⟨y2, hy2⟩ : ∃ y, (g.2 : Int) = y := ⟨_, rfl⟩
  have HF := Lib.hid (rfind_any hI g)
  have HI := Lib.hid hI
  have HIW := Lib.hid h
  unfold gv at HF ⊢
  rw [hy1, hy2] at HF HI HB0 ⊢
  clear hb0 hI h hy1 hy2
  obtain ⟨R, hR⟩ : ∃ R, findR d g = R := ⟨_, rfl⟩
  rw [hR] at HF
  have HR := Lib.hid hR
  have HNO := Lib.hid (fun h => (findR_no (d := d) (g := g) h).2)
  have HYES := Lib.hid (fun h => findR_yes (d := d) (g := g) h)
  rw [hR] at HNO HYES
  clear hR
  obtain ⟨W0, hW0⟩ : ∃ W, w.alloc (.cells #[.int .u64 y1, .int .u64 y2] 37) = W := ⟨_, rfl⟩
  rw [hW0] at HF HI HB0
  have q0 : W0.cell? ⟨w.heap.size, 0, none⟩ = some (.int .u64 y1) := by rw [← hW0]; exact (Blk.new w _ _).cell 0
  have q1 : W0.cell? ⟨w.heap.size, 1, none⟩ = some (.int .u64 y2) := by rw [← hW0]; exact (Blk.new w _ _).cell 1
  go_enter Try.func37, Try.ntmps37
  go_wp2_with fail
  clear hW0
  refine HF.out.mono ?_
  rintro e W1 ⟨rfl, hb1⟩
  have HB1 := Lib.hid (HB0.out.trans (hb1.mono HB0.out.size))
  have HI1 := Lib.hid (HI.out.below hb1)
  clear hb1 HF HI HB0 q0 q1
  by_cases hz : R.2 = 0
  · obtain ⟨i, s, hs, hR, _, hhd⟩ := HYES.out hz
    have HHD := Lib.hid hhd
    subst hR
    obtain ⟨h0, gn, cn, v, xs, hr⟩ := HI1.out
    obtain ⟨c0, c1⟩ := blk2 hr.blk
    obtain ⟨A, c, rfl, _, _, _, hx⟩ := row_view hr.row
    have hil : i < xs.length := by rw [hr.len]; exact (List.getElem?_eq_some_iff.1 hs).1
    obtain ⟨gr, rfl, hgl, hfz, _, _, _, g3⟩ := hx i hil
    have f3 := hfz (i * 4 + 3)
    have h20 : xs.length ≤ 20 := by have := h0.few; rw [hr.len]; exact this
    have hii : (i : Int) < (xs.length : Int) := by omega
    have HRR := Lib.hid (hr.hide i hil gr rfl)
    have HOK := Lib.hid (ok_hide h0 i)
    have HOM : Hid (own gr) := hr.om gr rfl
    clear hx hr h0 c0 hs hhd HNO HYES HI1 hz hfz
    go_wp2_with fail
    go_ret
    rw [HHD.out]
    exact ⟨rfl, own, ⟨HOK.out, gn, cn, _, _, HRR.out⟩, (But.of_below (S := own) HB1.out).setCell _ _ (.inl HOM.out), fun j hj => .inl hj⟩
  · have hrd := HNO.out hz
    have HRD := Lib.hid hrd
    obtain ⟨i, c⟩ := R
    have hc : (c == 0) = false := beq_false_of_ne hz
    clear hrd HNO HYES HI1
    dsimp only at hz hc HRD ⊢
    go_wp2_with fail
    go_ret
    rw [HRD.out]
    exact HIW.out.same HB1.out rfl
end Go.Proofs.Ytfinmfmbbgakhaa.ch

/- The program's Hide: a row of its own, with one flag set. -/
namespace Go.Proofs.Ytfinmfmbbgakhaa.ch.pg
open Go Go.RowKit Go.Sort Go.Proofs.Ytfinmfmbbgakhaa.ib
set_option maxRecDepth 100000

theorem srow_hide : ∀ (l : List Sn) (i : Nat), i < l.length → (∀ s ∈ l, (sc s).length = 259) → (srow l).set (i * 259 + 258) (.bool true) = srow (hideAt l i)
  | x :: l, 0, _, h => by
    have hx := h x (by simp)
    have hv : (vc x.bs).length = 256 := by
      unfold sc at hx
      simpa using hx
    show (sc x ++ srow l).set (0 * 259 + 258) (.bool true) = sc { x with hid := true } ++ srow l
    rw [List.set_append_left _ _ (by omega)]
    congr 1
    unfold sc
    rw [List.set_append_right _ _ (by omega), hv]
    rfl
  | x :: l, i + 1, hi, h => by
    have ih := srow_hide l i (by simpa using hi) (fun s hs => h s (by simp [hs]))
    have hx := h x (by simp)
    have e : hideAt (x :: l) (i + 1) = x :: hideAt l i := by simp [hideAt]
    rw [e]
    show (sc x ++ srow l).set ((i + 1) * 259 + 258) (.bool true) = sc x ++ srow (hideAt l i)
    rw [List.set_append_right _ _ (by omega), hx, show (i + 1) * 259 + 258 - 259 = i * 259 + 258 by omega, ih]

def CloneP (l : List Sn) (w : World) (e : Ending) (w' : World) : Prop := ∃ g c cur, e = .returned (.slice (some ⟨g, 0, none⟩) l.length c) ∧ w.heap.size ≤ g ∧ Blk w' g 84 cur ∧ cur.toList.take (l.length * 259) = srow l ∧ l.length ≤ c ∧ c ≤ maxLen ∧ Below w.heap.size w w'
theorem exec_noneS {ρ : Operand → Value} {o : Oper} {w : World} (ho : o.op = .buildSlice 70 0 #[]) :
    (execOp ρ o).run Try.prog w = .ok (.value (.slice (some ⟨w.heap.size, 0, none⟩) 0 0)) (w.alloc (.cells #[] 84)) := by
  have hz := size_of (t := 84) sizeSnp w
  have hr : (Instr.buildSlice 70 0 #[]).run Try.prog w = .ok (.slice (some ⟨w.heap.size, 0, none⟩) 0 0) (w.alloc (.cells #[] 84)) := by
    simp [Instr.buildSlice, run_underlying Try.underlying70, hz, Instr.fill, newRow, Result.andThen]
    rw [show Array.map (fun _ : Nat => (default : Value)) (Array.range 0) = #[] from Array.ext (by simp) (fun i _ h2 => by simp at h2)]
  simp [execOp, ho, hr, Result.andThen]

theorem equal_nil (d : Nat) (a : Addr) (n c : Nat) (w : World) : (Op.equalIn (d + 1) 70 (.slice (some a) n c) (.slice none 0 0)).run Try.prog w = .ok false w := by
  simp [Op.equalIn, run_underlying Try.underlying70]
theorem eql_nil (a : Addr) (n c : Nat) (w : World) : (binOp .eql 70 (.slice (some a) n c) (.slice none 0 0)).run Try.prog w = .ok (.bool false) w := by
  have h : (Op.equalIn 10000 70 (.slice (some a) n c) (.slice none 0 0)).run Try.prog w = .ok false w := equal_nil 9999 a n c w
  simp only [binOp]
  simp [Op.equal, Op.maxDepth, h, Result.andThen]
set_option maxHeartbeats 1600000 in
theorem clone_any {w : World} {n : Nat} {v : Value} {l : List Sn} (h : SRow w v l) (ho : ∀ s ∈ l, volOk n s.bs) (h8 : n ≤ 8) (h1 : 0 < l.length) (h20 : l.length ≤ 20) : Calls Try.prog 50 #[v] w (CloneP l w) := by
  obtain ⟨i0, hi, hz0, hz1, hz2⟩ := info_parts infoSnp
  have HLEN := Lib.hid (srow_len ho h8)
  have HONE : Hid (∀ u ∈ srow l, u.oneCell' = true) := fun u hu => by
    obtain ⟨s, _, h⟩ := List.mem_flatMap.1 hu
    exact sc_one s u h
  have hb1 := (Below.refl w.heap.size w).alloc (Nat.le_refl _) (.cells #[] 84)
  have hr1 := h.below hb1
  obtain ⟨A, c, rfl, hlc, _, hx⟩ := srow_view h ho h8
  obtain ⟨g, cur, rfl, _, _⟩ := hx 0 h1
  have HCE := Lib.hid ((hr1.cells).2.2)
  have HB := Lib.hid hb1
  have HSI : Hid ((w.alloc (.cells #[] 84)).heap.size = w.heap.size + 1) := by unfold Hid; simp
  have heq : (binOp .eql 70 (.slice (some ⟨g, 0, none⟩) l.length c) (.slice none 0 0)).run Try.prog w = .ok (.bool false) w := eql_nil _ _ _ w
  clear hx hb1 hr1 h ho
  go_enter Try.func50, Try.ntmps50
  go_wp2_with (first | (refine wpList_value rfl (exec_noneS rfl) ?_) | (at_builtin; refine wpList_append_full rfl (.tmp 5) (.tmp 6) 70 rfl 84 i0 _ 259 280 Try.underlying70 hi hz0 hz1 hz2 (some ⟨w.heap.size, 0, none⟩) 0 [] rfl rfl (fun h => by cases h) (fun b _ j u hu => by simp at hu) ⟨g, 0, none⟩ l.length c (srow l) rfl HLEN.out (HCE.out _ rfl) h1 (by unfold maxLen; omega) (by omega) ?_))
  intro cap cur2 w1 hb2 hk2 ht2 hc1 hc2 hsz
  have HB2 := Lib.hid (HB.out.trans (hb2.mono (by simp)))
  have HK2 := Lib.hid hk2
  have HT2 : Hid (cur2.toList.take (l.length * 259) = srow l) := by
    unfold Hid
    simpa using ht2
  have HC1 : Hid (l.length ≤ cap) := by unfold Hid; omega
  have HC2 := Lib.hid hc2
  clear hb2 hk2 ht2 hc1 hc2 hsz HCE HB HLEN
  go_wp2_with fail
  go_ret
  exact ⟨w.heap.size + 1, cap, cur2, rfl, Nat.le_succ _, HK2.out, HT2.out, HC1.out, HC2.out, HB2.out⟩

theorem PgAt.hide {w : World} {own : Nat → Prop} {p g c : Nat} {cur : Array Value} {d : CH} (h : PgAt w own p (.slice (some ⟨g, 0, none⟩) d.snaps.length c) d) (ho : d.ok) (hb : Blk w g 84 cur) (ht : cur.toList.take (d.snaps.length * 259) = srow d.snaps) (i : Nat) (hi : i < d.snaps.length) :
    PgAt (w.setCell ⟨g, i * 259 + 258, none⟩ (.bool true)) own p (.slice (some ⟨g, 0, none⟩) d.snaps.length c) ⟨d.live, hideAt d.snaps i⟩ := by
  have hgp := h.vp g rfl
  obtain ⟨A', c', e, h1, h2, _⟩ := h.row
  simp only [Value.slice.injEq, true_and] at e
  obtain ⟨rfl, rfl⟩ := e
  have hll : (hideAt d.snaps i).length = d.snaps.length := by unfold hideAt; rw [List.length_modify]
  refine ⟨h.blk.of_block (set_oth _ _ _ _ _ hgp.symm), ?_, h.op, h.om, fun j hj => ?_⟩
  · refine ⟨some ⟨g, 0, none⟩, c, by rw [hll], by rw [hll]; exact h1, h2, .inr ⟨g, _, rfl, hb.set_ (i * 259 + 258) (.bool true), ?_⟩⟩
    show (cur.setIfInBounds _ _).toList.take ((hideAt d.snaps i).length * 259) = srow (hideAt d.snaps i)
    rw [hll, Array.toList_setIfInBounds, List.take_set, ht]
    exact srow_hide d.snaps i hi (fun s hs => sc_len (ho.snaps s hs) ho.n8)
  · have := h.low j hj
    simpa [World.setCell] using this

set_option maxHeartbeats 6400000 in
theorem hide_any {own : Nat → Prop} {w : World} {p : Nat} {d : CH} (h : Is0 own w p d) (g : Gd) : Calls Try.prog 27 #[.pointer (some ⟨p, 0, none⟩), gv g] w (Aft Is0 own p (d.hide g) w) := by
  have HIS := Lib.hid h
  have hb0 := (Below.refl w.heap.size w).alloc (Nat.le_refl _) (.cells #[.int .u64 (g.1 : Int), .int .u64 (g.2 : Int)] 37)
  obtain ⟨h0, v, hr⟩ := h
  have hr1 := hr.below hb0
  have HF := Lib.hid (find_any (⟨h0, v, hr1⟩ : Is0 own _ p d) g)
  have q0 : (w.alloc (.cells #[.int .u64 (g.1 : Int), .int .u64 (g.2 : Int)] 37)).cell? ⟨w.heap.size, 0, none⟩ = some (.int .u64 (g.1 : Int)) := (Blk.new w _ _).cell 0
  have q1 : (w.alloc (.cells #[.int .u64 (g.1 : Int), .int .u64 (g.2 : Int)] 37)).cell? ⟨w.heap.size, 1, none⟩ = some (.int .u64 (g.2 : Int)) := (Blk.new w _ _).cell 1
  have HB0 := Lib.hid hb0
  have HR0 := Lib.hid hr1
  have HH0 := Lib.hid h0
  have HC := Lib.hid (findP_cases d g)
  obtain ⟨R, hR⟩ : ∃ R, findP d g = R := ⟨_, rfl⟩
  rw [hR] at HF HC
  clear hb0 hr1 hr h0 hR
  unfold gv at HF ⊢
  go_enter Try.func27, Try.ntmps27
  go_wp2_with fail
  refine HF.out.mono ?_
  rintro e W1 ⟨rfl, hb1⟩
  have HB1 := Lib.hid (HB0.out.trans (hb1.mono HB0.out.size))
  have HR1 := Lib.hid (HR0.out.below hb1)
  clear hb1 HF q0 q1 HB0 HR0
  rcases HC.out with ⟨c, hc, rfl, hrd, _⟩ | ⟨i, s, rfl, hil, hs, hrd, _⟩
  · have hcb : (c != 0) = true := by simpa using hc
    have HRD := Lib.hid hrd
    clear hc hrd HC HR1 HH0
    go_wp2_with fail
    go_ret
    rw [HRD.out]
    exact (is0_same HIS.out HB1.out rfl).1
  · have HRD := Lib.hid hrd
    have h20 := HH0.out.few
    have HCL := Lib.hid (clone_any HR1.out.row HH0.out.snaps HH0.out.n8 (by omega) h20)
    have c2 := HR1.out.c2 HH0.out
    have hii : (i : Int) < (d.snaps.length : Int) := by omega
    have HIL := Lib.hid hil
    obtain ⟨A, c, hv, _, _, _⟩ := srow_view HR1.out.row HH0.out.snaps HH0.out.n8
    subst hv
    clear hs hrd HC hil
    go_wp2_with fail
    refine HCL.out.mono ?_
    rintro e W2 ⟨g2, c3, cur, rfl, hg2, hk2, ht2, hlc, hcm, hb2⟩
    have HRW : Hid (SRow W2 (.slice (some ⟨g2, 0, none⟩) d.snaps.length c3) d.snaps) := ⟨_, c3, rfl, hlc, hcm, .inr ⟨g2, cur, rfl, hk2, ht2⟩⟩
    have HP3 := Lib.hid (PgAt.rerow HR1.out hb2 HRW.out HH0.out (fun k hk => by
      simp [Value.ownBlock] at hk
      exact .inr (by omega)))
    have hgp : g2 ≠ p := HRW.out.ne (HR1.out.blk.of_block (hb2.block p HR1.out.blk.lt)) (by decide) g2 rfl
    have hk3 : Blk (W2.setCell ⟨p, 257, none⟩ (.slice (some ⟨g2, 0, none⟩) d.snaps.length c3)) g2 84 cur := hk2.of_block (set_oth _ _ _ _ _ hgp)
    have HP4 := Lib.hid (PgAt.hide HP3.out HH0.out hk3 ht2 i HIL.out)
    have HB2 := Lib.hid (HB1.out.trans (hb2.mono HB1.out.size))
    have HBU := Lib.hid (((But.of_below (S := own) HB2.out).setCell ⟨p, 257, none⟩ (.slice (some ⟨g2, 0, none⟩) d.snaps.length c3) (.inl HR1.out.op)).setCell ⟨g2, i * 259 + 258, none⟩ (.bool true) (.inr (by have := HB1.out.size; show w.heap.size ≤ g2; omega)))
    have HGE : Hid (w.heap.size ≤ g2) := by have := HB1.out.size; unfold Hid; omega
    have f1 := (HR1.out.blk.of_block (hb2.block p HR1.out.blk.lt)).frozen 257
    obtain ⟨b1, hb1'⟩ : ∃ z, W2.cell? ⟨p, 257, none⟩ = some z := ⟨_, (hb2.cell (p := ⟨p, 257, none⟩) HR1.out.blk.lt).trans (HR1.out.c2 HH0.out)⟩
    have f2 := hk3.frozen (i * 259 + 258)
    have c4 : (W2.setCell ⟨p, 257, none⟩ (.slice (some ⟨g2, 0, none⟩) d.snaps.length c3)).cell? ⟨p, 257, none⟩ = some (.slice (some ⟨g2, 0, none⟩) d.snaps.length c3) := HP3.out.c2 HH0.out
    obtain ⟨b2, hb2'⟩ : ∃ z, (W2.setCell ⟨p, 257, none⟩ (.slice (some ⟨g2, 0, none⟩) d.snaps.length c3)).cell? ⟨g2, i * 259 + 258, none⟩ = some z := by
      have hs := srow_len HH0.out.snaps HH0.out.n8
      rw [hk3.cell]
      have hlt : i * 259 + 258 < cur.size := by
        have h1 := congrArg List.length ht2
        rw [List.length_take, hs] at h1
        have h2 : d.snaps.length * 259 ≤ cur.toList.length := by omega
        have h3 := HIL.out
        have h4 : cur.toList.length = cur.size := by simp
        omega
      exact ⟨cur[i * 259 + 258], by simp [hlt]⟩
    clear hg2 hk2 ht2 hlc hcm hb2 hk3 HRW HCL
    go_wp2_with fail
    go_ret
    rw [HRD.out]
    exact ⟨rfl, _, ⟨ok_hide HH0.out i, _, HP4.out⟩, HBU.out, fun j hj => by
      rcases hj with hj | hj
      · exact .inl hj
      · simp [Value.ownBlock] at hj
        exact .inr (by rw [← hj]; exact HGE.out)⟩
end Go.Proofs.Ytfinmfmbbgakhaa.ch.pg

/- The program's Snap. -/
namespace Go.Proofs.Ytfinmfmbbgakhaa.ch.pg
open Go Go.RowKit Go.Sort Go.Proofs.Ytfinmfmbbgakhaa.ib
set_option maxRecDepth 100000

theorem run_buildS {n : Nat} (l : List Bt) (g : Gd) (hl : volOk n l) (h8 : n ≤ 8) (w : World) :
    (Instr.build 84 #[(0, .agg (vc l).toArray), (1, .agg #[.int .u64 (g.1 : Int), .int .u64 (g.2 : Int)])]).run Try.prog w = .ok (.agg (sc ⟨g, l, false⟩).toArray) w := by
  obtain ⟨i0, hi, hz0, _, _⟩ := info_parts infoSnp
  have hz : (zeroValue 84).run Try.prog w = .ok (.agg (sc z0).toArray) w := by simp [zeroValue, typeInfo, hi, hz0]
  have hzl : (sc z0).length = 259 := sc_len (n := 0) ⟨rfl, fun v hv => by simp [z0] at hv⟩ (by omega)
  have hzd : (sc z0).drop 256 = [.int .u64 0, .int .u64 0, .bool false] := by
    have h := vc_len (n := 0) (l := z0.bs) ⟨rfl, fun v hv => by simp [z0] at hv⟩ (by omega)
    unfold sc
    rw [List.drop_left' h]
    rfl
  have hvl := vc_len hl h8
  have s1 := size_of (t := 69) sizeVol w
  have s2 := size_of (t := 37) sizeGd w
  have s3 := size_of (t := 4) (n := 1) (by kernel_rfl) w
  have hf : ∀ place : Nat → Option (Nat × Nat), place 0 = some (0, 256) → place 1 = some (256, 2) → Instr.fill place (sc z0).toArray [(0, .agg (vc l).toArray), (1, .agg #[.int .u64 (g.1 : Int), .int .u64 (g.2 : Int)])] = some (sc ⟨g, l, false⟩).toArray := by
    intro place h0 h1
    rw [fill_step _ _ 0 0 256 _ _ h0 (by simp [hvl]) (by simp [hzl])]
    have e1 : ((sc z0).toArray.toList.take 0 ++ (vc l).toArray.toList ++ (sc z0).toArray.toList.drop (0 + 256)) = vc l ++ [.int .u64 0, .int .u64 0, .bool false] := by
      simp [hzd]
    rw [e1, fill_step _ _ 1 256 2 _ _ h1 rfl (by simp [hvl])]
    simp only [Instr.fill]
    congr 1
    apply Array.ext'
    show (vc l ++ [Value.int .u64 0, .int .u64 0, .bool false]).take 256 ++ [Value.int .u64 (g.1 : Int), .int .u64 (g.2 : Int)] ++ (vc l ++ [Value.int .u64 0, .int .u64 0, .bool false]).drop 258 = sc ⟨g, l, false⟩
    rw [List.take_left' hvl, show 258 = (vc l).length + 2 by rw [hvl], List.drop_append]
    unfold sc
    simp
  generalize (vc l).toArray = V at *
  generalize (sc ⟨g, l, false⟩).toArray = R at *
  generalize (sc z0).toArray = Z at *
  clear hzd hzl hvl hi hz0
  simp only [Instr.build, Sem.run_bind, hz, Result.andThen_ok, Value.cells, run_underlying Try.underlying84]
  have hm : ∀ (K : Array (Nat × Nat) → World → Result Value), K #[(0, 256), (256, 2), (258, 1)] w = .ok (.agg R) w → ((Array.mapM
            (fun f : Field => do
              let z ← sizeOf f.type
              pure (f.offset, z))
            #[{ name := "volume", type := 69, offset := 0, embedded := true, tag := "", pkgPath := "stemma/chain", byteOffset := 0 },
              { name := "guid", type := 37, offset := 256, embedded := false, tag := "", pkgPath := "stemma/chain", byteOffset := 256 },
              { name := "hidden", type := 4, offset := 258, embedded := false, tag := "", pkgPath := "stemma/chain", byteOffset := 272 }]).run Try.prog w).andThen K = .ok (.agg R) w := by
    intro K hK
    simp only [List.mapM_toArray, List.mapM_cons, List.mapM_nil, Sem.run_bind, s1, s2, s3, Result.andThen_ok, Sem.run_pure, Functor.map, Sem.run_map]
    exact hK
  refine hm _ ?_
  rw [hf _ rfl rfl]
  rfl
theorem exec_buildS {ρ : Operand → Value} {o : Oper} {w : World} {n : Nat} (x y : Operand) (l : List Bt) (g : Gd) (y1 y2 : Int) (h1 : (g.1 : Int) = y1) (h2 : (g.2 : Int) = y2) (ho : o.op = .build 84 #[(0, x), (1, y)]) (hx : ρ x = .agg (vc l).toArray) (hy : ρ y = .agg #[.int .u64 y1, .int .u64 y2]) (hl : volOk n l) (h8 : n ≤ 8) :
    (execOp ρ o).run Try.prog w = .ok (.value (.agg (sc ⟨g, l, false⟩).toArray)) w := by
  subst h1
  subst h2
  have hb := run_buildS l g hl h8 w
  simp [execOp, ho, hx, hy, hb, Result.andThen]

def SpG (p : Nat) (V S : List Value) (y1 y2 : Int) : Nat → Value → World → Prop
  | 0, v, _ => v = .pointer (some ⟨p, 0, none⟩)
  | 1, v, _ => v = .pointer (some ⟨p, 0, none⟩)
  | 2, v, _ => v = .pointer (some ⟨p, 0, none⟩)
  | 3, v, _ => v = .pointer (some ⟨p, 1, none⟩)
  | 4, v, _ => v = .agg V.toArray
  | 5, v, _ => v = .agg #[.int .u64 y1, .int .u64 y2]
  | 6, v, _ => v = .agg S.toArray
  | _, _, _ => True
theorem SpG_mono (p : Nat) (V S : List Value) (y1 y2 : Int) (i : Nat) (v : Value) (w w' : World) (hi : i < 7) (h : SpG p V S y1 y2 i v w) (_ : Below w.heap.size w w') : SpG p V S y1 y2 i v w' := by
  match i, hi, h with
  | 0, _, h | 1, _, h | 2, _, h | 3, _, h | 4, _, h | 5, _, h | 6, _, h => exact h

set_option maxHeartbeats 6400000 in
theorem snap_any {own : Nat → Prop} {w : World} {p : Nat} {d : CH} (h : Is0 own w p d) (g : Gd) (hg : gdB g) : Calls Try.prog 19 #[.pointer (some ⟨p, 0, none⟩), gv g] w (Aft Is0 own p (d.snap g) w) := by
  have hb0 := (Below.refl w.heap.size w).alloc (Nat.le_refl _) (.cells #[.int .u64 (g.1 : Int), .int .u64 (g.2 : Int)] 37)
  have HIS := Lib.hid h
  obtain ⟨h0, v, hr⟩ := h
  have hr1 := hr.below hb0
  have HB0 := Lib.hid hb0
  have HR0 := Lib.hid hr1
  have HH0 := Lib.hid h0
  have HG := Lib.hid hg
  have HM := Lib.hid (may_any (⟨h0, v, hr1⟩ : Is0 own _ p d) g)
  obtain ⟨y1, hy1⟩ : ∃ y, (g.1 : Int) = y := ⟨_, rfl⟩
  obtain ⟨y2, hy2⟩ : ∃ y, (g.2 : Int) = y := ⟨_, rfl⟩
  have HY1 := Lib.hid hy1
  have HY2 := Lib.hid hy2
  unfold gv at HM ⊢
  rw [hy1, hy2] at HM HB0 HR0 ⊢
  clear hb0 hg hy1 hy2 hr1 hr h0
  have HSN : Hid (d.snap g = if d.may g = 0 then (⟨d.live, d.snaps ++ [⟨g, d.live, false⟩]⟩, 0) else (d, d.may g)) := rfl
  have HMZ := Lib.hid (fun h => may_zero (c := d) (g := g) h)
  obtain ⟨m, hm⟩ : ∃ m, d.may g = m := ⟨_, rfl⟩
  rw [hm] at HM HSN HMZ
  clear hm
  obtain ⟨W0, hW0⟩ : ∃ W, w.alloc (.cells #[.int .u64 y1, .int .u64 y2] 37) = W := ⟨_, rfl⟩
  rw [hW0] at HM HR0 HB0
  have q0 : W0.cell? ⟨w.heap.size, 0, none⟩ = some (.int .u64 y1) := by rw [← hW0]; exact (Blk.new w _ _).cell 0
  have q1 : W0.cell? ⟨w.heap.size, 1, none⟩ = some (.int .u64 y2) := by rw [← hW0]; exact (Blk.new w _ _).cell 1
  have HS0 : Hid (w.heap.size < W0.heap.size) := by unfold Hid; rw [← hW0]; simp
  have Q0 := Lib.hid q0
  have Q1 := Lib.hid q1
  go_enter Try.func19, Try.ntmps19
  go_wp2_with fail
  clear hW0
  refine HM.out.mono ?_
  rintro e W1 ⟨rfl, hb1⟩
  have HB1 := Lib.hid (HB0.out.trans (hb1.mono HB0.out.size))
  have HR1 := Lib.hid (HR0.out.below hb1)
  have R0 : Hid (W1.cell? ⟨w.heap.size, 0, none⟩ = some (.int .u64 y1)) := (hb1.cell (p := ⟨w.heap.size, 0, none⟩) HS0.out).trans Q0.out
  have R1 : Hid (W1.cell? ⟨w.heap.size, 1, none⟩ = some (.int .u64 y2)) := (hb1.cell (p := ⟨w.heap.size, 1, none⟩) HS0.out).trans Q1.out
  have HS1 : Hid (w.heap.size < W1.heap.size) := Nat.lt_of_lt_of_le HS0.out hb1.size
  clear hb1 HM HR0 HB0 q0 q1 Q0 Q1 HS0
  by_cases hz : m = 0
  · subst hz
    have hsn := HSN.out
    rw [if_pos rfl] at hsn
    have HSD := Lib.hid hsn
    obtain ⟨_, hfew⟩ := HMZ.out rfl
    have HFEW := Lib.hid hfew
    clear hsn HSN HMZ hfew
    have HVL : Hid ((vc d.live).length = 256) := vc_len HH0.out.live HH0.out.n8
    have HVC : Hid (∀ j u, (vc d.live)[j]? = some u → (ccells d.live.length d.live v).toArray[1 + j]? = some u) := fun j u hu => by simpa using ccells_vc (m := d.live.length) (v := v) j u hu
    go_wp2_with fail
    refine wp_region_slots_f (by kernel_rfl) 7 [12, 13, 14, 15, 16, 17, 18] (by kernel_rfl) (SpG p (vc d.live) (sc ⟨g, d.live, false⟩) y1 y2) (SpG_mono _ _ _ _ _) ?_ ?_
    · intro i o vs ρ W hi hop hρ hfn hb hG
      have t0 : ρ (.tmp 0) = .pointer (some ⟨p, 0, none⟩) := hρ.out 0 rfl
      have t3 : ρ (.tmp 3) = .pointer (some ⟨w.heap.size, 0, none⟩) := hρ.out 3 rfl
      have s13 := hρ.at_ 13 1 rfl
      have s14 := hρ.at_ 14 2 rfl
      have s15 := hρ.at_ 15 3 rfl
      have s16 := hρ.at_ 16 4 rfl
      have s17 := hρ.at_ 17 5 rfl
      have r0 : W.cell? ⟨w.heap.size, 0, none⟩ = some (.int .u64 y1) := (hb.cell (p := ⟨w.heap.size, 0, none⟩) HS1.out).trans R0.out
      have r1 : W.cell? ⟨w.heap.size, 1, none⟩ = some (.int .u64 y2) := (hb.cell (p := ⟨w.heap.size, 1, none⟩) HS1.out).trans R1.out
      rcases i with _ | _ | _ | _ | _ | _ | _ | i
      all_goals (first | omega | skip)
      all_goals simp only [List.getElem?_toArray, List.getElem?_cons_zero, List.getElem?_cons_succ, Option.some.injEq] at hop
      all_goals subst hop
      · exact stepTo_value (w' := W) (by unfold execOp; simp only [t0]; go_simp) ⟨Below.refl _ _, rfl⟩
      · exact stepTo_value (w' := W) (by unfold execOp; simp only [t0]; go_simp) ⟨Below.refl _ _, rfl⟩
      · have g1 : vs 1 = _ := hG 1 (by kernel_rfl)
        exact stepTo_value (w' := W) (by unfold execOp; simp only [s13, g1]; go_simp) ⟨Below.refl _ _, rfl⟩
      · have g2 : vs 2 = _ := hG 2 (by kernel_rfl)
        exact stepTo_value (w' := W) (by unfold execOp; simp only [s14, g2]; go_simp) ⟨Below.refl _ _, rfl⟩
      · have g3 : vs 3 = _ := hG 3 (by kernel_rfl)
        exact stepTo_value (w' := W) (exec_load_part 69 (.tmp 15) rfl p 1 (s15.trans g3) _ _ (vc d.live) _ _ (HR1.out.below hb).blk Try.underlying69 rfl (by rw [sizeVol, HVL.out]) HVC.out) ⟨Below.refl _ _, rfl⟩
      · exact stepTo_value (w' := W) (by unfold execOp; simp only [t3]; go_simp) ⟨Below.refl _ _, rfl⟩
      · have g4 : vs 4 = _ := hG 4 (by kernel_rfl)
        have g5 : vs 5 = _ := hG 5 (by kernel_rfl)
        exact stepTo_value (w' := W) (exec_buildS (.tmp 16) (.tmp 17) d.live g y1 y2 HY1.out HY2.out rfl (s16.trans g4) (s17.trans g5) HH0.out.live HH0.out.n8) ⟨Below.refl _ _, rfl⟩
    · intro vs W hb hG
      have g0 : vs 0 = _ := hG 0 (by decide)
      have g6 : vs 6 = _ := hG 6 (by decide)
      simp only [putList, putSel, if_true]
      rw [g0, g6]
      generalize vs 1 = z1
      generalize vs 2 = z2
      generalize vs 3 = z3
      generalize vs 4 = z4
      generalize vs 5 = z5
      have B2 := Lib.hid (HB1.out.trans (hb.mono HB1.out.size))
      have HR2 := Lib.hid (HR1.out.below hb)
      clear hG g0 g6 hb
      simp only [Act.put, List.setIfInBounds_toArray, List.set_cons_succ, List.set_cons_zero]
      have HPU := Lib.hid (put_any HR2.out HH0.out HFEW.out ⟨g, d.live, false⟩ HH0.out.live)
      obtain ⟨S, hS⟩ : ∃ S, sc ⟨g, d.live, false⟩ = S := ⟨_, rfl⟩
      rw [hS] at HPU ⊢
      clear hS
      refine wpAny_one (i := 7) (by kernel_rfl) rfl rfl ?_
      go_simp
      refine HPU.out.mono ?_
      rintro e W3 ⟨rfl, v', own', hp3, hbu3, hgr⟩
      have HP3 := Lib.hid hp3
      have HBU := Lib.hid ((But.of_below (S := fun j => j = p) B2.out).trans hbu3 (fun _ h => .inl h))
      have HGR : Hid (∀ j, own' j → own j ∨ w.heap.size ≤ j) := fun j hj => by
        rcases hgr j hj with h | h
        · exact .inl h
        · have := B2.out.size
          exact .inr (by omega)
      clear hp3 hbu3 hgr HPU
      go_simp
      refine ⟨by kernel_rfl, ?_⟩
      go_wp2_with fail
      go_ret
      rw [HSD.out]
      exact ⟨rfl, own', ⟨ok_push' HH0.out _ HFEW.out HH0.out.live HG.out, v', HP3.out⟩, HBU.out.mono (fun j hj => by rw [hj]; exact HR1.out.op), HGR.out⟩
  · have hc : (m == 0) = false := beq_false_of_ne hz
    have hcn : (m != 0) = true := by simpa using hz
    have hsn := HSN.out
    rw [if_neg hz] at hsn
    have HSD := Lib.hid hsn
    clear hsn HSN HMZ HR1
    go_wp2_with fail
    go_ret
    rw [HSD.out]
    exact (is0_same HIS.out HB1.out rfl).1
end Go.Proofs.Ytfinmfmbbgakhaa.ch.pg


/- RcFind, PgFind, PgList, PgApi. -/
import Derived.Test.YtfinmfmbbgakhaaQ0
import Derived.Test.YtfinmfmbbgakhaaQ2
import Derived.Test.YtfinmfmbbgakhaaQ5
import Derived.LoopTactic
/- The document's find: where a guid is, and whether it is shown. -/
namespace Go.Proofs.Ytfinmfmbbgakhaa.ch
open Go Go.RowKit Go.Sort Go.Proofs.Ytfinmfmbbgakhaa.ib
set_option maxRecDepth 100000

/-- Where, and which error. -/
def findR (d : CH) (g : Gd) : Int × Int := match d.find g with
  | none => (0, 5)
  | some i => match d.snaps[i]? with
    | none => (0, 5)
    | some s => ((i : Int), if s.hid then 14 else 0)
theorem find_some {d : CH} {g : Gd} {k : Nat} {s : Sn} (hk : d.snaps[k]? = some s) (hg : s.g = g) (hb : ∀ j < k, ∀ t : Sn, d.snaps[j]? = some t → t.g ≠ g) : d.find g = some k := by
  unfold CH.find
  obtain ⟨hkl, rfl⟩ := List.getElem?_eq_some_iff.1 hk
  rw [List.findIdx?_eq_some_iff_getElem]
  refine ⟨hkl, by simpa using hg, fun j hj => ?_⟩
  simpa using hb j hj _ (List.getElem?_eq_getElem (by omega))
theorem find_none {d : CH} {g : Gd} (hb : ∀ (j : Nat) (t : Sn), d.snaps[j]? = some t → t.g ≠ g) : d.find g = none := by
  unfold CH.find
  rw [List.findIdx?_eq_none_iff]
  intro s hs
  obtain ⟨j, hj, rfl⟩ := List.getElem_of_mem hs
  simpa using hb j _ (List.getElem?_eq_getElem hj)

def FiRel (xs : List RSn) (g : Gd) (y1 y2 : Int) (w : World) (i : Value) (wr : World) : Prop :=
  ∃ k : Nat, k ≤ xs.length ∧ i = .int .i64 (k : Int) ∧ (∀ j (h : j < xs.length), j < k → xs[j].1.g ≠ g) ∧ Below w.heap.size w wr ∧
    wr.cell? ⟨w.heap.size, 0, none⟩ = some (.int .u64 y1) ∧ wr.cell? ⟨w.heap.size, 1, none⟩ = some (.int .u64 y2)

set_option maxHeartbeats 1600000 in
theorem rfind_any {own : Nat → Prop} {w : World} {p : Nat} {d : CH} (h : RcIs own w p d) (g : Gd) : Calls Try.prog 53 #[.pointer (some ⟨p, 0, none⟩), gv g] w fun e w' => e = .returned (.tuple #[.int .i64 (findR d g).1, .int .i64 (findR d g).2]) ∧ Below w.heap.size w w' := by
  obtain ⟨h0, gn, cn, v, xs, hr⟩ := h
  obtain ⟨c0, c1⟩ := blk2 hr.blk
  have hplt := hr.blk.lt
  obtain ⟨A, c, rfl, _, _, _, hx⟩ := row_view hr.row
  have h20 : xs.length ≤ 20 := by have := h0.few; rw [hr.len]; exact this
  have HX := Lib.hid hx
  have HLN := Lib.hid hr.len
  have HNT := Lib.hid (fun i (hi : i < xs.length) => hr.nth i hi)
  clear hx hr h0 c0
  obtain ⟨R, hR⟩ : ∃ R, findR d g = R := ⟨_, rfl⟩
  have HR := Lib.hid hR
  rw [hR]
  clear hR
  have C1 := Lib.hid c1
  clear c1
  obtain ⟨y1, hy1⟩ : ∃ y, (g.1 : Int) = y := ⟨_, rfl⟩
  obtain ⟨y2, hy2⟩ : ∃ y, (g.2 : Int) = y := ⟨_, rfl⟩
  unfold gv
  rw [hy1, hy2]
  have HY1 := Lib.hid hy1
  have HY2 := Lib.hid hy2
  clear hy1 hy2
  go_enter Try.func53, Try.ntmps53
  go_wp2_with fail
  go_loopw [6] (fun i wr => FiRel xs g y1 y2 w i wr) (fun i _ => xs.length - (intOf i).toNat)
  case atStart => exact ⟨0, Nat.zero_le _, rfl, fun j _ h => absurd h (by omega), (Below.refl w.heap.size w).alloc (Nat.le_refl _) _, (Blk.new w 37 #[.int .u64 y1, .int .u64 y2]).cell 0, (Blk.new w 37 #[.int .u64 y1, .int .u64 y2]).cell 1⟩
  case round =>
    obtain ⟨k, hk, rfl, hno, hb, q0, q1⟩ := hrel
    have HNO := Lib.hid hno
    have HB := Lib.hid hb
    have Q0 := Lib.hid q0
    have Q1 := Lib.hid q1
    have c1 : wr.cell? ⟨p, 1, none⟩ = some (.slice A xs.length c) := by rw [HB.out.cell (p := ⟨p, 1, none⟩) hplt]; exact C1.out
    clear hno hb
    by_cases hlt : k < xs.length
    · obtain ⟨gr, rfl, hgl, _, g0, g1, _, g3⟩ := HX.out k hlt
      have e0 : wr.cell? ⟨gr, k * 4, none⟩ = some (.int .u64 (xs[k].1.g.1 : Int)) := by rw [HB.out.cell (p := ⟨gr, k * 4, none⟩) hgl]; exact g0
      have e1 : wr.cell? ⟨gr, k * 4 + 1, none⟩ = some (.int .u64 (xs[k].1.g.2 : Int)) := by rw [HB.out.cell (p := ⟨gr, k * 4 + 1, none⟩) hgl]; exact g1
      have e3 : wr.cell? ⟨gr, k * 4 + 3, none⟩ = some (.bool xs[k].1.hid) := by rw [HB.out.cell (p := ⟨gr, k * 4 + 3, none⟩) hgl]; exact g3
      have hki : (k : Int) < (xs.length : Int) := by omega
      have HN := Lib.hid (HNT.out k hlt)
      have HNX : Hid (xs[k].1.g ≠ g → ∀ j (h : j < xs.length), j < k + 1 → xs[j].1.g ≠ g) := fun hne j hj hjk => by
        by_cases hjk2 : j < k
        · exact HNO.out j hj hjk2
        · obtain rfl : j = k := by omega
          exact hne
      clear g0 g1 g3
      generalize xs[k].1 = s at *
      have hx := gd_eq s.g g
      rw [HY1.out, HY2.out] at hx
      generalize (s.g.1 : Int) = x1 at *
      generalize (s.g.2 : Int) = x2 at *
      have HXY := Lib.hid hx
      obtain ⟨b1, hb1⟩ : ∃ q, (x1 == y1) = q := ⟨_, rfl⟩
      obtain ⟨b2, hb2⟩ : ∃ q, (x2 == y2) = q := ⟨_, rfl⟩
      have HQ : Hid ((b1 && b2) = decide (s.g = g)) := by unfold Hid; rw [← hb1, ← hb2]; exact HXY.out
      clear hx HXY
      by_cases hqq : s.g = g
      · have HQQ := Lib.hid hqq
        have hbb := HQ.out
        rw [decide_eq_true hqq, Bool.and_eq_true] at hbb
        obtain ⟨rfl, rfl⟩ := hbb
        have hfi : findR d g = ((k : Int), if s.hid then 14 else 0) := by
          have : d.find g = some k := find_some HN.out hqq (fun j hj t ht => by
            have hjl : j < xs.length := by omega
            rw [HNT.out j hjl] at ht
            injection ht with ht
            rw [← ht]
            exact HNO.out j hjl hj)
          unfold findR
          rw [this]
          show (match d.snaps[k]? with
            | none => ((0 : Int), (5 : Int))
            | some s => ((k : Int), if s.hid then 14 else 0)) = _
          rw [HN.out]
        rw [HR.out] at hfi
        have HF := Lib.hid hfi
        clear hqq HQ hfi
        generalize s.hid = hd at *
        cases hd with
        | true =>
          go_wp2_with fail
          go_quiet (fail)
          go_wp2_with fail
          go_ret2
          rw [HF.out]
          exact ⟨rfl, by first | exact drewC HB.out _ | exact HB.out⟩
        | false =>
          go_wp2_with fail
          go_quiet (fail)
          go_wp2_with fail
          go_ret2
          rw [HF.out]
          exact ⟨rfl, by first | exact drewC HB.out _ | exact HB.out⟩
      · have hbb := HQ.out
        rw [decide_eq_false hqq] at hbb
        have HNX2 := Lib.hid (HNX.out hqq)
        have hcs : b1 = false ∨ (b1 = true ∧ b2 = false) := by cases b1 <;> cases b2 <;> simp at hbb ⊢
        clear hqq HQ HNX hbb
        rcases hcs with rfl | ⟨rfl, rfl⟩
        all_goals
          go_wp2_with fail
          go_quiet (fail)
          go_wp2_with fail
          go_roundw
          case rel => exact ⟨k + 1, by omega, by go_num, HNX2.out, by first | exact drewC HB.out _ | exact HB.out, Q0.out, Q1.out⟩
          case measure => simp [intOf]; omega
    · have hki : ¬ (k : Int) < (xs.length : Int) := by omega
      have hfi : findR d g = (0, 5) := by
        have : d.find g = none := find_none (fun j t ht => by
          have hjl : j < xs.length := by
            rw [HLN.out]
            exact (List.getElem?_eq_some_iff.1 ht).1
          rw [HNT.out j hjl] at ht
          injection ht with ht
          rw [← ht]
          exact HNO.out j hjl (by omega))
        unfold findR
        rw [this]
      rw [HR.out] at hfi
      have HF := Lib.hid hfi
      clear hfi
      go_wp2_with fail
      go_ret2
      rw [HF.out]
      exact ⟨rfl, HB.out⟩
end Go.Proofs.Ytfinmfmbbgakhaa.ch

/- The program finds a snapshot: a closure that compares guids. -/
namespace Go.Proofs.Ytfinmfmbbgakhaa.ch.pg
open Go Go.RowKit Go.Sort Go.Proofs.Ytfinmfmbbgakhaa.ib
set_option maxRecDepth 100000

set_option maxHeartbeats 1600000 in
theorem clos_any {w : World} {n gb : Nat} (s : Sn) (hs : volOk n s.bs) (h8 : n ≤ 8) (g : Gd) (hgb : gb < w.heap.size) (q0 : w.cell? ⟨gb, 0, none⟩ = some (.int .u64 (g.1 : Int))) (q1 : w.cell? ⟨gb, 1, none⟩ = some (.int .u64 (g.2 : Int))) :
    Calls Try.prog 56 #[.agg (sc s).toArray, .pointer (some ⟨gb, 0, none⟩)] w fun e w' => e = .returned (.bool (decide (s.g = g))) ∧ Below w.heap.size w w' := by
  have HSL : Hid ((sc s).length = 259) := sc_len hs h8
  have HS1 := Lib.hid (sc_one s)
  have h1 := sc_g1 hs h8
  have h2 := sc_g2 hs h8
  have hq := gd_eq s.g g
  obtain ⟨S, hS⟩ : ∃ S, sc s = S := ⟨_, rfl⟩
  rw [hS] at HSL HS1 h1 h2 ⊢
  have hb0 := (Below.refl w.heap.size w).alloc (Nat.le_refl _) (.cells S.toArray 84)
  have e0 : (w.alloc (.cells S.toArray 84)).cell? ⟨w.heap.size, 256, none⟩ = some (.int .u64 (s.g.1 : Int)) := by
    rw [(Blk.new w 84 S.toArray).cell 256]
    simpa using h1
  have e1 : (w.alloc (.cells S.toArray 84)).cell? ⟨w.heap.size, 257, none⟩ = some (.int .u64 (s.g.2 : Int)) := by
    rw [(Blk.new w 84 S.toArray).cell 257]
    simpa using h2
  have p0 := (hb0.cell (p := ⟨gb, 0, none⟩) hgb).trans q0
  have p1 := (hb0.cell (p := ⟨gb, 1, none⟩) hgb).trans q1
  have HB := Lib.hid hb0
  obtain ⟨r, hr⟩ : ∃ r, decide (s.g = g) = r := ⟨_, rfl⟩
  rw [hr] at hq ⊢
  generalize (s.g.1 : Int) = x1 at *
  generalize (s.g.2 : Int) = x2 at *
  generalize (g.1 : Int) = y1 at *
  generalize (g.2 : Int) = y2 at *
  obtain ⟨b1, hb1⟩ : ∃ q, (x1 == y1) = q := ⟨_, rfl⟩
  obtain ⟨b2, hb2⟩ : ∃ q, (x2 == y2) = q := ⟨_, rfl⟩
  rw [hb1, hb2] at hq
  subst hq
  clear hS h1 h2 hb0 hr hs
  have E0 := Lib.hid e0
  have E1 := Lib.hid e1
  have P0 := Lib.hid p0
  have P1 := Lib.hid p1
  clear e0 e1 p0 p1 q0 q1
  cases b1 <;> cases b2
  all_goals
    go_enter Try.func56, Try.ntmps56
    go_wp2_with (refine wpList_value rfl (exec_box 84 (.tmp 0) S.toArray rfl rfl (by rw [sizeSnp, List.size_toArray, HSL.out]) (cells_all HS1.out)) ?_; have e0 := E0.out; have e1 := E1.out; have p0 := P0.out; have p1 := P1.out; generalize w.alloc (.cells S.toArray 84) = W at *)
    go_ret
    exact ⟨rfl, HB.out⟩

/-- Where it is; -1, if it is nowhere. -/
def idxR (l : List Sn) (g : Gd) : Int := match l.findIdx? fun s => decide (s.g = g) with
  | none => -1
  | some i => (i : Int)
theorem idx_some {l : List Sn} {g : Gd} {k : Nat} (hk : k < l.length) (hg : l[k].g = g) (hb : ∀ j (h : j < l.length), j < k → l[j].g ≠ g) : idxR l g = (k : Int) := by
  unfold idxR
  have : (l.findIdx? fun s => decide (s.g = g)) = some k := by
    rw [List.findIdx?_eq_some_iff_getElem]
    exact ⟨hk, by simpa using hg, fun j hj => by simpa using hb j (by omega) hj⟩
  rw [this]
theorem idx_none {l : List Sn} {g : Gd} (hb : ∀ j (h : j < l.length), l[j].g ≠ g) : idxR l g = -1 := by
  unfold idxR
  have : (l.findIdx? fun s => decide (s.g = g)) = none := by
    rw [List.findIdx?_eq_none_iff]
    intro s hs
    obtain ⟨j, hj, rfl⟩ := List.getElem_of_mem hs
    simpa using hb j hj
  rw [this]
def IxRel (l : List Sn) (g : Gd) (w : World) (i : Value) (wr : World) : Prop :=
  ∃ k : Nat, k ≤ l.length ∧ i = .int .i64 (k : Int) ∧ (∀ j (h : j < l.length), j < k → l[j].g ≠ g) ∧ Below w.heap.size w wr

set_option maxHeartbeats 3200000 in
theorem idx_any {w : World} {n gb : Nat} {v : Value} {l : List Sn} (h : SRow w v l) (ho : ∀ s ∈ l, volOk n s.bs) (h8 : n ≤ 8) (h20 : l.length ≤ 20) (g : Gd) (hgb : gb < w.heap.size) (q0 : w.cell? ⟨gb, 0, none⟩ = some (.int .u64 (g.1 : Int))) (q1 : w.cell? ⟨gb, 1, none⟩ = some (.int .u64 (g.2 : Int))) :
    Calls Try.prog 55 #[v, .func (.func 56) #[] #[.pointer (some ⟨gb, 0, none⟩)]] w fun e w' => e = .returned (.int .i64 (idxR l g)) ∧ Below w.heap.size w w' := by
  obtain ⟨A, c, rfl, hlc, hA, hx⟩ := srow_view h ho h8
  have HX := Lib.hid hx
  have HQ0 := Lib.hid q0
  have HQ1 := Lib.hid q1
  have HO := Lib.hid ho
  have HRS := Lib.hid (fun k hk hg hb => idx_some (l := l) (g := g) (k := k) hk hg hb)
  have HRN := Lib.hid (fun hb => idx_none (l := l) (g := g) hb)
  obtain ⟨R, hR⟩ : ∃ R, idxR l g = R := ⟨_, rfl⟩
  rw [hR] at HRS HRN ⊢
  clear hx q0 q1 h hR ho
  go_enter Try.func55, Try.ntmps55
  go_wp2_with fail
  go_loopw [8] (fun i wr => IxRel l g w i wr) (fun i _ => l.length - (intOf i).toNat)
  case atStart => exact ⟨0, Nat.zero_le _, rfl, fun j _ h => absurd h (by omega), Below.refl _ _⟩
  case round =>
    obtain ⟨k, hk, rfl, hno, hB⟩ := hrel
    have HNO := Lib.hid hno
    have HB := Lib.hid hB
    clear hno hB
    by_cases hlt : k < l.length
    · have hki : (k : Int) < (l.length : Int) := by omega
      obtain ⟨gr, cur, rfl, hb, hc⟩ := HX.out k hlt
      have hso := HO.out _ (List.getElem_mem hlt)
      have HSL : Hid ((sc l[k]).length = 259) := sc_len hso h8
      have HBK := Lib.hid (hb.below HB.out)
      have HC := Lib.hid hc
      have HCL := Lib.hid (clos_any l[k] hso h8 g (w := wr) (Nat.lt_of_lt_of_le hgb HB.out.size) ((HB.out.cell (p := ⟨gb, 0, none⟩) hgb).trans HQ0.out) ((HB.out.cell (p := ⟨gb, 1, none⟩) hgb).trans HQ1.out))
      have HYE := Lib.hid (fun (e : l[k].g = g) => HRS.out k hlt e HNO.out)
      have HNX : Hid (l[k].g ≠ g → ∀ j (h : j < l.length), j < k + 1 → l[j].g ≠ g) := fun hne j hj hjk => by
        by_cases hjk2 : j < k
        · exact HNO.out j hj hjk2
        · obtain rfl : j = k := by omega
          exact hne
      clear hb hc hso
      generalize sc l[k] = S at *
      generalize l[k].g = gk at *
      go_wp2_with (refine wpList_value rfl (exec_load_part 84 (.tmp 14) rfl gr (k * 259) rfl _ cur S _ _ HBK.out Try.underlying84 rfl (by rw [sizeSnp, HSL.out]) HC.out) ?_)
      refine HCL.out.mono ?_
      rintro e W1 ⟨rfl, hb1⟩
      have HB1 := Lib.hid (HB.out.trans (hb1.mono HB.out.size))
      clear hb1
      by_cases hg : gk = g
      · rw [decide_eq_true hg]
        have HR := Lib.hid (HYE.out hg)
        clear hg HYE HNX HCL
        go_wp2_with fail
        go_ret
        rw [HR.out]
        exact ⟨rfl, HB1.out⟩
      · rw [decide_eq_false hg]
        have HN := Lib.hid (HNX.out hg)
        clear hg HYE HNX HCL
        go_wp2_with fail
        go_roundw
        case rel => exact ⟨k + 1, by omega, by go_num, HN.out, HB1.out⟩
        case measure => simp [intOf]; omega
    · have hki : ¬ (k : Int) < (l.length : Int) := by omega
      have HR := Lib.hid (HRN.out (fun j hj => HNO.out j hj (by omega)))
      go_wp2_with fail
      go_ret
      rw [HR.out]
      exact ⟨rfl, HB.out⟩

/-- Where, and which error. -/
def findP (d : CH) (g : Gd) : Int × Int := match d.find g with
  | none => (0, 5)
  | some i => match d.snaps[i]? with
    | none => (0, 5)
    | some s => if s.hid then (0, 14) else ((i : Int), 0)
theorem findP_idx (d : CH) (g : Gd) : (idxR d.snaps g = -1 ∧ findP d g = (0, 5)) ∨ ∃ i s, idxR d.snaps g = ((i : Nat) : Int) ∧ i < d.snaps.length ∧ d.snaps[i]? = some s ∧ findP d g = if s.hid then (0, 14) else ((i : Int), 0) := by
  unfold idxR findP CH.find
  cases hf : d.snaps.findIdx? fun s => decide (s.g = g) with
  | none => exact .inl ⟨rfl, rfl⟩
  | some i =>
    have hi := (List.findIdx?_eq_some_iff_getElem.1 hf).1
    refine .inr ⟨i, d.snaps[i], rfl, hi, List.getElem?_eq_getElem hi, ?_⟩
    show (match d.snaps[i]? with
      | none => ((0 : Int), (5 : Int))
      | some s => if s.hid then (0, 14) else ((i : Int), 0)) = _
    rw [List.getElem?_eq_getElem hi]
theorem findP_cases (d : CH) (g : Gd) : (∃ c, c ≠ 0 ∧ findP d g = (0, c) ∧ d.hide g = (d, c) ∧ d.read g = ([], c)) ∨
    ∃ (i : Nat) (s : Sn), findP d g = ((i : Int), 0) ∧ i < d.snaps.length ∧ d.snaps[i]? = some s ∧ d.hide g = (⟨d.live, hideAt d.snaps i⟩, 0) ∧ d.read g = (s.bs, 0) := by
  unfold findP CH.hide CH.read
  cases hf : d.find g with
  | none => exact .inl ⟨5, by decide, rfl, rfl, rfl⟩
  | some i =>
    dsimp only
    have hi := (List.findIdx?_eq_some_iff_getElem.1 hf).1
    rw [List.getElem?_eq_getElem hi]
    dsimp only
    cases hh : d.snaps[i].hid with
    | true => exact .inl ⟨14, by decide, by simp, by simp, by simp⟩
    | false => exact .inr ⟨i, d.snaps[i], by simp, hi, List.getElem?_eq_getElem hi, by simp, by simp⟩

set_option maxHeartbeats 3200000 in
theorem find_any {own : Nat → Prop} {w : World} {p : Nat} {d : CH} (h : Is0 own w p d) (g : Gd) : Calls Try.prog 49 #[.pointer (some ⟨p, 0, none⟩), gv g] w fun e w' => e = .returned (.tuple #[.int .i64 (findP d g).1, .int .i64 (findP d g).2]) ∧ Below w.heap.size w w' := by
  obtain ⟨h0, v, hr⟩ := h
  have hb0 := (Below.refl w.heap.size w).alloc (Nat.le_refl _) (.cells #[.int .u64 (g.1 : Int), .int .u64 (g.2 : Int)] 37)
  have hr1 := hr.below hb0
  have q0 : (w.alloc (.cells #[.int .u64 (g.1 : Int), .int .u64 (g.2 : Int)] 37)).cell? ⟨w.heap.size, 0, none⟩ = some (.int .u64 (g.1 : Int)) := (Blk.new w _ _).cell 0
  have q1 : (w.alloc (.cells #[.int .u64 (g.1 : Int), .int .u64 (g.2 : Int)] 37)).cell? ⟨w.heap.size, 1, none⟩ = some (.int .u64 (g.2 : Int)) := (Blk.new w _ _).cell 1
  have HI := Lib.hid (idx_any hr1.row h0.snaps h0.n8 h0.few g (by simp) q0 q1)
  have q2 := hr1.c2 h0
  have HFI := Lib.hid (findP_idx d g)
  have HB := Lib.hid hb0
  have HR := Lib.hid hr1
  have HH0 := Lib.hid h0
  obtain ⟨R, hR⟩ : ∃ R, findP d g = R := ⟨_, rfl⟩
  rw [hR] at HFI ⊢
  obtain ⟨X, hX⟩ : ∃ X, idxR d.snaps g = X := ⟨_, rfl⟩
  rw [hX] at HFI HI
  have hfew := h0.few
  have hplt := HR.out.blk.lt
  obtain ⟨A, c, rfl, hlc, _, _⟩ := srow_view hr1.row h0.snaps h0.n8
  clear q0 q1 hb0 hr1 hr h0 hR hX
  unfold gv
  go_enter Try.func49, Try.ntmps49
  go_wp2_with fail
  refine HI.out.mono ?_
  rintro e W1 ⟨rfl, hb1⟩
  have HB1 := Lib.hid (HB.out.trans (hb1.mono HB.out.size))
  have HR1 := Lib.hid (HR.out.below hb1)
  clear hb1 HI q2 HB HR
  rcases HFI.out with ⟨rfl, hf⟩ | ⟨i, s, rfl, hil, hs, hf⟩
  · have HF := Lib.hid hf
    clear hf HFI
    go_wp2_with fail
    go_ret2
    rw [HF.out]
    exact ⟨rfl, HB1.out⟩
  · have HF := Lib.hid hf
    obtain ⟨A2, c3, e, _, _, hx⟩ := srow_view HR1.out.row HH0.out.snaps HH0.out.n8
    simp only [Value.slice.injEq] at e
    obtain ⟨rfl, _, rfl⟩ := e
    obtain ⟨gr, cur, rfl, hb, hc⟩ := hx i hil
    obtain rfl : d.snaps[i] = s := by
      rw [List.getElem?_eq_getElem hil] at hs
      exact Option.some.inj hs
    have hso := HH0.out.snaps _ (List.getElem_mem hil)
    have c3 : W1.cell? ⟨gr, i * 259 + 258, none⟩ = some (.bool d.snaps[i].hid) := by
      rw [hb.cell]
      exact hc 258 _ (sc_hid hso HH0.out.n8)
    have q2 := HR1.out.c2 HH0.out
    have hii : (i : Int) < (d.snaps.length : Int) := by omega
    have hin : ¬ (i : Int) < 0 := by omega
    generalize d.snaps[i].hid = hd at *
    clear hf HFI hx hb hc hso hs
    cases hd with
    | true =>
      have HF2 : Hid (R = (0, 14)) := by unfold Hid; simpa using HF.out
      go_wp2_with fail
      go_ret2
      rw [HF2.out]
      exact ⟨rfl, HB1.out⟩
    | false =>
      have HF2 : Hid (R = ((i : Int), 0)) := by unfold Hid; simpa using HF.out
      go_wp2_with fail
      go_ret2
      rw [HF2.out]
      exact ⟨rfl, HB1.out⟩
theorem nfind_any (g : Gd) (w : World) : Calls Try.prog 49 #[.pointer none, gv g] w fun e w' => e = .returned (.tuple #[.int .i64 0, .int .i64 1]) ∧ Below w.heap.size w w' := by
  have HB := Lib.hid ((Below.refl w.heap.size w).alloc (Nat.le_refl _) (.cells #[.int .u64 (g.1 : Int), .int .u64 (g.2 : Int)] 37))
  unfold gv
  go_enter Try.func49, Try.ntmps49
  go_wp2_with fail
  go_ret2
  exact ⟨rfl, HB.out⟩
end Go.Proofs.Ytfinmfmbbgakhaa.ch.pg

/- The program's list of a volume's blocks, as texts. -/
namespace Go.Proofs.Ytfinmfmbbgakhaa.ch.pg
open Go Go.RowKit Go.Sort Go.Proofs.Ytfinmfmbbgakhaa.ib
set_option maxRecDepth 100000

def tcells (l : List Bt) : Array Value := (l.map fun s => Value.string (str s)).toArray
theorem tcells_at (l : List Bt) (i : Nat) (h : i < l.length) : (tcells l)[i]? = some (.string (str l[i])) := by simp [tcells, h]
theorem tcells_set (l : List Bt) (i : Nat) (v : Bt) : (tcells l).setIfInBounds i (.string (str v)) = tcells (l.set i v) := by
  unfold tcells
  rw [List.setIfInBounds_toArray, List.map_set]
theorem tcells_new (n : Nat) : madeCells #[.string ByteArray.empty] n = tcells (List.replicate n []) := by
  apply Array.ext
  · simp [size_madeCells, tcells]
  · intro j h1 h2
    have e : (tcells (List.replicate n []))[j]? = some (.string (str [])) := by
      have hj : j < n := by simpa [tcells] using h2
      rw [tcells_at _ _ (by simpa using hj), List.getElem_replicate]
    rw [Array.getElem?_eq_getElem h2] at e
    rw [Option.some.inj e]
    simp [madeCells, Nat.mod_one]
    rfl
theorem make_texts (n : Nat) (h : n ≤ 1000) (W : World) : (Instr.makeSlice 48 (.int .i64 (n : Int)) (.int .i64 (n : Int))).run Try.prog W = .ok (.slice (some ⟨W.heap.size, 0, none⟩) n n) (W.alloc (.cells (tcells (List.replicate n [])) 9)) := by
  obtain ⟨i0, hi, hz0, hz1, hz2⟩ := info_parts Try.info9
  have hmk := run_make (P := Try.prog) W 48 9 i0 (.string ByteArray.empty) Try.underlying48 hi hz0 .i64 .i64 (n : Int) (n : Int) (by omega) (Int.le_refl _) (by rw [hz2]; omega) (by omega)
  rw [hz1] at hmk
  rw [← tcells_new]
  simpa [Value.cells] using hmk
theorem exec_makeT {ρ : Operand → Value} {o : Oper} {w : World} (x y : Operand) (n : Nat) (ho : o.op = .makeSlice 48 x y) (hx : ρ x = .int .i64 (n : Int)) (hy : ρ y = .int .i64 (n : Int)) (h : n ≤ 1000) :
    (execOp ρ o).run Try.prog w = .ok (.value (.slice (some ⟨w.heap.size, 0, none⟩) n n)) (w.alloc (.cells (tcells (List.replicate n [])) 9)) := by
  simp [execOp, ho, hx, hy, make_texts n h w, Result.andThen]
theorem conv_at (P : Bt) (cs : Array Value) (b o : Nat) (t : TypeId) (w : World) (hp : P.length = 32) (h : Blk w b t cs) (hc : ∀ (j : Nat) (u : Value), (Lib.byteCells P)[j]? = some u → cs[o + j]? = some u) :
    (convert 82 9 (.slice (some ⟨b, o, none⟩) 32 32)).run Try.prog w = .ok (.string (str P)) w := by
  have := run_convert_bytes_back (P := Try.prog) w 82 9 5 ⟨b, o, none⟩ 32 P Try.underlying82 Try.underlying5 Try.underlying9 ?_
  · rw [hp] at this
    exact this
  · intro j hj
    rw [addr_add, h.cell]
    exact hc j _ (by simp [Lib.byteCells, hj])

def PlRel' (l : List Bt) (n : Nat) (w : World) (i : Value) (wr : World) : Prop :=
  ∃ k : Nat, k ≤ n ∧ i = .int .i64 (k : Int) ∧ Blk wr w.heap.size 9 (tcells (l.take k ++ List.replicate (n - k) [])) ∧ Below w.heap.size w wr
theorem take_set {l : List Bt} {n k : Nat} (hl : l.length = n) (hk : k < n) : (l.take k ++ List.replicate (n - k) []).set k (l[k]'(by omega)) = l.take (k + 1) ++ List.replicate (n - (k + 1)) [] := by
  rw [List.set_append_right _ _ (by rw [List.length_take]; omega), List.length_take, Nat.min_eq_left (by omega), Nat.sub_self, show n - k = (n - (k + 1)) + 1 by omega, List.replicate_succ, List.set_cons_zero, List.take_succ_eq_append_getElem (by omega), List.append_assoc]
  rfl

set_option maxHeartbeats 1600000 in
theorem list_any {w : World} {b o n : Nat} {t : TypeId} {cs : Array Value} {l : List Bt} (h : Blk w b t cs) (hc : ∀ j u, (vc l)[j]? = some u → cs[o + j]? = some u) (ho : volOk n l) (h8 : n ≤ 8) :
    Calls Try.prog 47 #[.pointer (some ⟨b, o, none⟩), .int .i64 (n : Int)] w (okTx l w) := by
  have HB := Lib.hid h
  have HC := Lib.hid hc
  have HO := Lib.hid ho
  have HBL : Hid (b < w.heap.size) := h.lt
  clear h hc ho
  go_enter Try.func47, Try.ntmps47
  go_wp2_with (at_make; refine wpList_value rfl (exec_makeT _ _ n rfl rfl rfl (by omega)) ?_)
  go_loopw [6, 11] (fun _ i wr => PlRel' l n w i wr) (fun _ i _ => n - (intOf i).toNat)
  case atStart => exact ⟨0, Nat.zero_le _, rfl, by simpa using Blk.new w 9 (tcells (List.replicate n [])), (Below.refl _ _).alloc (Nat.le_refl _) _⟩
  case round =>
    obtain ⟨k, hk, rfl, hbk, hbel⟩ := hrel
    have HK := Lib.hid hbk
    have HBE := Lib.hid hbel
    clear hbk hbel
    by_cases hlt : k < n
    · have hki : (k : Int) < (n : Int) := by omega
      have hk8 : (k : Int) < 8 := by omega
      have hln : k < l.length := by rw [HO.out.1]; exact hlt
      have hp : k < (pad l).length := by rw [pad_len HO.out h8]; omega
      have hconv := conv_at l[k] cs b (o + k * 32) t wr (HO.out.2 _ (List.getElem_mem hln)) (HB.out.of_block (HBE.out.block b HBL.out)) (fun j u hu => by
        rw [Nat.add_assoc]
        refine HC.out _ _ (vc_get HO.out k hp j u ?_)
        rw [pad_lt l k hln hp]
        exact hu)
      have f1 := HK.out.frozen k
      have HS : Hid ((tcells (l.take k ++ List.replicate (n - k) [])).setIfInBounds k (.string (str l[k])) = tcells (l.take (k + 1) ++ List.replicate (n - (k + 1)) [])) := by
        unfold Hid
        rw [tcells_set, take_set HO.out.1 hlt]
      obtain ⟨z, hz⟩ : ∃ z, wr.cell? ⟨w.heap.size, k, none⟩ = some z := by
        rw [HK.out.cell k, tcells_at _ _ (by rw [List.length_append, List.length_take, List.length_replicate]; omega)]
        exact ⟨_, rfl⟩
      have HK2 := Lib.hid (HK.out.set_ k (.string (str l[k])))
      have HB2 := Lib.hid (HBE.out.setCell (p := ⟨w.heap.size, k, none⟩) (Nat.le_refl _) (.string (str l[k])))
      clear HK HBE hp
      go_wp2_with fail
      go_roundw
      case rel => exact ⟨k + 1, by omega, by go_num, by rw [← HS.out]; exact HK2.out, HB2.out⟩
      case measure => simp [intOf]; omega
    · obtain rfl : k = n := by omega
      have hki : ¬ (k : Int) < (k : Int) := by omega
      have hl := HO.out.1
      have HT : Hid (TxL wr (some ⟨w.heap.size, 0, none⟩) l) := fun i hi => ⟨w.heap.size, 0, rfl, HK.out.lt, by
        rw [Nat.zero_add, HK.out.cell i, tcells_at _ _ (by rw [List.length_append, List.length_take]; omega)]
        rw [List.getElem_append_left (by rw [List.length_take]; omega), List.getElem_take]⟩
      have HLT := Lib.hid HK.out.lt
      have HLN := Lib.hid hl
      clear hl HK
      go_wp2_with fail
      go_ret
      refine ⟨_, k, by rw [HLN.out]; rfl, HT.out, fun b o e => ?_, HBE.out⟩
      simp only [Option.some.injEq, Addr.mk.injEq, and_true] at e
      obtain ⟨rfl, _⟩ := e
      exact ⟨Nat.le_refl _, HLT.out⟩
end Go.Proofs.Ytfinmfmbbgakhaa.ch.pg

/- The program's calls on a chain that only read, and New, Copy, Write. -/
namespace Go.Proofs.Ytfinmfmbbgakhaa.ch.pg
open Go Go.RowKit Go.Sort Go.Proofs.Ytfinmfmbbgakhaa.ib
set_option maxRecDepth 100000

theorem is0_same {own : Nat → Prop} {w w' : World} {p : Nat} {d : CH} {r : Int} {e : Ending} (h : Is0 own w p d) (hb : Below w.heap.size w w') (he : e = .returned (.int .i64 r)) : Aft Is0 own p (d, r) w e w' ∧ But (fun j => j = p) w w' := by
  obtain ⟨h0, v, h1⟩ := h
  exact ⟨⟨he, own, ⟨h0, v, h1.below hb⟩, But.of_below hb, fun j hj => .inl hj⟩, But.of_below hb⟩

/-! ### New -/
theorem ccells_new (n : Nat) (h8 : n ≤ 8) : ccells n (zvol n) (.slice none 0 0) = ccells n [] (.slice none 0 0) := by
  unfold ccells
  rw [vc_zvol n h8]
theorem exec_buildC {ρ : Operand → Value} {o : Oper} {w : World} (x : Operand) (n : Nat) (ho : o.op = .build 72 #[(0, x)]) (hx : ρ x = .int .i64 (n : Int)) :
    (execOp ρ o).run Try.prog w = .ok (.value (.agg (ccells n [] (.slice none 0 0)).toArray)) w := by
  obtain ⟨i0, hi, hz0, _, _⟩ := info_parts infoChn
  have hz : ∀ w, (zeroValue 72).run Try.prog w = .ok (.agg (ccells 0 [] (.slice none 0 0)).toArray) w := fun w => by simp [zeroValue, typeInfo, hi, hz0]
  have hb : (Instr.build 72 #[(0, .int .i64 (n : Int))]).run Try.prog w = .ok (.agg (ccells n [] (.slice none 0 0)).toArray) w := by
    have e : (ccells n [] (.slice none 0 0)).toArray = (ccells 0 [] (.slice none 0 0)).toArray.set! 0 (.int .i64 (n : Int)) := rfl
    rw [e]
    have hne : (ccells 0 [] (.slice none 0 0)).toArray ≠ #[] := by simp [ccells]
    generalize (ccells 0 [] (.slice none 0 0)).toArray = z0 at *
    simp [Instr.build, hz, Result.andThen, go_sem, Value.cells]
    rw [if_neg hne]
    rfl
  simp [execOp, ho, hx, hb, Result.andThen]
theorem ccells_one (n : Nat) (l : List Bt) (v : Value) (hv : v.oneCell' = true) : ∀ u ∈ ccells n l v, u.oneCell' = true := by
  intro u hu
  unfold ccells at hu
  simp only [List.mem_cons, List.mem_append, List.not_mem_nil, or_false] at hu
  rcases hu with rfl | hu | rfl
  · rfl
  · exact vc_one l u hu
  · exact hv

theorem new_none (b : Int) (w : World) (hb : b64 b) (h : b < 1 ∨ 8 < b) : Calls Try.prog 8 #[.int .i64 b] w fun e w' => e = .returned (.pointer none) ∧ Below w.heap.size w w' := by
  rcases h with h | h
  · go_enter Try.func8, Try.ntmps8
    go_wp2_with fail
    go_ret
    exact ⟨rfl, Below.refl _ _⟩
  · have h2 : ¬ b < 1 := by omega
    go_enter Try.func8, Try.ntmps8
    go_wp2_with fail
    go_ret
    exact ⟨rfl, Below.refl _ _⟩
def NewPP (n : Nat) (w : World) (e : Ending) (w' : World) : Prop := ∃ p own, e = .returned (.pointer (some ⟨p, 0, none⟩)) ∧ Is0 own w' p (chNew n) ∧ Below w.heap.size w w' ∧ ∀ j, own j → w.heap.size ≤ j
theorem new_some (n : Nat) (w : World) (h1 : 1 ≤ n) (h8 : n ≤ 8) : Calls Try.prog 8 #[.int .i64 (n : Int)] w (NewPP n w) := by
  have hi1 : ¬ (n : Int) < 1 := by omega
  have hi8 : ¬ (8 : Int) < (n : Int) := by omega
  have HC := Lib.hid (ccells_one n [] (.slice none 0 0) rfl)
  have HL : Hid ((ccells n [] (.slice none 0 0)).length = 258) := ccells_len (n := 0) ⟨rfl, fun v hv => by simp at hv⟩ (by omega)
  have HE := Lib.hid (ccells_new n h8)
  obtain ⟨C, hC⟩ : ∃ C, ccells n [] (.slice none 0 0) = C := ⟨_, rfl⟩
  have HCC := Lib.hid hC
  rw [hC] at HC HL HE
  clear hC
  go_enter Try.func8, Try.ntmps8
  go_wp2_with (first | (refine wpList_value rfl (exec_buildC _ n rfl rfl) ?_; rw [HCC.out]) | (refine wpList_value rfl (exec_box 72 (.tmp 10) C.toArray rfl rfl (by rw [sizeChn, List.size_toArray, HL.out]) (cells_all HC.out)) ?_))
  go_ret
  refine ⟨w.heap.size, fun j => j = w.heap.size, rfl, ⟨?_, .slice none 0 0, ?_, ?_, rfl, (fun k hk => by cases hk), fun k hk => by rw [hk]; simp⟩, (Below.refl w.heap.size w).alloc (Nat.le_refl _) _, fun j hj => by omega⟩
  · have hl : (chNew n).live.length = n := by simp [chNew, zvol]
    exact ⟨by rw [hl]; exact zvol_ok n, by rw [hl]; exact h1, by rw [hl]; exact h8, fun s hs => by simp [chNew] at hs, by simp [chNew], fun s hs => by simp [chNew] at hs⟩
  · have hl : (chNew n).live.length = n := by simp [chNew, zvol]
    show Blk _ _ _ (ccells (chNew n).live.length (zvol n) (.slice none 0 0)).toArray
    rw [hl, HE.out]
    exact Blk.new _ _ _
  · exact ⟨none, 0, rfl, Nat.le_refl _, by unfold maxLen; omega, .inl ⟨rfl, rfl, rfl⟩⟩

/-! ### Copy -/
def CopyPP (own : Nat → Prop) (p : Nat) (d : CH) (w : World) (e : Ending) (w' : World) : Prop := ∃ q own', e = .returned (.pointer (some ⟨q, 0, none⟩)) ∧ Is0 own' w' q d ∧ Below w.heap.size w w' ∧ ∀ j, own' j → (own j ∧ j ≠ p) ∨ w.heap.size ≤ j
theorem copy_any {own : Nat → Prop} {w : World} {p : Nat} {d : CH} (h : Is0 own w p d) : Calls Try.prog 11 #[.pointer (some ⟨p, 0, none⟩)] w (CopyPP own p d w) := by
  obtain ⟨i0, hi, hz0, _, _⟩ := info_parts infoChn
  have HI := Lib.hid hi
  have HZ0 := Lib.hid hz0
  have HIS := Lib.hid h
  obtain ⟨h0, v, hr⟩ := h
  have HV := Lib.hid hr.vp
  have HR := Lib.hid hr
  have HH0 := Lib.hid h0
  have HL : Hid ((ccells d.live.length d.live v).length = 258) := ccells_len h0.live h0.n8
  have hv1 : v.oneCell' = true := by
    obtain ⟨A, c, rfl, _⟩ := hr.row
    rfl
  have HC := Lib.hid (ccells_one d.live.length d.live v hv1)
  have HB := Lib.hid hr.blk
  have HCC : Hid (∃ C, ccells d.live.length d.live v = C) := ⟨_, rfl⟩
  obtain ⟨C, hC⟩ := HCC.out
  have HE := Lib.hid hC
  rw [hC] at HL HC HB
  have HZL : Hid ((ccells 0 [] (.slice none 0 0)).length = 258) := ccells_len (n := 0) ⟨rfl, fun v hv => by simp at hv⟩ (by omega)
  obtain ⟨Z, hZ⟩ : ∃ Z, ccells 0 [] (.slice none 0 0) = Z := ⟨_, rfl⟩
  rw [hZ] at HZ0 HZL
  clear hC HCC hr h0 hv1 hi hz0 hZ
  go_enter Try.func11, Try.ntmps11
  go_wp2_with (first | (refine wpList_value rfl (exec_load_part 72 (.tmp 7) rfl p 0 rfl _ _ C _ _ HB.out Try.underlying72 rfl (by rw [sizeChn, HL.out]) (fun j u hu => by rw [Nat.zero_add]; simpa using hu)) ?_) | (refine wpList_value rfl (exec_alloc 72 i0 Z.toArray rfl HI.out HZ0.out) ?_) | (refine wpList_skip rfl (exec_store_new w 72 Z.toArray C.toArray (.tmp 3) (.tmp 8) rfl rfl rfl (by rw [sizeChn, List.size_toArray, HL.out]) (by rw [List.size_toArray, List.size_toArray, HL.out, HZL.out]) (cells_all HC.out)) ?_))
  go_ret
  have hb : Below w.heap.size w (w.alloc (.cells C.toArray 72)) := (Below.refl w.heap.size w).alloc (Nat.le_refl _) _
  refine ⟨w.heap.size, fun j => (own j ∧ j ≠ p) ∨ j = w.heap.size, rfl, ⟨HH0.out, v, ?_, HR.out.row.below hb, .inr rfl, fun k hk => .inl ⟨HR.out.om k hk, HV.out k hk⟩, fun k hk => ?_⟩, hb, fun j hj => ?_⟩
  · rw [HE.out]
    exact Blk.new _ _ _
  · rcases hk with hk | hk
    · exact Nat.lt_of_lt_of_le (HR.out.low k hk.1) hb.size
    · rw [hk]
      simp
  · rcases hj with hj | hj
    · exact .inl hj
    · exact .inr (by omega)

/-! ### Write -/
theorem write1_any {own : Nat → Prop} {w : World} {p : Nat} {d : CH} (k : Int) (s : Bt) (h : Is0 own w p d) : Calls Try.prog 13 #[.pointer (some ⟨p, 0, none⟩), .int .i64 k, .string (str s)] w fun e w' => Aft Is0 own p (d.write k s) w e w' ∧ But (fun j => j = p) w w' := by
  have HIS := Lib.hid h
  obtain ⟨h0, v, hr⟩ := h
  have HT := Lib.hid (takes_any hr.c0 k s)
  by_cases hg : 0 ≤ k ∧ k < (d.live.length : Int) ∧ s.length = 32
  · rw [decide_eq_true hg] at HT
    obtain ⟨m, rfl⟩ : ∃ m : Nat, k = (m : Int) := ⟨k.toNat, by omega⟩
    have hm : m < d.live.length := by omega
    have hw : d.write (m : Int) s = (⟨d.live.set m s, d.snaps⟩, 0) := by
      unfold CH.write
      rw [if_neg (by omega)]
      rfl
    rw [hw]
    have HR := Lib.hid hr
    have HH0 := Lib.hid h0
    have HHM := Lib.hid hm
    have HS := Lib.hid hg.2.2
    have HN8 := Lib.hid h0.n8
    clear hg hw hr h0 hm
    go_enter Try.func13, Try.ntmps13
    go_wp2_with fail
    refine HT.out.mono ?_
    rintro e W1 ⟨rfl, hb1⟩
    have HB1 := Lib.hid hb1
    have HR1 := Lib.hid (HR.out.below hb1)
    clear hb1 HT
    go_wp2_with fail
    refine (set_any HR1.out.blk (o := 1) (by rw [List.size_toArray, ccells_len HH0.out.live HH0.out.n8]; omega) m (by have := HHM.out; have := HN8.out; omega) s HS.out).mono ?_
    rintro e W2 ⟨rfl, hW2⟩
    have HW2 := Lib.hid hW2
    clear hW2
    go_wp2_with fail
    go_ret
    have hset := ccells_set1 (m := d.live.length) (v := v) HH0.out.live HH0.out.n8 m s HHM.out
    have hb := HR1.out.blk
    have hbu := setRow_but W1 p (ccells d.live.length (d.live.set m s) v).toArray
    have hk2 := setRow_blk (c := (ccells d.live.length (d.live.set m s) v).toArray) hb
    have e2 : W2 = W1.setRow p (ccells d.live.length (d.live.set m s) v).toArray := by
      rw [HW2.out, ← hset]
    rw [← e2] at hbu hk2
    have hl : (d.live.set m s).length = d.live.length := List.length_set
    have hbw : But (fun j => j = p) w W2 := (But.of_below (S := fun j => j = p) HB1.out).trans hbu (fun _ h => .inl h)
    refine ⟨⟨rfl, own, ⟨?_, v, ?_, ?_, HR1.out.op, HR1.out.om, fun j hj => Nat.lt_of_lt_of_le (HR1.out.low j hj) hbu.size⟩, hbw.mono (fun j hj => by rw [hj]; exact HR.out.op), fun j hj => .inl hj⟩, hbw⟩
    · have h0 := HH0.out
      have hvo : volOk d.live.length (d.live.set m s) := set_ok h0.live HS.out
      exact ⟨by rw [hl]; exact hvo, by rw [hl]; exact h0.n1, by rw [hl]; exact h0.n8, by intro x hx; rw [hl]; exact h0.snaps x hx, h0.few, h0.gds⟩
    · show Blk W2 p _ (ccells (d.live.set m s).length (d.live.set m s) v).toArray
      rw [hl]
      exact hk2
    · exact HR1.out.row.of_block (fun j hj => hbu.block j (HR1.out.row.lt j hj) (HR1.out.vp j hj))
  · rw [decide_eq_false hg] at HT
    have hw : d.write k s = (d, 2) := by
      unfold CH.write
      rw [if_pos (by omega)]
    rw [hw]
    clear hg hw hr h0
    go_enter Try.func13, Try.ntmps13
    go_wp2_with fail
    refine HT.out.mono ?_
    rintro e W1 ⟨rfl, hb1⟩
    have HB1 := Lib.hid hb1
    clear hb1 HT
    go_wp2_with fail
    go_ret
    exact is0_same HIS.out HB1.out rfl
end Go.Proofs.Ytfinmfmbbgakhaa.ch.pg


/- JRunW, JPlaces, JSafe. -/
import Derived.Test.YtjllpbckmioiiaaDoorQ15
/- Steps that are run, one behind the other, up to the first error. -/
namespace Go.Proofs.YtjllpbckmioiiaaDoor.jr
open Go Go.RowKit Go.Proofs.YtjllpbckmioiiaaDoor.dk Go.Proofs.YtjllpbckmioiiaaDoor.wi
set_option maxRecDepth 100000

/-- Steps in a slice, all from B on. -/
def StepsAt (w : World) (B p : Nat) (a : Option Addr) (ss : List Step) : Prop :=
  ∀ (j : Nat) (s : Step), ss[j]? = some s → ∃ b v, a = some ⟨b, 0, none⟩ ∧ B ≤ b ∧ b < w.heap.size ∧ w.cell? ⟨b, j, none⟩ = some v ∧ StepV w B p s v

theorem Gath.view {w wr : World} {p : Nat} {ss : List Step} {v : Value} (h : Gath w p ss v wr) : ∃ a c, v = .slice a ss.length c ∧ StepsAt wr w.heap.size p a ss := by
  obtain ⟨vs, ho, hs, _, _⟩ := h
  rcases ho.2 with ⟨rfl, h0⟩ | ⟨g, cap, cur, rfl, hg, hh, hcc, hm, hcs, hcur⟩
  · have hn : ss = [] := List.length_eq_zero_iff.1 (by rw [hs.1]; exact h0)
    subst hn
    exact ⟨none, 0, rfl, fun j s h => by simp at h⟩
  · refine ⟨some ⟨g, 0, none⟩, cap, by rw [hs.1], fun j s hj => ?_⟩
    have hjl : j < ss.length := (List.getElem?_eq_some_iff.1 hj).1
    have hjv : j < vs.length := by rw [← hs.1]; exact hjl
    have hv : vs[j]? = some vs[j] := List.getElem?_eq_getElem hjv
    refine ⟨g, vs[j], rfl, hg, (Array.getElem?_eq_some_iff.1 hh).1, ?_, hs.2 j s _ hj hv⟩
    have := cell_of_row wr g j cur 104 (0, 0) hh
    rw [this]
    have h2 : cur.toList[j]? = some vs[j] := by
      have h3 : (cur.toList.take (vs.length * 1))[j]? = some vs[j] := by rw [hcur]; exact hv
      rw [List.getElem?_take] at h3
      split at h3
      · exact h3
      · cases h3
    simpa using h2

section
variable {most : Nat} {w : World} {G : Nat → Prop} {p : Nat} {d : DD}

set_option maxHeartbeats 800000 in
theorem step_any (hI : InG most w G p d) (hG : ∀ k, w.heap.size ≤ k → G k) (hm : d.more.length < most) (hmost : most ≤ 100000) (k : Int) (x : Bt) (gw gi : Nat) (hw : Blk w gw 105 #[fWrite p]) (hi : Blk w gi 49 #[.int .i64 k, .string (str x)]) :
    Calls Tryd.prog 56 #[.pointer (some ⟨gw, 0, none⟩), .pointer (some ⟨gi, 0, none⟩)] w (PostG most G p (d.write k x).2 (.int .i64 (d.write k x).1) w) := by
  have e0 := hw.cell 0
  have l0 := hw.lt
  have e1 := hi.cell 0
  have e2 := hi.cell 1
  have l1 := hi.lt
  have HI := Lib.hid hI
  unfold fWrite at e0
  clear hw hi hI
  go_enter Tryd.func56, Tryd.ntmps56
  go_wp2_with fail
  refine (write_g HI.out hG hm hmost k (str x) x (bl_str x) _ _ rfl rfl).mono ?_
  rintro e W1 ⟨rfl, i1, b1⟩
  have H1 : Hid (InG most W1 G p (d.write k x).2 ∧ But G w W1) := ⟨i1, b1⟩
  clear i1 b1
  go_wp2_with fail
  go_ret
  exact ⟨rfl, H1.out⟩

theorem stepD_more (d : DD) (s : Step) : (stepD d s).2.more.length ≤ d.more.length + 1 := by
  cases s with
  | w k v => exact write_more d k v
  | f =>
    have ho := (oper_rest d).2.1
    unfold stepD DD.flush
    dsimp only
    split
    · simp
    · split <;> simp [ho]

def RunRel (most : Nat) (w : World) (G : Nat → Prop) (p : Nat) (ss : List Step) (d : DD) (i : Value) (wr : World) : Prop :=
  ∃ (k : Nat) (e : DD), k ≤ ss.length ∧ i = .int .i64 (k : Int) ∧ InG most wr G p e ∧ But G w wr ∧ runS ss d = runS (ss.drop k) e ∧ e.more.length ≤ d.more.length + k

set_option maxHeartbeats 1600000 in
theorem run_any (B : Nat) (ss : List Step) (a : Option Addr) (c : Nat) (hI : InG most w G p d) (hG : ∀ k, w.heap.size ≤ k → G k) (hdis : ∀ k, B ≤ k → k < w.heap.size → ¬ G k) (hs : StepsAt w B p a ss) (hm : d.more.length + ss.length ≤ most) (hmost : most ≤ 100000) :
    Calls Tryd.prog 35 #[.slice a ss.length c] w (PostG most G p (runS ss d).2 (.int .i64 (runS ss d).1) w) := by
  have HS := Lib.hid hs
  have HI := Lib.hid hI
  have HG := Lib.hid hG
  have HD := Lib.hid hdis
  clear hs hI hG hdis
  go_enter Tryd.func35, Tryd.ntmps35
  go_wp2_with fail
  go_loopw [8] (fun i wr => RunRel most w G p ss d i wr) (fun i _ => ss.length - (intOf i).toNat)
  case atStart => exact ⟨0, d, Nat.zero_le _, rfl, HI.out, But.refl _ _, by rw [List.drop_zero], Nat.le_refl _⟩
  case round =>
    obtain ⟨k, e, hk, rfl, hi, hb, hrun, hml⟩ := hrel
    have H1 := Lib.hid hi
    have HB := Lib.hid hb
    have HR := Lib.hid hrun
    have hG1 : ∀ k, wr.heap.size ≤ k → G k := fun j hj => HG.out j (Nat.le_trans hb.size hj)
    have HG1 := Lib.hid hG1
    clear hi hb hrun hG1
    by_cases hlt : k < ss.length
    · have hsk : ss[k]? = some ss[k] := List.getElem?_eq_getElem hlt
      obtain ⟨b, v, rfl, hBb, hbl, hcell, hv⟩ := HS.out k ss[k] hsk
      have hdrop : ss.drop k = ss[k] :: ss.drop (k + 1) := List.drop_eq_getElem_cons hlt
      have hsm := stepD_more e ss[k]
      rw [hdrop] at HR
      generalize ss[k] = s at *
      have hc1 : wr.cell? ⟨b, k, none⟩ = some v := by
        rw [World.cell?_of_block (a := ⟨b, k, none⟩) (HB.out.block b hbl (HD.out b hBb hbl))]
        exact hcell
      have hbl2 : b < wr.heap.size := Nat.lt_of_lt_of_le hbl HB.out.size
      have hklt : (k : Int) < (ss.length : Int) := by omega
      -- what the step does
      have hcall : (∃ gw gi, v = fStep gw gi ∧ Calls Tryd.prog 56 #[.pointer (some ⟨gw, 0, none⟩), .pointer (some ⟨gi, 0, none⟩)] wr (PostG most G p (stepD e s).2 (.int .i64 (stepD e s).1) wr)) ∨
          (v = fFlush p ∧ Calls Tryd.prog 55 #[.pointer (some ⟨p, 0, none⟩)] wr (PostG most G p (stepD e s).2 (.int .i64 (stepD e s).1) wr)) := by
        cases s with
        | f => exact .inr ⟨hv, flush_g H1.out HG1.out _ _ rfl rfl⟩
        | w kk x =>
          obtain ⟨gw, gi, h1, h2, h3, h4, h5⟩ := hv
          exact .inl ⟨gw, gi, h1, step_any H1.out HG1.out (by omega) hmost kk x gw gi (h4.of_block (HB.out.block gw h4.lt (HD.out gw h2 h4.lt))) (h5.of_block (HB.out.block gi h5.lt (HD.out gi h3 h5.lt)))⟩
      have hrun2 : runS (s :: ss.drop (k + 1)) e = if (stepD e s).1 = 0 then runS (ss.drop (k + 1)) (stepD e s).2 else stepD e s := rfl
      rw [hrun2] at HR
      have HC := Lib.hid hcall
      clear hcall hrun2 hv hcell hsk hdrop
      obtain ⟨r, hr⟩ : ∃ r, (stepD e s).1 = r := ⟨_, rfl⟩
      obtain ⟨e2, he2⟩ : ∃ x, (stepD e s).2 = x := ⟨_, rfl⟩
      rw [hr, he2] at HC HR
      rw [he2] at hsm
      have hse : stepD e s = (r, e2) := by rw [← hr, ← he2]
      rw [hse] at HR
      clear hr he2 hse
      by_cases h0 : r = 0
      · subst h0
        rw [if_pos rfl] at HR
        rcases HC.out with ⟨gw, gi, rfl, hcc⟩ | ⟨rfl, hcc⟩
        all_goals
          have HCC := Lib.hid hcc
          clear hcc HC
          simp only [fStep, fFlush] at hc1
          go_wp2_with fail
          refine HCC.out.mono ?_
          rintro x W2 ⟨rfl, i2, b2⟩
          have H2 := Lib.hid i2
          have HB2 := Lib.hid (HB.out.trans b2 (fun i hi => .inl hi))
          clear i2 b2
          go_wp2_with fail
          go_roundw
          case rel => exact ⟨k + 1, e2, by omega, by go_num, H2.out, HB2.out, HR.out, by omega⟩
          case measure => simp [intOf]; omega
      · have hne : ((r : Int) != 0) = true := by simpa using h0
        rw [if_neg h0] at HR
        rcases HC.out with ⟨gw, gi, rfl, hcc⟩ | ⟨rfl, hcc⟩
        all_goals
          have HCC := Lib.hid hcc
          clear hcc HC
          simp only [fStep, fFlush] at hc1
          go_wp2_with fail
          refine HCC.out.mono ?_
          rintro x W2 ⟨rfl, i2, b2⟩
          have H2 := Lib.hid i2
          have HB2 := Lib.hid (HB.out.trans b2 (fun i hi => .inl hi))
          clear i2 b2
          go_wp2_with fail
          go_ret
          rw [HR.out]
          exact ⟨rfl, H2.out, HB2.out⟩
    · obtain rfl : k = ss.length := by omega
      go_wp2_with fail
      go_ret
      rw [HR.out, List.drop_length]
      exact ⟨rfl, H1.out, HB.out⟩
end
end Go.Proofs.YtjllpbckmioiiaaDoor.jr

/- The places that batches write; a record's writes. -/
namespace Go.Proofs.YtjllpbckmioiiaaDoor.jr
open Go Go.RowKit Go.Proofs.YtjllpbckmioiiaaDoor.dk Go.Proofs.YtjllpbckmioiiaaDoor.wi
set_option maxRecDepth 100000

theorem infoInt : (Tryd.prog.info? 3).map (fun i => (i.zero, i.size, i.bytes)) = some (some (.int .i64 0), 1, 8) := by kernel_rfl
theorem infoWr : (Tryd.prog.info? 49).map (fun i => (i.zero, i.size, i.bytes)) = some (some (.agg #[.int .i64 0, .string ByteArray.empty]), 2, 24) := by kernel_rfl

/-! ### Behind writing -/
section
variable {most : Nat} {w W1 : World} {own : Nat → Prop} {p : Nat} {d : DD} {ss : List Step} {v : Value}

theorem run_after (h : DkIs most w own p d) (hg : Gath w p ss v W1) (hm : d.more.length + ss.length ≤ most) (hmost : most ≤ 100000) :
    Calls Tryd.prog 35 #[v] W1 (DkPost most own p (runS ss d).2 (.int .i64 (runS ss d).1) w) := by
  obtain ⟨A, c, rfl, hst⟩ := hg.view
  obtain ⟨_, _, _, _, hB⟩ := hg
  have hI : InG most W1 (fun k => own k ∨ W1.heap.size ≤ k) p d := ⟨own, h.below hB, fun k hk => .inl hk⟩
  refine (run_any w.heap.size ss A c hI (fun k hk => .inr hk) (fun k h1 h2 h3 => ?_) hst hm hmost).mono ?_
  · rcases h3 with h3 | h3
    · have := h.low k h3
      omega
    · omega
  · rintro e W2 ⟨rfl, ⟨own', h1, h2⟩, h3⟩
    refine ⟨rfl, own', h1, ?_, fun k hk => ?_⟩
    · refine ⟨h3.os.trans hB.os, h3.tape.trans hB.tape, h3.output.trans hB.output, Nat.le_trans hB.size h3.size, fun k hk hn => ?_⟩
      rw [h3.block k (Nat.lt_of_lt_of_le hk hB.size) (fun g => ?_), hB.block k hk]
      rcases g with g | g
      · exact hn g
      · have := hB.size
        omega
    · rcases h2 k hk with g | g
      · exact .inl g
      · exact .inr (Nat.le_trans hB.size g)

theorem DkPost.from {w0 w : World} {r : Value} {e : Ending} {w' : World} (h : DkPost most own p d r w e w') (hb : Below w0.heap.size w0 w) (hlow : ∀ k, own k → k < w0.heap.size) : DkPost most own p d r w0 e w' := by
  obtain ⟨rfl, own', h1, h2, h3⟩ := h
  refine ⟨rfl, own', h1, ⟨h2.os.trans hb.os, h2.tape.trans hb.tape, h2.output.trans hb.output, Nat.le_trans hb.size h2.size, fun k hk hn => ?_⟩, fun k hk => ?_⟩
  · rw [h2.block k (Nat.lt_of_lt_of_le hk hb.size) hn, hb.block k hk]
  · rcases h3 k hk with g | g
    · exact .inl g
    · exact .inr (Nat.le_trans hb.size g)
end

/-! ### Places -/
def OInts (w : World) (B : Nat) (v : Value) (zs : List Int) : Prop := w.ownsRow B 3 1 v zs.length (zs.map (Value.int .i64))

def PlOut (w : World) (bs : List (List Wr)) (v i : Value) (wr : World) : Prop :=
  ∃ k : Nat, k ≤ bs.length ∧ i = .int .i64 (k : Int) ∧ OInts wr w.heap.size v (placesOf (bs.take k)) ∧ Below w.heap.size w wr
def PlIn (w : World) (pre : List Int) (l : List Wr) (v i : Value) (wr : World) : Prop :=
  ∃ k : Nat, k ≤ l.length ∧ i = .int .i64 (k : Int) ∧ OInts wr w.heap.size v (pre ++ (l.take k).map (·.1)) ∧ Below w.heap.size w wr

theorem placesOf_take (bs : List (List Wr)) (k : Nat) (h : k < bs.length) : placesOf (bs.take (k + 1)) = placesOf (bs.take k) ++ bs[k].map (·.1) := by
  unfold placesOf
  rw [List.take_succ_eq_append_getElem h, List.flatten_append, List.map_append]
  simp
theorem placesOf_len : ∀ (bs : List (List Wr)), (∀ l ∈ bs, l.length ≤ 1000) → (placesOf bs).length ≤ 1000 * bs.length
  | [], _ => by simp [placesOf]
  | l :: r, h => by
    have h1 := h l (by simp)
    have h2 := placesOf_len r (fun m hm => h m (by simp [hm]))
    simp only [placesOf, List.flatten_cons, List.map_append, List.length_append, List.length_map, List.length_cons] at h2 ⊢
    omega

theorem int_one (z : Int) : ∀ u ∈ ([Value.int .i64 z] : List Value), u.oneCell' = true := by
  intro u hu
  simp at hu
  subst hu
  rfl

def okInts (zs : List Int) (w : World) (e : Ending) (w' : World) : Prop := ∃ v, e = .returned v ∧ OInts w' w.heap.size v zs ∧ Below w.heap.size w w'

theorem OInts.view {w : World} {B : Nat} {v : Value} {zs : List Int} (h : OInts w B v zs) (hz : ∀ z ∈ zs, i64B z) : ∃ a c, v = .slice a zs.length c ∧ IntsAt w a zs := by
  rcases h.2 with ⟨rfl, h0⟩ | ⟨g, cap, cur, rfl, hg, hh, hcc, hm, hcs, hcur⟩
  · obtain rfl : zs = [] := List.length_eq_zero_iff.1 h0
    exact ⟨none, 0, rfl, fun i h => by simp at h⟩
  · refine ⟨some ⟨g, 0, none⟩, cap, rfl, fun i hi => ⟨g, 0, rfl, (Array.getElem?_eq_some_iff.1 hh).1, ?_, (hz _ (List.getElem_mem hi)).1, (hz _ (List.getElem_mem hi)).2⟩⟩
    rw [Nat.zero_add, cell_of_row w g i cur 3 (0, 0) hh]
    have h3 : (cur.toList.take (zs.length * 1))[i]? = some (.int .i64 zs[i]) := by rw [hcur]; simp [hi]
    rw [List.getElem?_take] at h3
    split at h3
    · simpa using h3
    · cases h3

set_option maxHeartbeats 3200000 in
theorem places_any (a : Option Addr) (c : Nat) (bs : List (List Wr)) (w : World) (hT : BsAt w a bs) (hl : bs.length ≤ 10) (hl2 : ∀ l ∈ bs, l.length ≤ 1000) :
    Calls Tryd.prog 34 #[.slice a bs.length c] w (okInts (placesOf bs) w) := by
  obtain ⟨i0, hi, hz0, hz1, hz2⟩ := info_parts infoInt
  have HT := Lib.hid hT
  have HL2 := Lib.hid hl2
  clear hT hl2
  go_enter Tryd.func34, Tryd.ntmps34
  go_wp2_with fail
  go_loopw [3, 10] (fun v i wr => PlOut w bs v i wr) (fun _ i _ => bs.length - (intOf i).toNat)
  case atStart => exact ⟨0, Nat.zero_le _, rfl, World.ownsRow_nil _ _ _ _, Below.refl _ _⟩
  case round =>
    obtain ⟨k, hk, rfl, ho0, hB0⟩ := hrel
    have HO0 := Lib.hid ho0
    have HB0 := Lib.hid hB0
    clear ho0 hB0
    by_cases hlt : k < bs.length
    · obtain ⟨b, o, A, cc, rfl, hb, hc, hW⟩ := HT.out k hlt
      have hst := placesOf_take bs k hlt
      have hlen := HL2.out bs[k] (List.getElem_mem hlt)
      generalize bs[k] = l at *
      have hc2 : wr.cell? ⟨b, o + k, none⟩ = some (.slice A l.length cc) := by rw [HB0.out.cell (p := ⟨b, o + k, none⟩) hb]; exact hc
      have hb2 : b < wr.heap.size := Nat.lt_of_lt_of_le hb HB0.out.size
      have hklt : (k : Int) < (bs.length : Int) := by omega
      have HW := Lib.hid hW
      have HST := Lib.hid hst
      clear hc hW hst
      go_wp2_with fail
      obtain ⟨wo, rfl⟩ : ∃ wo : World, wo = wr := ⟨_, rfl⟩
      go_loopw [3, 16] (fun v i wr => PlIn w (placesOf (bs.take k)) l v i wr) (fun _ i _ => l.length - (intOf i).toNat)
      case atStart => exact ⟨0, Nat.zero_le _, rfl, by simpa using HO0.out, HB0.out⟩
      case round =>
        obtain ⟨j, hj, rfl, hown, hB⟩ := hrel
        have HO := Lib.hid hown
        have HB := Lib.hid hB
        clear hown hB
        have hvl : (placesOf (bs.take k) ++ (l.take j).map (·.1)).length ≤ 100000 := by
          have h2 := placesOf_len (bs.take k) (fun m hm => HL2.out m (List.mem_of_mem_take hm))
          have h3 : (bs.take k).length ≤ 10 := by simp; omega
          rw [List.length_append, List.length_map, List.length_take]
          omega
        by_cases hjl : j < l.length
        · obtain ⟨bb, oo, rfl, hbb, q0, q1, qb⟩ := HW.out j hjl
          have hws : (l.take (j + 1)).map (·.1) = (l.take j).map (·.1) ++ [l[j].1] := by rw [List.take_succ_eq_append_getElem hjl, List.map_append]; rfl
          generalize l[j] = x at *
          have e0 : wr.cell? ⟨bb, oo + j * 2, none⟩ = some (.int .i64 x.1) := by rw [HB.out.cell (p := ⟨bb, oo + j * 2, none⟩) hbb]; exact q0
          have e1 : wr.cell? ⟨bb, oo + j * 2 + 1, none⟩ = some (.string (str x.2)) := by rw [HB.out.cell (p := ⟨bb, oo + j * 2 + 1, none⟩) hbb]; exact q1
          have hbb2 : bb < wr.heap.size := Nat.lt_of_lt_of_le hbb HB.out.size
          have hjlt : (j : Int) < (l.length : Int) := by omega
          have HWS := Lib.hid hws
          have hB1 : Below w.heap.size w (wr.alloc (.cells #[.int .i64 x.1, .string (str x.2)] 49)) := HB.out.alloc HB.out.size _
          have hB2 : Below w.heap.size w ((wr.alloc (.cells #[.int .i64 x.1, .string (str x.2)] 49)).alloc (.cells #[.int .i64 x.1] 3)) := hB1.alloc hB1.size _
          have hown2 := (HO.out.alloc (.cells #[.int .i64 x.1, .string (str x.2)] 49)).alloc (.cells #[.int .i64 x.1] 3)
          have hnews := news_one (wr.alloc (.cells #[.int .i64 x.1, .string (str x.2)] 49)) 3 (.int .i64 x.1)
          have hsz1 : (wr.alloc (.cells #[.int .i64 x.1, .string (str x.2)] 49)).heap.size = wr.heap.size + 1 := by simp
          rw [hsz1] at hnews
          have HO2 := Lib.hid hown2
          have HNW := Lib.hid hnews
          have HB2 := Lib.hid hB2
          clear q0 q1 qb hws hB1 hB2 hown2 hnews hsz1
          generalize hpl : placesOf (bs.take k) ++ (l.take j).map (·.1) = zs at *
          go_wp2_with (at_builtin; refine wpList_append_own _ rfl (.tmp 20) (.tmp 23) 63 rfl w.heap.size 3 i0 (.int .i64 0) 1 8 Tryd.underlying63 hi hz0 hz1 hz2 rfl (by decide) _ zs.length _ rfl HO2.out ⟨wr.heap.size + 1, 0, none⟩ 1 1 [.int .i64 x.1] rfl rfl HNW.out (int_one _) ?_ ?_ HB2.out.size ?_)
          · unfold maxLen; omega
          · omega
          · intro v' w1 hown1 hgrow _
            have hb1 := HB2.out.grown hgrow HB2.out.size (fun j hj => (HO2.out.lt j hj).1)
            have ho1 : OInts w1 w.heap.size v' (zs ++ [x.1]) := by unfold OInts; rw [List.length_append, List.map_append]; exact hown1
            have HO1 := Lib.hid ho1
            have HB1 := Lib.hid hb1
            clear hb1 ho1 hown1 hgrow
            go_wp2_with fail
            go_roundw
            case rel => exact ⟨j + 1, by omega, by go_num, by rw [HWS.out, ← List.append_assoc, hpl]; exact HO1.out, HB1.out⟩
            case measure => simp [intOf]; omega
        · obtain rfl : j = l.length := by omega
          go_wp2_with fail
          go_roundw
          case rel => exact ⟨k + 1, by omega, by go_num, by rw [HST.out]; have := HO.out; rw [List.take_length] at this; exact this, HB.out⟩
          case measure => simp [intOf]; omega
    · obtain rfl : k = bs.length := by omega
      go_wp2_with fail
      go_ret
      have := HO0.out
      rw [List.take_length] at this
      exact ⟨_, rfl, this, HB0.out⟩
end Go.Proofs.YtjllpbckmioiiaaDoor.jr

/- All, or nothing: what a journal at rest is, what a Commit makes of it, wherever the power goes, and a Recover behind that. Plain data. -/
namespace Go.Proofs.YtjllpbckmioiiaaDoor.jr
open Go.Proofs.YtjllpbckmioiiaaDoor.dk Go.Proofs.YtjllpbckmioiiaaDoor.wi
set_option maxRecDepth 100000

def RecGood (N : Nat) (b : Sects) (a c : Nat) (l : List Wr) : Prop := (c = 0 ∧ l = []) ∨ (c ≠ 0 ∧ recOf b a c = some l ∧ poss N l = true)

/-- The sectors b are a journal's, which a Recover makes say tgt. -/
def RB (N : Nat) (tgt : Int → Bt) (b : Sects) : Prop :=
  b.length = N ∧ (∀ v, some v ∈ b → v.length = 32) ∧ ∃ a c l, hdOf (rd b 0) = some (a, c) ∧ RecGood N b a c l ∧ ∀ k, 145 ≤ k → rd (play b (nat l)) k = tgt k
/-- .. and they say so. -/
def JB (N : Nat) (tgt : Int → Bt) (b : Sects) : Prop := RB N tgt b ∧ ∀ k, 145 ≤ k → rd b k = tgt k

structure RJ (N : Nat) (tgt : Int → Bt) (d : DD) : Prop where
  on : d.on = true
  more : d.more = []
  room : (N : Int) ≤ d.room
  rb : RB N tgt d.base
structure JJ (N : Nat) (tgt : Int → Bt) (d : DD) : Prop extends RJ N tgt d where
  is : ∀ k, 145 ≤ k → rd d.base k = tgt k

theorem poss_all {N : Nat} {l : List Wr} (h : poss N l = true) : ∀ x ∈ l, 145 ≤ x.1 ∧ x.1 < (N : Int) ∧ x.2.length = 32 := by
  intro x hx
  unfold poss at h
  simp only [Bool.and_eq_true] at h
  have := List.all_eq_true.1 h.1 x hx
  simpa [okW, and_assoc] using this

theorem rd_play_out (l : List (Nat × Bt)) (s : Sects) (k : Int) (h : ∀ x ∈ l, (x.1 : Int) ≠ k) : rd (play s l) k = rd s k := by
  unfold rd
  rw [play_look_out l s k h]

theorem mem_nat {l : List Wr} {x : Nat × Bt} (h : x ∈ nat l) : ∃ y ∈ l, x = (y.1.toNat, y.2) := by
  obtain ⟨y, hy, rfl⟩ := List.mem_map.1 h
  exact ⟨y, hy, rfl⟩

theorem nat_high {N : Nat} {l : List Wr} (h : ∀ x ∈ l, 145 ≤ x.1 ∧ x.1 < (N : Int) ∧ x.2.length = 32) : ∀ x ∈ nat l, 145 ≤ x.1 ∧ x.1 < N ∧ x.2.length = 32 := by
  intro x hx
  obtain ⟨y, hy, rfl⟩ := mem_nat hx
  have := h y hy
  exact ⟨by dsimp only; omega, by dsimp only; omega, this.2.2⟩

theorem recSecs_congr {s s' : Sects} {a c : Nat} (h : ∀ i, i < c → rd s ((1 + a * 72 + i : Nat) : Int) = rd s' ((1 + a * 72 + i : Nat) : Int)) : recSecs s a c = recSecs s' a c :=
  List.map_congr_left fun i hi => h i (List.mem_range.1 hi)

theorem recOf_congr {s s' : Sects} {a c : Nat} (h : ∀ i, i < c → rd s ((1 + a * 72 + i : Nat) : Int) = rd s' ((1 + a * 72 + i : Nat) : Int)) : recOf s a c = recOf s' a c := by
  unfold recOf
  rw [recSecs_congr h]

theorem recGood_poss {N : Nat} {b : Sects} {a c : Nat} {l : List Wr} (h : RecGood N b a c l) : ∀ x ∈ l, 145 ≤ x.1 ∧ x.1 < (N : Int) ∧ x.2.length = 32 := by
  rcases h with ⟨_, rfl⟩ | ⟨_, _, h⟩
  · intro x hx; cases hx
  · exact poss_all h

theorem recGood_play {N : Nat} {b : Sects} {a c : Nat} {l : List Wr} (h : RecGood N b a c l) (y : List (Nat × Bt)) (hy : ∀ x ∈ y, ∀ i, i < c → x.1 ≠ 1 + a * 72 + i) : RecGood N (play b y) a c l := by
  rcases h with h | ⟨h1, h2, h3⟩
  · exact .inl h
  · refine .inr ⟨h1, ?_, h3⟩
    rw [← h2]
    exact recOf_congr fun i hi => rd_play_out _ _ _ fun x hx => by have := hy x hx i hi; omega

/-- What was written of a record leaves it one. -/
theorem RB.part {N : Nat} {tgt : Int → Bt} {b : Sects} (h1 : b.length = N) (h2 : ∀ v, some v ∈ b → v.length = 32) {a c : Nat} {l : List Wr} (hh : hdOf (rd b 0) = some (a, c)) (hg : RecGood N b a c l) (ht : ∀ k, 145 ≤ k → rd (play b (nat l)) k = tgt k)
    (y : List (Nat × Bt)) (hy : ∀ x ∈ y, x ∈ nat l) : RB N tgt (play b y) := by
  have hp := nat_high (recGood_poss hg)
  obtain ⟨ha, hc, _⟩ := hdOf_some hh
  refine ⟨by rw [play_length]; exact h1, play_all h2 (fun x hx => (hp x (hy x hx)).2.2), a, c, l, ?_, recGood_play hg y (fun x hx i hi => ?_), fun k hk => ?_⟩
  · rw [rd_play_out _ _ _ (fun x hx => ?_)]
    · exact hh
    · have := hp x (hy x hx)
      omega
  · have := hp x (hy x hx)
    have : a * 72 ≤ 72 := by omega
    omega
  · rw [← ht k hk]
    unfold rd
    rw [play_over (nat l) y b k hy (fun x hx => by have := hp x hx; omega)]

/-- .. and all of it makes it say so. -/
theorem RB.whole {N : Nat} {tgt : Int → Bt} {b : Sects} (h1 : b.length = N) (h2 : ∀ v, some v ∈ b → v.length = 32) {a c : Nat} {l : List Wr} (hh : hdOf (rd b 0) = some (a, c)) (hg : RecGood N b a c l) (ht : ∀ k, 145 ≤ k → rd (play b (nat l)) k = tgt k) : JB N tgt (play b (nat l)) :=
  ⟨RB.part h1 h2 hh hg ht (nat l) (fun _ h => h), ht⟩

/-! ### Recover -/
theorem good_ws {N : Nat} {l : List Wr} (h : ∀ x ∈ l, 0 ≤ x.1 ∧ x.1 < (N : Int) ∧ x.2.length = 32) : ∀ s ∈ wsOf l, goodS N s := by
  intro s hs
  obtain ⟨x, hx, rfl⟩ := List.mem_map.1 hs
  exact h x hx

theorem good_steps {N : Nat} : ∀ {bs : List (List Wr)}, (∀ l ∈ bs, ∀ x ∈ l, 0 ≤ x.1 ∧ x.1 < (N : Int) ∧ x.2.length = 32) → ∀ s ∈ stepsOf bs, goodS N s
  | [], _, s, hs => by cases hs
  | l :: r, h, s, hs => by
    have e : stepsOf (l :: r) = wsOf l ++ (.f :: stepsOf r) := rfl
    rw [e, List.mem_append, List.mem_cons] at hs
    rcases hs with hs | rfl | hs
    · exact good_ws (h l (by simp)) s hs
    · trivial
    · exact good_steps (fun l hl => h l (by simp [hl])) s hs

theorem wake_mk (d : DD) (x : BM) (f : Int) (keep : List Bool) : (mk d x false f).wake keep = mk d (play x.1 (stay x.2 keep), []) true f := rfl

/-- What the power may go in. -/
def Gone (P : DD → Prop) (d : DD) : Prop := d.on = false ∧ ∀ keep, P (d.wake keep)

theorem recover_any {N : Nat} {tgt : Int → Bt} {d : DD} (h : RJ N tgt d) (hf : 0 ≤ d.fuse) :
    ((jrecover d).1 = 0 ∧ JJ N tgt (jrecover d).2 ∧ (d.fuse = 0 → (jrecover d).2.fuse = 0) ∧ 0 ≤ (jrecover d).2.fuse) ∨ ((jrecover d).1 = 6 ∧ Gone (RJ N tgt) (jrecover d).2 ∧ d.fuse ≠ 0 ∧ (jrecover d).2.fuse = 0) := by
  obtain ⟨hon, hmo, hro, h1, h2, a, c, l, hh, hg, ht⟩ := h
  have hnow : d.now = d.base := by unfold DD.now; rw [hmo]; rfl
  have hn : d.n = N := h1
  unfold jrecover
  rw [if_neg (by rw [hon]; simp), hnow, hh]
  dsimp only
  by_cases hc : c = 0
  · rw [if_pos hc]
    left
    refine ⟨rfl, ⟨⟨hon, hmo, hro, h1, h2, a, c, l, hh, hg, ht⟩, fun k hk => ?_⟩, fun h => h, hf⟩
    rcases hg with ⟨_, rfl⟩ | ⟨h', _⟩
    · exact ht k hk
    · exact absurd hc h'
  · rw [if_neg hc]
    rcases hg with ⟨h', _⟩ | ⟨_, hr, hp⟩
    · exact absurd h' hc
    have hg' : RecGood N d.base a c l := .inr ⟨hc, hr, hp⟩
    rw [hr]
    dsimp only
    rw [hn, if_neg (by rw [hp]; simp)]
    have hgs : ∀ s ∈ stepsOf [l], goodS d.n s := by
      rw [hn]
      refine good_steps fun m hm x hx => ?_
      obtain rfl : m = l := by simpa using hm
      have := poss_all hp x hx
      exact ⟨by omega, this.2⟩
    by_cases hfu : d.fuse = 0 ∨ ((stepsOf [l]).length : Int) < d.fuse
    · left
      rw [runS_all _ d hon hf (by rw [hn]; exact hro) hgs hfu, hmo, apL_steps]
      have hw := RB.whole h1 h2 hh hg' ht
      refine ⟨rfl, ⟨⟨rfl, rfl, hro, ?_⟩, ?_⟩, fun h0 => ?_, ?_⟩
      · show RB N tgt (play d.base (nat [l].flatten))
        simpa using hw.1
      · show ∀ k, 145 ≤ k → rd (play d.base (nat [l].flatten)) k = tgt k
        simpa using hw.2
      · show less d.fuse _ = 0
        unfold less
        rw [if_pos h0]
      · show 0 ≤ less d.fuse _
        unfold less
        split <;> omega
    · right
      have h0 : d.fuse ≠ 0 := fun h => hfu (.inl h)
      rw [runS_cut _ d hon (by rw [hn]; exact hro) hgs (by omega) (by omega), hmo]
      obtain ⟨pre, q, post, j, e1, e2, e3⟩ := apL_part [l] (d.fuse - 1).toNat d.base (by omega)
      rw [e3]
      refine ⟨rfl, ⟨rfl, fun keep => ?_⟩, h0, rfl⟩
      rw [wake_mk]
      have key : ∃ y, (∀ x ∈ y, x ∈ nat l) ∧ play (play d.base (nat pre.flatten)) (stay (nat (q.flatten.take j)) keep) = play d.base y := by
        refine ⟨nat pre.flatten ++ stay (nat (q.flatten.take j)) keep, fun x hx => ?_, by rw [play_append]⟩
        have hsub : ∀ z ∈ pre.flatten ++ q.flatten, z ∈ l := by
          intro z hz
          have : z ∈ [l].flatten := by rw [e1, List.flatten_append, List.flatten_append]; exact List.mem_append_left _ hz
          simpa using this
        rcases List.mem_append.1 hx with hx | hx
        · obtain ⟨z, hz, rfl⟩ := mem_nat hx
          exact List.mem_map.2 ⟨z, hsub z (List.mem_append_left _ hz), rfl⟩
        · obtain ⟨z, hz, rfl⟩ := mem_nat (stay_mem _ _ _ hx)
          exact List.mem_map.2 ⟨z, hsub z (List.mem_append_right _ (List.mem_of_mem_take hz)), rfl⟩
      obtain ⟨y, hy, e4⟩ := key
      refine ⟨rfl, rfl, hro, ?_⟩
      show RB N tgt (play (play d.base (nat pre.flatten)) (stay (nat (q.flatten.take j)) keep))
      rw [e4]
      exact RB.part h1 h2 hh hg' ht y hy

end Go.Proofs.YtjllpbckmioiiaaDoor.jr


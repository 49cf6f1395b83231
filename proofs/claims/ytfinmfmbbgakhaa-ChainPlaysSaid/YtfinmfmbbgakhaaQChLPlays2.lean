/- ChDoA, SlcG, ChActs, ChDoW. -/
import Derived.Test.YtfinmfmbbgakhaaQ13
import Derived.Test.YtfinmfmbbgakhaaQChLPlays1
import Derived.LoopTactic
import Derived.Deep.Slices
import Derived.Deep.Fields
import Derived.ChangeSame
/- What do of the statements does: changes are put on. -/
namespace Go.Proofs.Ytfinmfmbbgakhaa.ch
open Go Go.RowKit Go.Proofs.Ytfinmfmbbgakhaa.ib
set_option maxRecDepth 100000

/-- A slice of n changes that may be written. -/
def SlM (w : World) (A : Option Addr) (n : Nat) : Prop := n ≠ 0 → ∃ bb cur, A = some ⟨bb, 0, none⟩ ∧ Blk w bb 60 cur ∧ n * 2 ≤ cur.size
/-- Its block. -/
def InA (A : Option Addr) (j : Nat) : Prop := ∃ o, A = some ⟨j, o, none⟩
theorem ochs_slm {w : World} {B : Nat} {v : Value} {l : List (Int × Bt)} (h : OChs w B v l) (hz : ∀ x ∈ l, b64 x.1) :
    ∃ A c, v = .slice A l.length c ∧ ChL w A l ∧ SlM w A l.length ∧ ∀ j, InA A j → B ≤ j ∧ j < w.heap.size := by
  obtain ⟨a, c, hv, hl, hb⟩ := h.view2 hz
  refine ⟨a, c, hv, hl, fun hn => ?_, fun j hj => ?_⟩
  · rcases h.2 with ⟨_, h0⟩ | ⟨g, cap, cur, h1, hg, hh, hcc, hm, hcs, hcur⟩
    · exact absurd h0 hn
    · rw [hv] at h1
      simp only [Value.slice.injEq] at h1
      exact ⟨g, cur, h1.1, hh, by rw [hcs]; omega⟩
  · obtain ⟨o, rfl⟩ := hj
    exact hb j o rfl
theorem SlM.block {w w' : World} {A : Option Addr} {n : Nat} (h : SlM w A n) (hb : ∀ j, InA A j → w'.heap[j]? = w.heap[j]?) : SlM w' A n := fun hn => by
  obtain ⟨bb, cur, rfl, h1, h2⟩ := h hn
  exact ⟨bb, cur, rfl, h1.of_block (hb bb ⟨0, rfl⟩), h2⟩

/-- A slice of puts that came in, below m. -/
def PtM (m : Nat) (w : World) (A : Option Addr) (zs : List (Int × UInt8)) : Prop := PtL w A zs ∧ ∀ i, i < zs.length → ∀ j, InA A j → j < m
theorem PtM.below {m : Nat} {w w' : World} {A : Option Addr} {zs : List (Int × UInt8)} (h : PtM m w A zs) (hb : Below m w w') : PtM m w' A zs := by
  refine ⟨fun i hi => ?_, h.2⟩
  obtain ⟨b, o, h1, h2, h3, h4, h5⟩ := h.1 i hi
  have hbm : b < m := h.2 i hi b ⟨o, h1⟩
  exact ⟨b, o, h1, Nat.lt_of_lt_of_le h2 hb.size, by rw [hb.cell (p := ⟨b, o + i * 2, none⟩) hbm]; exact h3, by rw [hb.cell (p := ⟨b, o + i * 2 + 1, none⟩) hbm]; exact h4, h5⟩

def DaG (q g0 : Nat) (y1 y2 : Int) (A : Option Addr) (cap : Nat) (zs : List (Int × UInt8)) : Nat → Value → World → Prop
  | 0, v, _ => v = .pointer (some ⟨q, 0, none⟩)
  | 1, v, _ => v = .pointer (some ⟨g0, 3, none⟩)
  | 2, v, _ => v = .agg #[.int .u64 y1, .int .u64 y2]
  | 3, v, _ => v = .pointer (some ⟨g0, 5, none⟩)
  | 4, v, _ => v = .slice A zs.length cap
  | 5, v, W => ∃ a c, v = .slice a (chOf zs).length c ∧ ChL W a (chOf zs)
  | _, _, _ => True
theorem DaG_mono (q g0 : Nat) (y1 y2 : Int) (A : Option Addr) (cap : Nat) (zs : List (Int × UInt8)) (i : Nat) (v : Value) (w w' : World) (hi : i < 6) (h : DaG q g0 y1 y2 A cap zs i v w) (hb : Below w.heap.size w w') : DaG q g0 y1 y2 A cap zs i v w' := by
  match i, hi, h with
  | 0, _, h | 1, _, h | 2, _, h | 3, _, h | 4, _, h => exact h
  | 5, _, ⟨a, c, h1, h2⟩ => exact ⟨a, c, h1, h2.below hb⟩

def DaRel (Is : IsT) (m p q : Nat) (X X1 : Nat → Prop) (w : World) (d : CH) (A : Option Addr) (n : Nat) (i : Value) (wr : World) : Prop :=
  ∃ k : Nat, k ≤ n ∧ i = .int .i64 (k : Int) ∧ Tw Is wr m p q d d X1 ∧ Ke m X w wr ∧ SlM wr A n

theorem chOf_le (zs : List (Int × UInt8)) : (chOf zs).length ≤ 10 := by
  unfold chOf
  rw [List.length_map, List.length_take]
  omega

set_option maxRecDepth 100000 in
set_option maxHeartbeats 6400000 in
theorem do_add {Is : IsT} (H : Impl Is) {m p q : Nat} {X : Nat → Prop} {w : World} {d : CH} (h : Tw Is w m p q d d X) (hm : m ≤ w.heap.size) (what : Int) (h0 : ¬ what = 0) (h1 : ¬ what = 1) (h2 : ¬ what = 2) (h3 : ¬ what = 3) (h4 : ¬ what = 4) (h5 : ¬ what = 5) (h6 : ¬ what = 6) (n : Int) (c : UInt8) (g : Gd) (hg : gdB g) (A : Option Addr) (cap : Nat) (zs : List (Int × UInt8)) (hT : PtM m w A zs) (hl : zs.length ≤ 9223372036854775807) :
    Calls Try.prog 16 #[.pointer (some ⟨p, 0, none⟩), .pointer (some ⟨q, 0, none⟩), .agg (ActC.mk what n c g A cap zs).cs] w (DoP Is m p q X w (d.add g (chOf zs)).1 (d.add g (chOf zs)).1) := by
  have HXL : Hid (∀ j, X j → j < w.heap.size) := h.choose_spec.choose_spec.2.2.2.2
  have HZB : Hid (∀ x ∈ chOf zs, b64 x.1) := chOf_b64 fun x hx => by
    obtain ⟨i, hi, rfl⟩ := List.getElem_of_mem hx
    obtain ⟨_, _, _, _, _, _, h⟩ := hT.1 i hi
    exact h
  have HB0 := Lib.hid ((Below.refl w.heap.size w).alloc (Nat.le_refl _) (.cells (ActC.mk what n c g A cap zs).cs 40))
  have HT0 := Lib.hid (act_box H h (ActC.mk what n c g A cap zs).cs 40)
  have HA0 := Lib.hid (Blk.new w 40 (ActC.mk what n c g A cap zs).cs)
  obtain ⟨w0, hw0⟩ : ∃ x, w.alloc (.cells (ActC.mk what n c g A cap zs).cs 40) = x := ⟨_, rfl⟩
  rw [hw0] at HB0 HT0 HA0
  have HM : Hid (m ≤ w0.heap.size) := Nat.le_trans hm HB0.out.size
  have HTP := Lib.hid (hT.below (HB0.out.mono hm))
  clear h hT
  unfold ActC.cs at hw0 HA0 ⊢
  dsimp only at hw0 HA0 ⊢
  obtain ⟨D', er, hD⟩ : ∃ D' er, d.add g (chOf zs) = (D', er) := ⟨_, _, rfl⟩
  have HD : Hid (d.add g (chOf zs) = (D', er)) := hD
  rw [show (d.add g (chOf zs)).1 = D' from by rw [hD]]
  clear hD
  obtain ⟨y1, hy1⟩ : ∃ y, (g.1 : Int) = y := ⟨_, rfl⟩
  obtain ⟨y2, hy2⟩ : ∃ y, (g.2 : Int) = y := ⟨_, rfl⟩
  have HGV : Hid (gv g = .agg #[.int .u64 y1, .int .u64 y2]) := by unfold Hid gv; rw [hy1, hy2]
  rw [hy1, hy2] at hw0 HA0 ⊢
  clear hy1 hy2
  have hlt := HA0.out.lt
  have c0 := HA0.out.cell 0
  have c3 := HA0.out.cell 3
  have c4 := HA0.out.cell 4
  have c5 := HA0.out.cell 5
  simp only [List.getElem?_toArray, List.getElem?_cons_zero, List.getElem?_cons_succ] at c0 c3 c4 c5
  go_enter Try.func16, Try.ntmps16
  go_wp2_with fail
  try rw [hw0]
  clear c0 c3 c4 c5 hw0
  refine (changes_any A cap zs w0 HTP.out.1 hl).mono ?_
  rintro e W1 ⟨v, rfl, ho, hb1⟩
  obtain ⟨A1, cc1, rfl, hv1, hs1, hi1⟩ := ochs_slm ho HZB.out
  have HT1 : Hid (Tw Is W1 m p q d d (fun j => (X j ∨ j = w.heap.size) ∨ InA A1 j)) := HT0.out.1.more H hb1 fun j hj => hj.imp id (hi1 j)
  have HV1 := Lib.hid hv1
  have HS1 := Lib.hid hs1
  have HIA : Hid (∀ j, InA A1 j → m ≤ j ∧ ¬ X j) := fun j hj => ⟨Nat.le_trans HM.out (hi1 j hj).1, fun hx => by have := HXL.out j hx; have := (hi1 j hj).1; have := HB0.out.size; omega⟩
  have HB1 := Lib.hid (below_step HB0.out hb1)
  have HA1 := Lib.hid (HA0.out.below hb1)
  have HM1 : Hid (m ≤ W1.heap.size) := Nat.le_trans HM.out hb1.size
  have HTP1 := Lib.hid (HTP.out.below (hb1.mono HM.out))
  have c3 := HA1.out.cell 3
  have c4 := HA1.out.cell 4
  simp only [List.getElem?_toArray, List.getElem?_cons_zero, List.getElem?_cons_succ] at c3 c4
  have hlt1 := HA1.out.lt
  clear ho hv1 hs1 hi1 hb1 HTP HM HA0 hlt
  go_wp2_with fail
  clear c3 c4
  refine (tw_left HT1.out HM1.out (r := (D', er)) (fun own hd hx => by have := H.add g A1 cc1 (chOf zs) hd hg HV1.out (Nat.le_trans (chOf_le zs) (by decide)) (fun b o e hb => (hx b hb).2 (.inr ⟨o, e⟩)); rw [HD.out, HGV.out] at this; exact this)).mono ?_
  rintro e W2 ⟨rfl, ht2, hk2⟩
  have HT2 := Lib.hid ht2
  have HK2 := Lib.hid hk2
  have HA2 := Lib.hid (HA1.out.of_block (hk2.block hlt1 (.inl (.inl (.inr rfl)))))
  have HTP2 := Lib.hid (HTP1.out.below (hk2.below HM1.out))
  have HS2 := Lib.hid (HS1.out.block fun j hj => hk2.block (HT1.out.choose_spec.choose_spec.2.2.2.2 j (.inr hj)) (.inl (.inr hj)))
  have HM2 : Hid (m ≤ W2.heap.size) := Nat.le_trans HM1.out hk2.size
  clear ht2 hk2 HT1 HV1 HS1 HTP1 HA1 hlt1
  go_wp2_with fail
  refine wp_region_slots_f (by kernel_rfl) 6 [74, 75, 76, 77, 78, 79] (by kernel_rfl) (DaG q w.heap.size y1 y2 A cap zs) (DaG_mono q w.heap.size y1 y2 A cap zs) ?_ ?_
  · intro i o vs ρ W hi ho hρ hfn hb hG
    have t1 : ρ (.tmp 1) = .pointer (some ⟨q, 0, none⟩) := hρ.out 1 rfl
    have t5 : ρ (.tmp 5) = .pointer (some ⟨w.heap.size, 0, none⟩) := hρ.out 5 rfl
    have s75 := hρ.at_ 75 1 rfl
    have s77 := hρ.at_ 77 3 rfl
    have s78 := hρ.at_ 78 4 rfl
    have hc := hρ.const
    have hAW := HA2.out.below hb
    have hltW := hAW.lt
    have c3 := hAW.cell 3
    have c4 := hAW.cell 4
    have c5 := hAW.cell 5
    simp only [List.getElem?_toArray, List.getElem?_cons_zero, List.getElem?_cons_succ] at c3 c4 c5
    rcases i with _ | _ | _ | _ | _ | _ | i
    all_goals (first | omega | skip)
    all_goals simp only [List.getElem?_toArray, List.getElem?_cons_zero, List.getElem?_cons_succ, Option.some.injEq] at ho
    all_goals subst ho
    · exact stepTo_value (w' := W) (by unfold execOp; simp only [t1]; go_simp) ⟨Below.refl _ _, rfl⟩
    · exact stepTo_value (w' := W) (by unfold execOp; simp only [t5]; go_simp) ⟨Below.refl _ _, rfl⟩
    · have g1 : vs 1 = _ := hG 1 (by kernel_rfl)
      exact stepTo_value (w' := W) (by unfold execOp; simp only [s75, g1]; go_simp) ⟨Below.refl _ _, rfl⟩
    · exact stepTo_value (w' := W) (by unfold execOp; simp only [t5]; go_simp) ⟨Below.refl _ _, rfl⟩
    · have g3 : vs 3 = _ := hG 3 (by kernel_rfl)
      exact stepTo_value (w' := W) (by unfold execOp; simp only [s77, g3]; go_simp) ⟨Below.refl _ _, rfl⟩
    · have g4 : vs 4 = _ := hG 4 (by kernel_rfl)
      refine stepTo_enter (f := 26) (args := #[.slice A zs.length cap]) (w' := W) (by unfold execOp; simp only [hc, hfn, s78, g4]; go_simp) ((changes_any A cap zs W (HTP2.out.below (hb.mono HM2.out)).1 hl).mono ?_)
      rintro e W' ⟨v, rfl, ho, hb'⟩
      obtain ⟨A5, cc5, rfl, hv5⟩ := ho.view HZB.out
      exact ⟨_, rfl, hb', A5, cc5, rfl, hv5⟩
  · intro vs W hb hG
    have g0 : vs 0 = _ := hG 0 (by decide)
    have g2 : vs 2 = _ := hG 2 (by decide)
    obtain ⟨A5, cc5, g5, hv5⟩ := hG 5 (by decide)
    have HT3 := Lib.hid (HT2.out.below H hb)
    have HV3 := Lib.hid hv5
    have HS3 := Lib.hid (HS2.out.block fun j hj => hb.block j (HT2.out.choose_spec.choose_spec.2.2.2.2 j (.inr hj)))
    have HK3 := Lib.hid (HK2.out.trans (Ke.of_below hb))
    have HM3 : Hid (m ≤ W.heap.size) := Nat.le_trans HM2.out hb.size
    simp only [putList, putSel, if_true]
    rw [g0, g2, g5]
    generalize vs 1 = x1
    generalize vs 3 = x3
    generalize vs 4 = x4
    clear hG g0 g2 g5 hv5 hb HT2 HK2 HS2 HM2 HTP2 HA2
    refine wpAny_one (i := 6) (by kernel_rfl) rfl rfl ?_
    go_simp
    refine (tw_right H HT3.out HM3.out (r := (D', er)) (fun own hd => by have := radd_any hd g hg A5 cc5 (chOf zs) HV3.out (Nat.le_trans (chOf_le zs) (by decide)); rw [HD.out, HGV.out] at this; exact this)).mono ?_
    rintro e W4 ⟨rfl, ht4, hk4⟩
    dsimp only
    refine wpAny_one (i := 7) (by kernel_rfl) rfl rfl ?_
    go_simp
    refine ⟨by kernel_rfl, ?_⟩
    have HW4 : Hid (DaRel Is m p q X (fun j => (X j ∨ j = w.heap.size) ∨ InA A1 j) w D' A1 (chOf zs).length (.int .i64 (0 : Nat)) W4) :=
      ⟨0, Nat.zero_le _, rfl, ht4, (Ke.of_below HB1.out).trans ((HK3.out.trans hk4).mono fun j hj => .inl (.inl hj)), HS3.out.block fun j hj => hk4.block (HT3.out.choose_spec.choose_spec.2.2.2.2 j (.inr hj)) (.inl (.inr hj))⟩
    clear ht4 hk4 HT3 HV3 HS3 HK3 HM3
    have HNL := Lib.hid (chOf_le zs)
    generalize (chOf zs).length = nn at *
    go_wp2_with fail
    go_loopw [10] (fun i wr => DaRel Is m p q X (fun j => (X j ∨ j = w.heap.size) ∨ InA A1 j) w D' A1 nn i wr) (fun i _ => nn - (intOf i).toNat)
    case atStart => exact HW4.out
    case round =>
      obtain ⟨k, hk, rfl, ht, hke, hsl⟩ := hrel
      have HT := Lib.hid ht
      have HKE := Lib.hid hke
      have hn10 := HNL.out
      clear ht hke
      by_cases hlt : k < nn
      · obtain ⟨bb, cur, rfl, hbk, hsz⟩ := hsl (by omega)
        have hkn : (k : Int) < (nn : Int) := by omega
        have f0 := hbk.frozen (k * 2)
        have f1 := hbk.frozen (k * 2 + 1)
        obtain ⟨u0, hu0⟩ : ∃ u, wr.cell? ⟨bb, k * 2, none⟩ = some u := ⟨_, (hbk.cell (k * 2)).trans (Array.getElem?_eq_getElem (by omega))⟩
        obtain ⟨u1, hu1⟩ : ∃ u, wr.cell? ⟨bb, k * 2 + 1, none⟩ = some u := ⟨_, (hbk.cell (k * 2 + 1)).trans (Array.getElem?_eq_getElem (by omega))⟩
        have hltb := hbk.lt
        have HBK := Lib.hid hbk
        clear hbk hsl
        go_wp2_with fail
        go_roundw
        case rel =>
          have hib : InA (some ⟨bb, 0, none⟩) bb := ⟨0, rfl⟩
          have hku := HIA.out bb hib
          refine ⟨k + 1, by omega, by go_num, HT.out.turn H (((But.refl _ _).setCell ⟨bb, k * 2, none⟩ _ (.inl (.inr hib))).setCell ⟨bb, k * 2 + 1, none⟩ _ (.inl (.inr hib))), ?_, fun _ => ⟨bb, _, rfl, (HBK.out.set_ _ _).set_ _ _, by simpa using hsz⟩⟩
          exact But.setCell (But.setCell HKE.out ⟨bb, k * 2, none⟩ _ (.inl hku)) ⟨bb, k * 2 + 1, none⟩ _ (.inl hku)
        case measure => simp [intOf]; omega
      · have hkn : ¬ (k : Int) < (nn : Int) := by omega
        clear hsl
        go_wp2_with fail
        go_ret
        exact ⟨rfl, HT.out.fewer fun j hj => .inl (.inl hj), HKE.out⟩
end Go.Proofs.Ytfinmfmbbgakhaa.ch

/- A slice of structs, opened at every index: its cells, what each field's cells are. Nothing here speaks of the program. -/
namespace Go.Proofs.Ytfinmfmbbgakhaa
open Go Go.ChangeShapes Go.WideShapes Go.Deep
set_option maxRecDepth 100000

theorem open_slice_wide {H : Type} {enc : TypeId × Value → H} {P : Program} {w : World} {base : Nat} {spare : Nat → Bool} {held : Bool} {t e : TypeId} {fs : Array Field} {fuel : Nat} {cs : List Value} {x : DataW H × List MemPlace}
    (ht : P.underlying t = some (.slice e)) (he : P.underlying e = some (.struct fs))
    (h : DataW.trod enc P w base spare held fuel t cs = some x) :
    (cs = [.slice none 0 0] ∧ x = (.nil, [])) ∨
    ∃ (a : Addr) (len cap m : Nat), cs = [.slice (some a) len cap] ∧ base ≤ a.block ∧ len ≤ cap ∧ cap ≤ maxLen ∧ m = (if spare a.block then cap else len) ∧
      ∀ i, i < m → ∃ cs' : List Value, cs'.length = P.cellsOf e ∧ (∀ k (hk : k < cs'.length), w.cell? (a.add (i * P.cellsOf e + k)) = some cs'[k]) ∧
        ∀ (k : Nat) (f : Field), fs[k]? = some f → ∃ y n, DataW.trod enc P w base spare held n f.type ((cs'.drop f.offset).take (P.cellsOf f.type)) = some y := by
  rcases open_slice ht h with h0 | ⟨a, len, cap, m, n, D, Pl, rfl, hb, hl, hm, hmm, rfl, hx⟩
  · exact Or.inl h0
  right
  refine ⟨a, len, cap, m, rfl, hb, hl, hm, hmm, fun i hi => ?_⟩
  obtain ⟨cs', h1, h2⟩ := hx i hi
  obtain ⟨_, hlen, hcell⟩ := World.cells?_some h1
  obtain ⟨xs, n', _, _, _, hxl, hf⟩ := DataW.trod_struct he h2
  refine ⟨cs', hlen, fun k hk => ?_, fun k f hk => ?_⟩
  · have hcl := hcell k (by omega)
    rw [add_add, List.getElem?_eq_getElem hk] at hcl
    exact hcl
  · have hlt : k < fs.size := (Array.getElem?_eq_some_iff.1 hk).1
    exact ⟨xs[k]'(by omega), n', (hf k f hk).trans (List.getElem?_eq_getElem (by omega))⟩
end Go.Proofs.Ytfinmfmbbgakhaa

/- What comes in for ChainPlays: acts. -/
namespace Go.Proofs.Ytfinmfmbbgakhaa.ch
open Go Go.RowKit Go.ChangeShapes Go.WideShapes Go.Deep Go.Proofs.Ytfinmfmbbgakhaa.ib
set_option maxRecDepth 100000

structure ActC.ok (x : ActC) (w : World) : Prop where
  n : b64 x.n
  g : gdB x.g
  zs : PtL w x.A x.zs
  len : x.zs.length ≤ 9223372036854775807
def ActsC (w : World) (a : Option Addr) (xs : List ActC) : Prop :=
  ∀ i (h : i < xs.length), ∃ b o, a = some ⟨b, o, none⟩ ∧ b < w.heap.size ∧ w.cell? ⟨b, o + i * 6, none⟩ = some (.int .i64 xs[i].what) ∧ w.cell? ⟨b, o + i * 6 + 1, none⟩ = some (.int .i64 xs[i].n) ∧
    w.cell? ⟨b, o + i * 6 + 2, none⟩ = some (.int .u8 (xs[i].c.toNat : Int)) ∧ w.cell? ⟨b, o + i * 6 + 3, none⟩ = some (.int .u64 (xs[i].g.1 : Int)) ∧ w.cell? ⟨b, o + i * 6 + 4, none⟩ = some (.int .u64 (xs[i].g.2 : Int)) ∧
    w.cell? ⟨b, o + i * 6 + 5, none⟩ = some (.slice xs[i].A xs[i].zs.length xs[i].cap) ∧ xs[i].ok w

section
variable {H : Type} {enc : TypeId × Value → H} {w : World} {held : Bool} {a : Option Addr} {l c : Nat} {d : DataW H} {pl : List MemPlace}
theorem acts8_of (h : DataW.Trod enc Try.prog w 0 (fun _ => true) held 22 (.slice a l c) d pl) : ∃ xs : List ActC, xs.length = l ∧ l ≤ 9223372036854775807 ∧ ActsC w a xs := by
  obtain ⟨fuel, hf⟩ := h
  rcases open_slice_wide Try.underlying22 Try.underlying40 hf with ⟨hcs, _⟩ | ⟨x, l', c', m, hcs, _, hl, hm, hmm, hi⟩
  · simp [Value.cells] at hcs
    obtain ⟨rfl, rfl, rfl⟩ := hcs
    exact ⟨[], rfl, by omega, fun i h => absurd h (by simp)⟩
  · simp [Value.cells] at hcs
    obtain ⟨rfl, rfl, rfl⟩ := hcs
    simp only [if_true] at hmm
    subst hmm
    unfold maxLen at hm
    have n6 : Try.prog.cellsOf 40 = 6 := by kernel_rfl
    have n1 : Try.prog.cellsOf 3 = 1 := by kernel_rfl
    have n1' : Try.prog.cellsOf 5 = 1 := by kernel_rfl
    have n2 : Try.prog.cellsOf 37 = 2 := by kernel_rfl
    have n1s : Try.prog.cellsOf 38 = 1 := by kernel_rfl
    have nu : Try.prog.cellsOf 35 = 1 := by kernel_rfl
    rw [n6] at hi
    obtain ⟨xs, hzl, hz⟩ := choose_list (p := fun i (z : ActC) => w.cell? (x.add (i * 6)) = some (.int .i64 z.what) ∧ w.cell? (x.add (i * 6 + 1)) = some (.int .i64 z.n) ∧ w.cell? (x.add (i * 6 + 2)) = some (.int .u8 (z.c.toNat : Int)) ∧
        w.cell? (x.add (i * 6 + 3)) = some (.int .u64 (z.g.1 : Int)) ∧ w.cell? (x.add (i * 6 + 4)) = some (.int .u64 (z.g.2 : Int)) ∧ w.cell? (x.add (i * 6 + 5)) = some (.slice z.A z.zs.length z.cap) ∧ z.ok w) l (fun i hil => by
      obtain ⟨cs', hlen, hcell, hfs⟩ := hi i (by omega)
      match cs', hlen with
      | [v0, v1, v2, v3, v4, v5], _ =>
        obtain ⟨y0, m0, g0⟩ := hfs 0 _ rfl
        replace g0 : DataW.trod enc Try.prog w 0 (fun _ => true) held m0 3 ((([v0, v1, v2, v3, v4, v5] : List Value).drop 0).take (Try.prog.cellsOf 3)) = some y0 := g0
        rw [n1] at g0
        simp only [List.drop_succ_cons, List.drop_zero, List.take_succ_cons, List.take_zero] at g0
        obtain ⟨y1, m1, g1⟩ := hfs 1 _ rfl
        replace g1 : DataW.trod enc Try.prog w 0 (fun _ => true) held m1 3 ((([v0, v1, v2, v3, v4, v5] : List Value).drop 1).take (Try.prog.cellsOf 3)) = some y1 := g1
        rw [n1] at g1
        simp only [List.drop_succ_cons, List.drop_zero, List.take_succ_cons, List.take_zero] at g1
        obtain ⟨y2, m2, g2⟩ := hfs 2 _ rfl
        replace g2 : DataW.trod enc Try.prog w 0 (fun _ => true) held m2 5 ((([v0, v1, v2, v3, v4, v5] : List Value).drop 2).take (Try.prog.cellsOf 5)) = some y2 := g2
        rw [n1'] at g2
        simp only [List.drop_succ_cons, List.drop_zero, List.take_succ_cons, List.take_zero] at g2
        obtain ⟨y3, m3, g3⟩ := hfs 3 _ rfl
        replace g3 : DataW.trod enc Try.prog w 0 (fun _ => true) held m3 37 ((([v0, v1, v2, v3, v4, v5] : List Value).drop 3).take (Try.prog.cellsOf 37)) = some y3 := g3
        rw [n2] at g3
        simp only [List.drop_succ_cons, List.drop_zero, List.take_succ_cons, List.take_zero] at g3
        obtain ⟨y5, m5, g5⟩ := hfs 4 _ rfl
        replace g5 : DataW.trod enc Try.prog w 0 (fun _ => true) held m5 38 ((([v0, v1, v2, v3, v4, v5] : List Value).drop 5).take (Try.prog.cellsOf 38)) = some y5 := g5
        rw [n1s] at g5
        simp only [List.drop_succ_cons, List.drop_zero, List.take_succ_cons, List.take_zero] at g5
        obtain ⟨k0, h0, _, b0⟩ := DataW.trod_int Try.underlying3 g0
        obtain ⟨k1, h1, _, b1⟩ := DataW.trod_int Try.underlying3 g1
        obtain ⟨k2, h2, _, b2⟩ := DataW.trod_int Try.underlying5 g2
        obtain ⟨z0, z1, mz, _, _, t0, t1⟩ := trod_struct2 Try.underlying37 g3
        replace t0 : DataW.trod enc Try.prog w 0 (fun _ => true) held mz 35 ((([v3, v4] : List Value).drop 0).take (Try.prog.cellsOf 35)) = some z0 := t0
        rw [nu] at t0
        simp only [List.drop_succ_cons, List.drop_zero, List.take_succ_cons, List.take_zero] at t0
        replace t1 : DataW.trod enc Try.prog w 0 (fun _ => true) held mz 35 ((([v3, v4] : List Value).drop 1).take (Try.prog.cellsOf 35)) = some z1 := t1
        rw [nu] at t1
        simp only [List.drop_succ_cons, List.drop_zero, List.take_succ_cons, List.take_zero] at t1
        obtain ⟨k3, h3, _, b3⟩ := DataW.trod_int Try.underlying35 t0
        obtain ⟨k4, h4, _, b4⟩ := DataW.trod_int Try.underlying35 t1
        obtain ⟨A, ks, cc, rfl, hbs, hnl⟩ := puts8_cells g5
        obtain ⟨c2, rfl⟩ := u8_of b2
        obtain ⟨e3, rfl, l3⟩ := u64_of b3
        obtain ⟨e4, rfl, l4⟩ := u64_of b4
        obtain rfl : v0 = _ := by simpa using h0
        obtain rfl : v1 = _ := by simpa using h1
        obtain rfl : v2 = _ := by simpa using h2
        obtain rfl : v3 = _ := by simpa using h3
        obtain rfl : v4 = _ := by simpa using h4
        exact ⟨⟨k0, k1, c2, (e3, e4), A, cc, ks⟩, hcell 0 (by simp), hcell 1 (by simp), hcell 2 (by simp), hcell 3 (by simp), hcell 4 (by simp), hcell 5 (by simp), bounds_i64 b1, ⟨l3, l4⟩, hbs, hnl⟩)
    refine ⟨xs, hzl, by omega, fun i hil => ?_⟩
    have h0 := (hz 0 (by omega)).1
    rw [Nat.zero_mul] at h0
    obtain ⟨b, o, rfl, hb⟩ := spot0 h0
    have := hz i hil
    rw [addr_add, addr_add, addr_add, addr_add, addr_add, addr_add] at this
    simp only [Nat.add_assoc] at this ⊢
    exact ⟨b, o, rfl, hb, this⟩
end
end Go.Proofs.Ytfinmfmbbgakhaa.ch

/- What do of the statements does: write. -/
namespace Go.Proofs.Ytfinmfmbbgakhaa.ch
open Go Go.RowKit Go.Proofs.Ytfinmfmbbgakhaa.ib
set_option maxRecDepth 100000

def DwG (p q g0 : Nat) (n : Int) (c : UInt8) (S : ByteArray) (er : Int) : Nat → Value → World → Prop
  | 0, v, _ => v = .pointer (some ⟨p, 0, none⟩)
  | 1, v, _ => v = .pointer (some ⟨g0, 1, none⟩)
  | 2, v, _ => v = .int .i64 n
  | 3, v, _ => v = .pointer (some ⟨g0, 2, none⟩)
  | 4, v, _ => v = .int .u8 (c.toNat : Int)
  | 5, v, _ => v = .string S
  | 6, v, _ => v = .int .i64 er
  | 7, v, _ => v = .pointer (some ⟨q, 0, none⟩)
  | 8, v, _ => v = .pointer (some ⟨g0, 1, none⟩)
  | 9, v, _ => v = .int .i64 n
  | 10, v, _ => v = .pointer (some ⟨g0, 2, none⟩)
  | 11, v, _ => v = .int .u8 (c.toNat : Int)
  | 12, v, _ => v = .string S
  | 13, v, _ => v = .int .i64 er
  | 14, v, _ => v = .bool true
  | 15, v, _ => v = .bool true
  | _, _, _ => True

set_option maxRecDepth 100000 in
set_option maxHeartbeats 6400000 in
theorem do_write {Is : IsT} (H : Impl Is) {m p q : Nat} {X : Nat → Prop} {w : World} {d : CH} (h : Tw Is w m p q d d X) (hm : m ≤ w.heap.size) (what : Int) (hw : what = 0 ∨ what = 1 ∨ what = 2) (n : Int) (c : UInt8) (g : Gd) (A : Option Addr) (cap : Nat) (zs : List (Int × UInt8)) (hn : b64 n) :
    Calls Try.prog 16 #[.pointer (some ⟨p, 0, none⟩), .pointer (some ⟨q, 0, none⟩), .agg (ActC.mk what n c g A cap zs).cs] w (DoP Is m p q X w (d.write n (dat c)).1 (d.write n (dat c)).1) := by
  have HB0 := Lib.hid ((Below.refl w.heap.size w).alloc (Nat.le_refl _) (.cells (ActC.mk what n c g A cap zs).cs 40))
  have HT0 := Lib.hid (act_box H h (ActC.mk what n c g A cap zs).cs 40)
  have HA0 := Lib.hid (Blk.new w 40 (ActC.mk what n c g A cap zs).cs)
  obtain ⟨w0, hw0⟩ : ∃ x, w.alloc (.cells (ActC.mk what n c g A cap zs).cs 40) = x := ⟨_, rfl⟩
  rw [hw0] at HB0 HT0 HA0
  have HM : Hid (m ≤ w0.heap.size) := Nat.le_trans hm HB0.out.size
  clear h
  unfold ActC.cs at hw0 HA0 ⊢
  dsimp only at hw0 HA0 ⊢
  obtain ⟨D', er, hD⟩ : ∃ D' er, d.write n (dat c) = (D', er) := ⟨_, _, rfl⟩
  have HD : Hid (d.write n (dat c) = (D', er)) := hD
  rw [show (d.write n (dat c)).1 = D' from by rw [hD]]
  clear hD
  obtain ⟨S, hS⟩ : ∃ s, str (dat c) = s := ⟨_, rfl⟩
  have HSS := Lib.hid hS
  clear hS
  have HS0 : Hid (DoS Is m p q (fun j => X j ∨ j = w.heap.size) w0 d d D' D' false false w0.drew) := HT0.out.below H (drewC (Below.refl _ _) 1)
  have hlt := HA0.out.lt
  have c0 := HA0.out.cell 0
  simp only [List.getElem?_toArray, List.getElem?_cons_zero, List.getElem?_cons_succ] at c0
  rcases hw with rfl | rfl | rfl
  all_goals
    go_enter Try.func16, Try.ntmps16
    go_wp2_with fail
    try rw [hw0]
    clear hw0 c0
    refine wp_region_inv (by kernel_rfl) [17, 18, 19, 20, 21, 22, 23, 24, 25, 26, 27, 28, 29, 30, 31, 6] (by kernel_rfl) (fun L vs W => DoS Is m p q (fun j => X j ∨ j = w.heap.size) w0 d d D' D' (L 6) (L 13) W ∧ ((L 13 = true → L 6 = true) ∧ (L 12 = true → L 6 = true)) ∧ ∀ i, L i = true → i < 16 → DwG p q w.heap.size n c S er i (vs i) W) ⟨HS0.out, ⟨fun h => (by cases h), fun h => (by cases h)⟩, fun i hi => by cases hi⟩ ?_ ?_ ?_
    · intro i o L vs ρ W ho hli haft hρ hgd hI
      obtain ⟨hS, hC, hG'⟩ := hI
      have hG : ∀ j, L j = true → DwG p q w.heap.size n c S er j (vs j) W := fun j hj => by
        by_cases h16 : j < 16
        · exact hG' j hj h16
        · match j, h16 with
          | j + 16, _ => exact trivial
      have hi16 : i < 16 := (Array.getElem?_eq_some_iff.1 ho).1
      have hc := hρ.const
      have hfn := hρ.fn
      have nextG : ∀ v W', DwG p q w.heap.size n c S er i v W' → ∀ j, updB L i j = true → j < 16 → DwG p q w.heap.size n c S er j (updV vs i v j) W' := fun v W' h2 j hj h16 => by
        by_cases hji : j = i
        · subst hji
          simpa [updV] using h2
        · simp only [updB, if_neg hji] at hj
          have := hG' j hj h16
          simp only [updV, if_neg hji]
          match j, h16, this with
          | 0, _, h => exact h
          | 1, _, h => exact h
          | 2, _, h => exact h
          | 3, _, h => exact h
          | 4, _, h => exact h
          | 5, _, h => exact h
          | 6, _, h => exact h
          | 7, _, h => exact h
          | 8, _, h => exact h
          | 9, _, h => exact h
          | 10, _, h => exact h
          | 11, _, h => exact h
          | 12, _, h => exact h
          | 13, _, h => exact h
          | 14, _, h => exact h
          | 15, _, h => exact h
          | j + 16, h, _ => exact absurd h (by omega)
      have next : i ≠ 6 → i ≠ 13 → (i = 12 → L 6 = true) → ∀ v W', DoS Is m p q (fun j => X j ∨ j = w.heap.size) w0 d d D' D' (L 6) (L 13) W' → DwG p q w.heap.size n c S er i v W' → DoS Is m p q (fun j => X j ∨ j = w.heap.size) w0 d d D' D' (updB L i 6) (updB L i 13) W' ∧ ((updB L i 13 = true → updB L i 6 = true) ∧ (updB L i 12 = true → updB L i 6 = true)) ∧ ∀ j, updB L i j = true → j < 16 → DwG p q w.heap.size n c S er j (updV vs i v j) W' := fun n1 n2 n3 v W' h1 h2 => by
        refine ⟨?_, ⟨?_, ?_⟩, nextG v W' h2⟩
        · simp only [updB, if_neg (Ne.symm n1), if_neg (Ne.symm n2)]
          exact h1
        · simp only [updB, if_neg (Ne.symm n1), if_neg (Ne.symm n2)]
          exact hC.1
        · intro hm
          simp only [updB, if_neg (Ne.symm n1)]
          by_cases him : 12 = i
          · exact n3 him.symm
          · simp only [updB, if_neg him] at hm
            exact hC.2 hm
      have hA1 := HA0.out.of_block (hS.2.block hlt (.inl (.inr rfl)))
      have hltW := hA1.lt
      have l1 := hA1.cell 1
      have l2 := hA1.cell 2
      have l3 := hA1.cell 3
      have l4 := hA1.cell 4
      simp only [List.getElem?_toArray, List.getElem?_cons_zero, List.getElem?_cons_succ] at l1 l2 l3 l4
      rcases i with _ | _ | _ | _ | _ | _ | _ | _ | _ | _ | _ | _ | _ | _ | _ | _ | i
      all_goals (first | omega | skip)
      all_goals simp only [List.getElem?_toArray, List.getElem?_cons_zero, List.getElem?_cons_succ, Option.some.injEq] at ho
      all_goals subst ho
      · have o0 : ρ (.tmp 0) = .pointer (some ⟨p, 0, none⟩) := hρ.out 0 rfl
        exact stepTo_value (w' := W) (by unfold execOp; simp only [o0, hc]; go_simp) (next (by decide) (by decide) (fun h => absurd h (by decide)) _ _ hS rfl)
      · have o5 : ρ (.tmp 5) = .pointer (some ⟨w.heap.size, 0, none⟩) := hρ.out 5 rfl
        exact stepTo_value (w' := W) (by unfold execOp; simp only [o5, hc]; go_simp) (next (by decide) (by decide) (fun h => absurd h (by decide)) _ _ hS rfl)
      · have g18 : DwG p q w.heap.size n c S er 1 (vs 1) W := hG 1 (haft 1 (by kernel_rfl))
        have s18 : ρ (.tmp 18) = .pointer (some ⟨w.heap.size, 1, none⟩) := (hρ.at_ 18 1 rfl).trans g18
        exact stepTo_value (w' := W) (by unfold execOp; simp only [s18, hc]; go_simp) (next (by decide) (by decide) (fun h => absurd h (by decide)) _ _ hS rfl)
      · have o5 : ρ (.tmp 5) = .pointer (some ⟨w.heap.size, 0, none⟩) := hρ.out 5 rfl
        exact stepTo_value (w' := W) (by unfold execOp; simp only [o5, hc]; go_simp) (next (by decide) (by decide) (fun h => absurd h (by decide)) _ _ hS rfl)
      · have g20 : DwG p q w.heap.size n c S er 3 (vs 3) W := hG 3 (haft 3 (by kernel_rfl))
        have s20 : ρ (.tmp 20) = .pointer (some ⟨w.heap.size, 2, none⟩) := (hρ.at_ 20 3 rfl).trans g20
        exact stepTo_value (w' := W) (by unfold execOp; simp only [s20, hc]; go_simp) (next (by decide) (by decide) (fun h => absurd h (by decide)) _ _ hS rfl)
      · have g21 : DwG p q w.heap.size n c S er 4 (vs 4) W := hG 4 (haft 4 (by kernel_rfl))
        have s21 : ρ (.tmp 21) = .int .u8 (c.toNat : Int) := (hρ.at_ 21 4 rfl).trans g21
        refine stepTo_enter (f := 14) (args := #[.int .u8 (c.toNat : Int)]) (w' := W) (by unfold execOp; simp only [hfn, s21]; go_simp) ((data_any c W).mono ?_)
        rintro x W' ⟨rfl, hb'⟩
        exact ⟨_, rfl, next (by decide) (by decide) (fun h => absurd h (by decide)) _ _ (TwK.below H hS hb') (congrArg Value.string HSS.out)⟩
      · have g17 : DwG p q w.heap.size n c S er 0 (vs 0) W := hG 0 (haft 0 (by kernel_rfl))
        have s17 : ρ (.tmp 17) = .pointer (some ⟨p, 0, none⟩) := (hρ.at_ 17 0 rfl).trans g17
        have g19 : DwG p q w.heap.size n c S er 2 (vs 2) W := hG 2 (haft 2 (by kernel_rfl))
        have s19 : ρ (.tmp 19) = .int .i64 n := (hρ.at_ 19 2 rfl).trans g19
        have g22 : DwG p q w.heap.size n c S er 5 (vs 5) W := hG 5 (haft 5 (by kernel_rfl))
        have s22 : ρ (.tmp 22) = .string S := (hρ.at_ 22 5 rfl).trans g22
        have n2 : L 13 = false := by
          cases hx : L 13 with
          | false => rfl
          | true => exact absurd (hC.1 hx) (by rw [hli]; decide)
        rw [hli, n2] at hS
        refine stepTo_enter (f := 13) (args := #[.pointer (some ⟨p, 0, none⟩), .int .i64 n, .string S]) (w' := W) (by unfold execOp; simp only [hfn, s17, s19, s22]; go_simp) ((doS_l hS HM.out (fun own hd _ => by have := H.write n (dat c) hd hn; rw [HD.out, HSS.out] at this; exact this)).mono ?_)
        rintro x W' ⟨rfl, h1⟩
        refine ⟨_, rfl, ?_, ⟨fun _ => by simp [updB], fun _ => by simp [updB]⟩, nextG _ _ rfl⟩
        simp only [updB, n2]
        exact h1
      · have o1 : ρ (.tmp 1) = .pointer (some ⟨q, 0, none⟩) := hρ.out 1 rfl
        exact stepTo_value (w' := W) (by unfold execOp; simp only [o1, hc]; go_simp) (next (by decide) (by decide) (fun h => absurd h (by decide)) _ _ hS rfl)
      · have o5 : ρ (.tmp 5) = .pointer (some ⟨w.heap.size, 0, none⟩) := hρ.out 5 rfl
        exact stepTo_value (w' := W) (by unfold execOp; simp only [o5, hc]; go_simp) (next (by decide) (by decide) (fun h => absurd h (by decide)) _ _ hS rfl)
      · have g25 : DwG p q w.heap.size n c S er 8 (vs 8) W := hG 8 (haft 8 (by kernel_rfl))
        have s25 : ρ (.tmp 25) = .pointer (some ⟨w.heap.size, 1, none⟩) := (hρ.at_ 25 8 rfl).trans g25
        exact stepTo_value (w' := W) (by unfold execOp; simp only [s25, hc]; go_simp) (next (by decide) (by decide) (fun h => absurd h (by decide)) _ _ hS rfl)
      · have o5 : ρ (.tmp 5) = .pointer (some ⟨w.heap.size, 0, none⟩) := hρ.out 5 rfl
        exact stepTo_value (w' := W) (by unfold execOp; simp only [o5, hc]; go_simp) (next (by decide) (by decide) (fun h => absurd h (by decide)) _ _ hS rfl)
      · have g27 : DwG p q w.heap.size n c S er 10 (vs 10) W := hG 10 (haft 10 (by kernel_rfl))
        have s27 : ρ (.tmp 27) = .pointer (some ⟨w.heap.size, 2, none⟩) := (hρ.at_ 27 10 rfl).trans g27
        exact stepTo_value (w' := W) (by unfold execOp; simp only [s27, hc]; go_simp) (next (by decide) (by decide) (fun h => absurd h (by decide)) _ _ hS rfl)
      · have g28 : DwG p q w.heap.size n c S er 11 (vs 11) W := hG 11 (haft 11 (by kernel_rfl))
        have s28 : ρ (.tmp 28) = .int .u8 (c.toNat : Int) := (hρ.at_ 28 11 rfl).trans g28
        refine stepTo_enter (f := 14) (args := #[.int .u8 (c.toNat : Int)]) (w' := W) (by unfold execOp; simp only [hfn, s28]; go_simp) ((data_any c W).mono ?_)
        rintro x W' ⟨rfl, hb'⟩
        exact ⟨_, rfl, next (by decide) (by decide) (fun _ => haft 6 (by kernel_rfl)) _ _ (TwK.below H hS hb') (congrArg Value.string HSS.out)⟩
      · have g24 : DwG p q w.heap.size n c S er 7 (vs 7) W := hG 7 (haft 7 (by kernel_rfl))
        have s24 : ρ (.tmp 24) = .pointer (some ⟨q, 0, none⟩) := (hρ.at_ 24 7 rfl).trans g24
        have g26 : DwG p q w.heap.size n c S er 9 (vs 9) W := hG 9 (haft 9 (by kernel_rfl))
        have s26 : ρ (.tmp 26) = .int .i64 n := (hρ.at_ 26 9 rfl).trans g26
        have g29 : DwG p q w.heap.size n c S er 12 (vs 12) W := hG 12 (haft 12 (by kernel_rfl))
        have s29 : ρ (.tmp 29) = .string S := (hρ.at_ 29 12 rfl).trans g29
        have yq1 : L 6 = true := hC.2 (haft 12 (by kernel_rfl))
        rw [hli, yq1] at hS
        refine stepTo_enter (f := 34) (args := #[.pointer (some ⟨q, 0, none⟩), .int .i64 n, .string S]) (w' := W) (by unfold execOp; simp only [hfn, s24, s26, s29]; go_simp) ((doS_r H hS HM.out (fun own hd => by have := rwrite_any hd n (dat c); rw [HD.out, HSS.out] at this; exact this)).mono ?_)
        rintro x W' ⟨rfl, h1⟩
        refine ⟨_, rfl, ?_, ⟨fun _ => by simp [updB, yq1], fun _ => by simp [updB, yq1]⟩, nextG _ _ rfl⟩
        simp only [updB, yq1]
        exact h1
      · have g23 : DwG p q w.heap.size n c S er 6 (vs 6) W := hG 6 (haft 6 (by kernel_rfl))
        have s23 : ρ (.tmp 23) = .int .i64 er := (hρ.at_ 23 6 rfl).trans g23
        have g30 : DwG p q w.heap.size n c S er 13 (vs 13) W := hG 13 (haft 13 (by kernel_rfl))
        have s30 : ρ (.tmp 30) = .int .i64 er := (hρ.at_ 30 13 rfl).trans g30
        exact stepTo_value (w' := W) (by unfold execOp; simp only [s23, s30, hc]; go_simp) (next (by decide) (by decide) (fun h => absurd h (by decide)) _ _ hS rfl)
      · have g31 : DwG p q w.heap.size n c S er 14 (vs 14) W := hG 14 (haft 14 (by kernel_rfl))
        have s31 : ρ (.tmp 31) = .bool true := (hρ.at_ 31 14 rfl).trans g31
        exact stepTo_value (w' := W) (by unfold execOp; simp only [s31, hc]; go_simp) (next (by decide) (by decide) (fun h => absurd h (by decide)) _ _ hS rfl)
    · intro i o L vs W j want ho hli haft hg hv hI
      have hi16 : i < 16 := (Array.getElem?_eq_some_iff.1 ho).1
      rcases i with _ | _ | _ | _ | _ | _ | _ | _ | _ | _ | _ | _ | _ | _ | _ | _ | i
      all_goals (first | omega | skip)
      all_goals simp only [List.getElem?_toArray, List.getElem?_cons_zero, List.getElem?_cons_succ, Option.some.injEq] at ho
      all_goals subst ho
      all_goals simp only [reduceCtorEq] at hg
    · intro vs W hI
      obtain ⟨hS, _, hG⟩ := hI
      have gl : vs 15 = .bool true := hG 15 (by decide) (by decide)
      have HSF : Hid (TwK Is m p q (fun j => X j ∨ j = w.heap.size) w0 D' D' W) := hS
      clear hS hG
      go_wp2_with fail
      refine bodyPost_slot 15 rfl (by decide +kernel) (by kernel_rfl) rfl gl ⟨rfl, ?_⟩
      exact do_end HB0.out HSF.out
end Go.Proofs.Ytfinmfmbbgakhaa.ch


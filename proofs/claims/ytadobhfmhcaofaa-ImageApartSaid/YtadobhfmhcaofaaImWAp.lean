/- The walk of ImageApart. -/
import Derived.Test.YtadobhfmhcaofaaImW1
import Derived.Test.YtadobhfmhcaofaaImMath
import Derived.Test.YtadobhfmhcaofaaAppAt
namespace Go.Proofs.Ytadobhfmhcaofaa.im
open Go Go.RowKit Go.ChangeShapes Go.WideShapes Go.Proofs.Ytadobhfmhcaofaa.ib
set_option maxRecDepth 100000

theorem oints_below {w w' : World} {B : Nat} {v : Value} {zs : List Int} (h : OInts w B v zs) (hb : Below w.heap.size w w') : OInts w' B v zs := by
  refine ⟨h.1, ?_⟩
  rcases h.2 with h2 | ⟨g, cap, cur, h1, h2, h3, h4⟩
  · exact .inl h2
  · exact .inr ⟨g, cap, cur, h1, h2, (hb.block g (Array.getElem?_eq_some_iff.1 h3).1).trans h3, h4⟩
theorem oints_sl {w : World} {B : Nat} {v : Value} {zs : List Int} (h : OInts w B v zs) (hz : ∀ z ∈ zs, i64B z) : ∃ A cc, v = .slice A zs.length cc ∧ SlAt w A zs cc := by
  rcases h.2 with ⟨rfl, h0⟩ | ⟨g, cap, cur, rfl, hg, hh, hcc, hm, hcs, hcur⟩
  · obtain rfl : zs = [] := List.length_eq_zero_iff.1 h0
    exact ⟨none, 0, rfl, SlAt.none w⟩
  · obtain ⟨A, cc, hv, hi, hb⟩ := h.view hz
    simp only [Value.slice.injEq] at hv
    obtain ⟨rfl, _, rfl⟩ := hv
    exact ⟨_, _, rfl, hi, hcc, fun h => by cases h⟩
theorem pad_i64 {a : List Int} (h : ∀ z ∈ a, i64B z) (k : Nat) : ∀ z ∈ padTo a k, i64B z := by
  intro z hz
  unfold padTo at hz
  rcases List.mem_append.1 hz with h1 | h1
  · exact h z h1
  · rw [List.eq_of_mem_replicate h1]; unfold i64B; omega

def slLen : Value → Nat
  | .slice _ n _ => n
  | _ => 0
/-- The first list, with zeros behind it. -/
def PdRel (a : List Int) (M : Nat) (w0 w1 w3 : World) (v : Value) (wr : World) : Prop :=
  ∃ k : Nat, a.length + k ≤ M ∧ OInts wr w0.heap.size v (padTo a k) ∧ (∀ j, v.ownBlock = some j → j < w1.heap.size ∨ w3.heap.size ≤ j) ∧ But (fun j => w0.heap.size ≤ j ∧ j < w1.heap.size) w3 wr
theorem sl_but {S : Nat → Prop} {w w' : World} {A : Option Addr} {l : List Int} {c : Nat} (h : SlAt w A l c) (hb : But S w w') (hn : ∀ b o, A = some ⟨b, o, none⟩ → ¬ S b) : SlAt w' A l c := by
  refine ⟨fun i hi => ?_, h.cap, h.nil⟩
  obtain ⟨b, o, h1, h2, h3, h4⟩ := h.ints i hi
  refine ⟨b, o, h1, Nat.lt_of_lt_of_le h2 hb.size, ?_, h4⟩
  rw [World.cell?_of_block (a := ⟨b, o + i, none⟩) (hb.block b h2 (hn b o h1))]
  exact h3
theorem but_of_grown {S : Nat → Prop} {a w w' : World} {row : Option Nat} (h : But S a w) (hg : w.grownBy w' row) (hs : ∀ k, row = some k → S k ∨ a.heap.size ≤ k) : But S a w' :=
  h.trans (S' := fun k => row = some k) ⟨hg.os, hg.tape, hg.output, hg.size, fun k hk hn => hg.block k hk (fun e => hn e.symm)⟩ hs
def HsRel (d : List Int) (w : World) (i : Value) (wr : World) : Prop := ∃ k : Nat, k ≤ d.length ∧ i = .int .i64 (k : Int) ∧ w = wr
def ApRel (n : Nat) (b d : List Int) (w : World) (v i : Value) (wr : World) : Prop :=
  ∃ (k : Nat) (ls : List Int) (A : Option Addr) (c : Nat), k ≤ d.length ∧ i = .int .i64 (k : Int) ∧ v = .slice A n c ∧ ls.length = n ∧ SlAt wr A ls c ∧ iDiff ls b = d.drop k ∧ (∀ z ∈ ls, i64B z) ∧ Below w.heap.size w wr

set_option maxHeartbeats 6400000 in
theorem imageApart_walk (HC : HCheck) (HD : HDiff) (HW : HWith) (A : Option Addr) (c : Nat) (p : List Int) (B : Option Addr) (c' : Nat) (q : List Int) (C : Option Addr) (c'' : Nat) (t : List Int) (w : World)
    (hl : (p.length ≤ 9223372036854775807 ∧ p.length ≤ c) ∧ (A = none → p.length = 0 ∧ c = 0)) (hT : IntsAt w A p) (hl' : (q.length ≤ 9223372036854775807 ∧ q.length ≤ c') ∧ (B = none → q.length = 0 ∧ c' = 0)) (hT' : IntsAt w B q) (hl'' : (t.length ≤ 9223372036854775807 ∧ t.length ≤ c'') ∧ (C = none → t.length = 0 ∧ c'' = 0)) (hT'' : IntsAt w C t) :
    Calls Try.prog 6 #[.slice A p.length c, .slice B q.length c', .slice C t.length c''] w (endB true w) := by
  obtain ⟨i0, hi, hz0, hz1, hz2⟩ := info_parts infoInt
  have HO := Lib.hid (own_any A c p w hT hl.1.1 hl.1.2 hl.2)
  have HO2 := Lib.hid (fun W (h : Below w.heap.size w W) => own_new B c' q W hl' (hT'.below h))
  have HO3 := Lib.hid (fun W (h : Below w.heap.size w W) => own_new C c'' t W hl'' (hT''.below h))
  have HWK := Lib.hid (fun W => works_any HC HD HW W)
  have HD' := Lib.hid HD
  have HW' := Lib.hid HW
  have HPI : Hid (∀ z ∈ p.take 60, i64B z) := fun z hz => hT.mem z (List.mem_of_mem_take hz)
  have HQI : Hid (∀ z ∈ q.take 60, i64B z) := fun z hz => hT'.mem z (List.mem_of_mem_take hz)
  have hl60 : (p.take 60).length ≤ 60 := by rw [List.length_take]; omega
  have hl61 : (q.take 60).length ≤ 60 := by rw [List.length_take]; omega
  have hl62 : (t.take 60).length ≤ 60 := by rw [List.length_take]; omega
  clear hl hT hl' hT' hl'' hT'' HC HD HW
  go_enter Try.func6, Try.ntmps6
  go_wp2_with fail
  refine HO.out.mono ?_
  rintro e W1 ⟨v1, rfl, ho1, b1⟩
  have O1 := Lib.hid ho1
  have OB1 : Hid (∀ j, v1.ownBlock = some j → j < W1.heap.size) := fun j hj => (ho1.lt j hj).2
  have B1 := Lib.hid b1
  clear ho1 b1 HO
  generalize p.take 60 = x at *
  dsimp only
  go_wp2_with fail
  refine (HO2.out W1 B1.out).mono ?_
  rintro e W2 ⟨A2, c2, rfl, hn2, b2⟩
  have S2 := Lib.hid hn2.sl
  have N2 : Hid (∀ b o, A2 = some ⟨b, o, none⟩ → W1.heap.size ≤ b ∧ b < W2.heap.size) := hn2.new
  have HS12 : Hid (W1.heap.size ≤ W2.heap.size) := b2.size
  have O2 := Lib.hid (oints_below O1.out b2)
  have B2 := Lib.hid (below_step B1.out b2)
  clear hn2 b2 HO2 O1 B1
  generalize q.take 60 = y at *
  dsimp only
  go_wp2_with fail
  refine (HO3.out W2 B2.out).mono ?_
  rintro e W3 ⟨A3, c3, rfl, hn3, b3⟩
  have S3 := Lib.hid hn3.sl
  have N3 : Hid (∀ b o, A3 = some ⟨b, o, none⟩ → W2.heap.size ≤ b ∧ b < W3.heap.size) := hn3.new
  have HS23 : Hid (W2.heap.size ≤ W3.heap.size) := b3.size
  have S2b := Lib.hid (S2.out.below b3)
  have O3 := Lib.hid (oints_below O2.out b3)
  have B3 := Lib.hid (below_step B2.out b3)
  clear hn3 b3 HO3 O2 B2 S2
  generalize t.take 60 = u at *
  dsimp only
  obtain ⟨M, hM⟩ : ∃ M, max x.length y.length = M := ⟨_, rfl⟩
  have hM60 : M ≤ 60 := by omega
  have HM := Lib.hid hM
  clear hM
  obtain ⟨NY, hNY⟩ : ∃ n, y.length = n := ⟨_, rfl⟩
  rw [hNY] at hl61 ⊢
  have HNY := Lib.hid hNY
  clear hNY
  go_wp2_with fail
  go_loopw [0] (fun v wr => PdRel x M w W1 W3 v wr) (fun v _ => NY - slLen v)
  case atStart => exact ⟨0, by have := HM.out; omega, by unfold padTo; rw [List.replicate_zero, List.append_nil]; exact O3.out, fun j hj => .inl (OB1.out j hj), But.refl _ _⟩
  case round =>
    obtain ⟨k, hk, ho, hw, hb⟩ := hrel
    have HO := Lib.hid ho
    have HB := Lib.hid hb
    obtain ⟨A5, c5, rfl, hs5⟩ := oints_sl ho (pad_i64 HPI.out k)
    have S5 := Lib.hid hs5
    have HOW := Lib.hid hw
    obtain ⟨L, hL⟩ : ∃ n, (padTo x k).length = n := ⟨_, rfl⟩
    have hLk : L = x.length + k := by rw [← hL, padTo_len]
    have HL := Lib.hid hL
    unfold OInts at HO
    rw [hL] at HO HOW ⊢
    clear ho hb hs5 hL hw
    by_cases hlt : L < NY
    · have hlti : (L : Int) < (NY : Int) := by omega
      have hk2 : x.length + (k + 1) ≤ M := by have := HM.out; have := HNY.out; omega
      have HB2 := Lib.hid (HB.out.alloc (.cells #[.int .i64 0] 3))
      have HO2 := Lib.hid (World.ownsRow.alloc HO.out (.cells #[.int .i64 0] 3))
      have HNW := Lib.hid (one_cell wr 0)
      clear hLk
      go_wp2_with (at_builtin; refine wpList_append_at rfl (.tmp 26) (.tmp 27) 22 rfl w.heap.size 3 i0 (.int .i64 0) 1 8 Try.underlying22 hi hz0 hz1 hz2 rfl (by decide) _ L _ rfl HO2.out ⟨wr.heap.size, 0, none⟩ 1 1 [.int .i64 0] rfl rfl HNW.out (int_one 0) ?_ ?_ (Nat.le_trans B3.out.size HB2.out.size) ?_)
      · unfold maxLen; omega
      · omega
      · intro v' w1 hown1 hgrow hloc
        have hb1 := but_of_grown HB2.out hgrow (fun j hj => by
          have h1 := (HO2.out.lt j hj).1
          rcases HOW.out j hj with h2 | h2
          · exact .inl ⟨h1, h2⟩
          · exact .inr h2)
        have hos : OInts w1 w.heap.size v' (padTo x (k + 1)) := by
          unfold OInts
          rw [padTo_succ, List.map_append, List.length_append, HL.out]
          exact hown1
        have hw2 : ∀ j, v'.ownBlock = some j → j < W1.heap.size ∨ W3.heap.size ≤ j := fun j hj => by
          rcases hloc with e | e
          · exact HOW.out j (e ▸ hj)
          · rw [e] at hj
            injection hj with hj
            have := HB2.out.size
            have := HB.out.size
            omega
        have HOS := Lib.hid hos
        have HB3 := Lib.hid hb1
        have HW2 := Lib.hid hw2
        obtain ⟨A6, c6, rfl, hs6⟩ := oints_sl hos (pad_i64 HPI.out (k + 1))
        have hll : (padTo x (k + 1)).length = L + 1 := by rw [padTo_succ, List.length_append, HL.out]; rfl
        rw [hll] at HOS HW2 ⊢
        clear hb1 hos hown1 hgrow hw2 hs6 hll hloc
        go_wp2_with fail
        go_roundw
        case rel => exact ⟨k + 1, hk2, HOS.out, HW2.out, HB3.out⟩
        case measure => simp [slLen]; omega
    · have hlti : ¬ (L : Int) < (NY : Int) := by omega
      have S2c := Lib.hid (sl_but S2b.out HB.out (fun b o h hs => by have := (N2.out b o h).1; omega))
      have S3c := Lib.hid (sl_but S3.out HB.out (fun b o h hs => by have := (N3.out b o h).1; have := HS12.out; omega))
      have BW := Lib.hid (B3.out.trans (HB.out.below (fun i h => h.1) B3.out.size))
      have HXI := Lib.hid (pad_i64 HPI.out k)
      have hL60 : L ≤ 60 := by omega
      clear HB HOW HO hLk hk S2b S3 B3 O3
      generalize padTo x k = xs at *
      have CD1 : Hid (∀ W, SlAt W A5 xs c5 → SlAt W A2 y c2 → Calls Try.prog 14 #[.slice A5 L c5, .slice A2 NY c2] W (endL (iDiff xs y) W)) := fun W h h' => by
        rw [← HL.out, ← HNY.out]
        exact HD'.out A5 A2 c5 c2 xs y W h h' (by rw [HL.out]; omega) (by rw [HNY.out]; omega)
      have CD1' : Hid (∀ W, SlAt W A5 xs c5 → SlAt W A2 y c2 → Calls Try.prog 14 #[.slice A2 NY c2, .slice A5 L c5] W (endL (iDiff xs y) W)) := fun W h h' => by
        rw [← HL.out, ← HNY.out, ← iDiff_comm]
        exact HD'.out A2 A5 c2 c5 y xs W h' h (by rw [HNY.out]; omega) (by rw [HL.out]; omega)
      have CD2 : Hid (∀ W, SlAt W A2 y c2 → SlAt W A3 u c3 → Calls Try.prog 14 #[.slice A2 NY c2, .slice A3 u.length c3] W (endL (iDiff y u) W)) := fun W h h' => by
        rw [← HNY.out]
        exact HD'.out A2 A3 c2 c3 y u W h h' (by rw [HNY.out]; omega) (by omega)
      have CD3 : Hid (∀ W, SlAt W A5 xs c5 → SlAt W A3 u c3 → Calls Try.prog 14 #[.slice A5 L c5, .slice A3 u.length c3] W (endL (iDiff xs u) W)) := fun W h h' => by
        rw [← HL.out]
        exact HD'.out A5 A3 c5 c3 xs u W h h' (by rw [HL.out]; omega) (by omega)
      have CD0 : Hid (∀ W, SlAt W A5 xs c5 → Calls Try.prog 14 #[.slice A5 L c5, .slice A5 L c5] W (endL [] W)) := fun W h => by
        rw [← HL.out, ← iDiff_self xs]
        exact HD'.out A5 A5 c5 c5 xs xs W h h (by rw [HL.out]; omega) (by rw [HL.out]; omega)
      have hd1 : (iDiff xs y).length ≤ 60 := by have := iDiff_len xs y; rw [HL.out, HNY.out] at this; omega
      have hd3 : (iDiff xs u).length ≤ 60 := by have := iDiff_len xs u; rw [HL.out] at this; omega
      have hd2 : (iDiff y u).length ≤ 60 := by have := iDiff_len y u; rw [HNY.out] at this; omega
      have HTWO : Hid (∀ z ∈ iDiff xs u, z ∈ iDiff xs y ∨ z ∈ iDiff y u) := fun z hz => iDiff_two hz
      have HD1E : Hid (iDiff xs y = (iDiff xs y).drop 0) := rfl
      have HEX : Hid (∃ d, iDiff xs y = d) := ⟨_, rfl⟩
      have HSTEP : Hid (∀ (ls : List Int) (k : Nat) (hk : k < (iDiff xs y).length), iDiff ls y = (iDiff xs y).drop k → ls.length = L → ∃ j : Nat, (iDiff xs y)[k] = (j : Int) ∧ j < L ∧ iDiff (ls.set j (pl y j)) y = (iDiff xs y).drop (k + 1)) := fun ls k hk h hl => by
        obtain ⟨j, h1, h2, h3⟩ := step_apart hk h (by rw [hl, HNY.out]; omega)
        exact ⟨j, h1, by omega, h3⟩
      have HD1I : Hid (iDiff xs y = iDiff xs y) := rfl
      generalize hdd1 : iDiff xs y = d1 at *
      have HD1Q := Lib.hid hdd1
      clear hdd1 HEX HD1E HD1I
      generalize iDiff y u = d2 at *
      generalize iDiff xs u = d3 at *
      obtain ⟨wa, hwa⟩ : ∃ x, x = wr := ⟨_, rfl⟩
      subst hwa
      go_wp2_with fail
      refine (CD1.out wa S5.out S2c.out).mono ?_
      rintro e W4 ⟨A7, c7, rfl, hn7, b4⟩
      have T1 := Lib.hid hn7.sl
      have S5d := Lib.hid (S5.out.below b4)
      have S2d := Lib.hid (S2c.out.below b4)
      have S3d := Lib.hid (S3c.out.below b4)
      have BW4 := Lib.hid (below_step BW.out b4)
      clear hn7 b4 S5 S2c S3c BW
      go_wp2_with fail
      refine (CD2.out W4 S2d.out S3d.out).mono ?_
      rintro e W5 ⟨A8, c8, rfl, hn8, b5⟩
      have T2 := Lib.hid hn8.sl
      have T1e := Lib.hid (T1.out.below b5)
      have S5e := Lib.hid (S5d.out.below b5)
      have S2e := Lib.hid (S2d.out.below b5)
      have S3e := Lib.hid (S3d.out.below b5)
      have BW5 := Lib.hid (below_step BW4.out b5)
      clear hn8 b5 S5d S2d S3d BW4 T1
      go_wp2_with fail
      refine (CD3.out W5 S5e.out S3e.out).mono ?_
      rintro e W6 ⟨A9, c9, rfl, hn9, b6⟩
      have T3 := Lib.hid hn9.sl
      have T1f := Lib.hid (T1e.out.below b6)
      have T2f := Lib.hid (T2.out.below b6)
      have S5f := Lib.hid (S5e.out.below b6)
      have S2f := Lib.hid (S2e.out.below b6)
      have BW6 := Lib.hid (below_step BW5.out b6)
      clear hn9 b6 S5e S2e S3e BW5 T1e T2
      go_wp2_with fail
      refine (CD1'.out W6 S5f.out S2f.out).mono ?_
      rintro e W7 ⟨A10, c10, rfl, hn10, b7⟩
      have T4 := Lib.hid hn10.sl
      have T1g := Lib.hid (T1f.out.below b7)
      have T2g := Lib.hid (T2f.out.below b7)
      have T3g := Lib.hid (T3.out.below b7)
      have S5g := Lib.hid (S5f.out.below b7)
      have S2g := Lib.hid (S2f.out.below b7)
      have BW7 := Lib.hid (below_step BW6.out b7)
      clear hn10 b7 S5f S2f BW6 T1f T2f T3
      go_wp2_with fail
      refine (is_any A10 A7 c10 c7 d1 d1 W7 T4.out.ints T1g.out.ints (by omega)).mono ?_
      rintro e W8 ⟨rfl, b8⟩
      rw [decide_eq_true (rfl : d1 = d1)]
      have T1h := Lib.hid (T1g.out.below b8)
      have T2h := Lib.hid (T2g.out.below b8)
      have T3h := Lib.hid (T3g.out.below b8)
      have S5h := Lib.hid (S5g.out.below b8)
      have S2h := Lib.hid (S2g.out.below b8)
      have BW8 := Lib.hid (below_step BW7.out b8)
      clear b8 S5g S2g BW7 T1g T2g T3g T4
      go_wp2_with fail
      refine (CD0.out W8 S5h.out).mono ?_
      rintro e W9 ⟨A11, c11, rfl, _, b9⟩
      have T1i := Lib.hid (T1h.out.below b9)
      have T2i := Lib.hid (T2h.out.below b9)
      have T3i := Lib.hid (T3h.out.below b9)
      have S5i := Lib.hid (S5h.out.below b9)
      have S2i := Lib.hid (S2h.out.below b9)
      have BW9 := Lib.hid (below_step BW8.out b9)
      clear b9 S5h S2h BW8 T1h T2h T3h
      dsimp only [List.length_nil]
      go_wp2_with fail
      go_loopw [10] (fun i wr => HsRel d3 W9 i wr) (fun i _ => d3.length - (intOf i).toNat)
      case atStart => exact ⟨0, Nat.zero_le _, rfl, rfl⟩
      case round =>
        obtain ⟨k, hk, rfl, rfl⟩ := hrel
        by_cases hlt : k < d3.length
        · have hklt : (k : Int) < (d3.length : Int) := by omega
          obtain ⟨bz, oz, rfl, hbl, hc, hz⟩ := T3i.out.ints k hlt
          have hm := HTWO.out _ (List.getElem_mem hlt)
          have HAS1 := Lib.hid (fun z => has_any A7 c7 d1 z W9 T1i.out.ints (by omega))
          have HAS2 := Lib.hid (fun z => has_any A8 c8 d2 z W9 T2i.out.ints (by omega))
          generalize d3[k] = z at *
          by_cases hz1 : z ∈ d1
          · have HZ1 := Lib.hid (decide_eq_true hz1)
            clear hm hz1
            go_wp2_with fail
            refine (HAS1.out z).mono ?_
            rintro e _ ⟨rfl, rfl⟩
            rw [HZ1.out]
            go_wp2_with fail
            go_roundw
            case rel => exact ⟨k + 1, by omega, by go_num, rfl⟩
            case measure => simp [intOf]; omega
          · have HZ1 := Lib.hid (decide_eq_false hz1)
            have HZ2 := Lib.hid (decide_eq_true (hm.resolve_left hz1))
            clear hm hz1
            go_wp2_with fail
            refine (HAS1.out z).mono ?_
            rintro e _ ⟨rfl, rfl⟩
            rw [HZ1.out]
            go_wp2_with fail
            refine (HAS2.out z).mono ?_
            rintro e _ ⟨rfl, rfl⟩
            rw [HZ2.out]
            go_wp2_with fail
            go_roundw
            case rel => exact ⟨k + 1, by omega, by go_num, rfl⟩
            case measure => simp [intOf]; omega
        · have hklt : ¬ (k : Int) < (d3.length : Int) := by omega
          clear hk hlt T3i T2i HTWO
          have HYI : Hid (∀ j, i64B (pl y j)) := fun j => by
            unfold pl
            by_cases h : j < y.length
            · rw [List.getD_eq_getElem?_getD, List.getElem?_eq_getElem h]; exact HQI.out _ (List.getElem_mem h)
            · rw [List.getD_eq_getElem?_getD, List.getElem?_eq_none (by omega)]; unfold i64B; simp
          obtain ⟨N1, hN1⟩ : ∃ n, d1.length = n := ⟨_, rfl⟩
          have HN1 := Lib.hid hN1
          rw [hN1] at hd1 ⊢
          clear hN1
          go_wp2_with fail
          go_loopw [0, 11] (fun v i wr => ApRel L y d1 W9 v i wr) (fun _ i _ => N1 - (intOf i).toNat)
          case atStart => exact ⟨0, xs, A5, c5, Nat.zero_le _, rfl, rfl, HL.out, S5i.out, HD1Q.out, HXI.out, Below.refl _ _⟩
          case round =>
            obtain ⟨r, ls, A12, c12, hr, rfl, rfl, hls, hs12, hdf, hli, hb12⟩ := hrel
            have HLS := Lib.hid hls
            have S12 := Lib.hid hs12
            have HDF := Lib.hid hdf
            have HLI := Lib.hid hli
            have B12 := Lib.hid hb12
            rw [HN1.out] at hr
            clear hls hs12 hdf hli hb12
            by_cases hrt : r < N1
            · have hrti : (r : Int) < (N1 : Int) := by omega
              have hrd : r < d1.length := by rw [HN1.out]; exact hrt
              obtain ⟨j, hj1, hj2, hj3⟩ := HSTEP.out ls r hrd HDF.out HLS.out
              obtain ⟨bz, oz, rfl, hbl, hc, hz⟩ := T1i.out.ints r hrd
              have ec : wr.cell? ⟨bz, oz + r, none⟩ = some (.int .i64 (j : Int)) := by rw [B12.out.cell (p := ⟨bz, oz + r, none⟩) hbl, hc, hj1]
              have lc : bz < wr.heap.size := Nat.lt_of_lt_of_le hbl B12.out.size
              have HJ3 := Lib.hid hj3
              clear hj1 hj3 hc hz hrd
              have S2r := Lib.hid (S2i.out.below B12.out)
              obtain ⟨sy, hsy⟩ : ∃ z, pl y j = z := ⟨_, rfl⟩
              have HSY := Lib.hid (HYI.out j)
              rw [hsy] at HJ3 HSY
              obtain ⟨R, hR⟩ : ∃ n, (d1.drop (r + 1)).length = n := ⟨_, rfl⟩
              have hRi : (N1 : Int) - (r : Int) - 1 = (R : Int) := by
                rw [← hR, List.length_drop, HN1.out]
                omega
              have hR60 : R ≤ 60 := by omega
              have HLI2 : Hid (∀ z ∈ ls.set j sy, i64B z) := set_i64 HLI.out j HSY.out
              have HCW : Hid (0 ≤ sy → ∀ W, SlAt W A12 ls c12 → Calls Try.prog 16 #[.slice A12 L c12, .int .i64 (j : Int), .int .i64 sy] W fun e w' => ∃ A cc, e = .returned (.tuple #[.slice A L cc, .int .i64 0]) ∧ New W w' A (ls.set j sy) cc ∧ Below W.heap.size W w') := fun hn W h => by
                have h1 := HW'.out A12 c12 ls (j : Int) sy W h (by rw [HLS.out]; omega) (by unfold i64B; omega) HSY.out
                have h2 : iWith ls (j : Int) sy = (ls.set j sy, 0) := by
                  unfold iWith
                  rw [if_neg (by rw [HLS.out]; omega), Int.toNat_natCast]
                rw [h2, HLS.out] at h1
                refine h1.mono ?_
                rintro e w' ⟨A, cc, he, hn, hb⟩
                dsimp only at he hn
                rw [List.length_set, HLS.out] at he
                exact ⟨A, cc, he, hn, hb⟩
              have HCD : Hid (∀ W A' cc', SlAt W A' (ls.set j sy) cc' → SlAt W A2 y c2 → Calls Try.prog 14 #[.slice A' L cc', .slice A2 NY c2] W fun e w' => ∃ A cc, e = .returned (.slice A R cc) ∧ Below W.heap.size W w') := fun W A' cc' h h' => by
                have h1 := HD'.out A' A2 cc' c2 (ls.set j sy) y W h h' (by rw [List.length_set, HLS.out]; omega) (by rw [HNY.out]; omega)
                rw [List.length_set, HLS.out, HNY.out, HJ3.out] at h1
                refine h1.mono ?_
                rintro e w' ⟨A, cc, he, _, hb⟩
                rw [hR] at he
                exact ⟨A, cc, he, hb⟩
              clear hR
              by_cases hjy : j < NY
              · have hjyi : (j : Int) < (NY : Int) := by omega
                obtain ⟨by_, oy, rfl, hbly, hcy, hzy⟩ := S2r.out.ints j (by rw [HNY.out]; exact hjy)
                have ey : wr.cell? ⟨by_, oy + j, none⟩ = some (.int .i64 sy) := by rw [hcy, ← pl_at, hsy]
                clear hcy hzy hsy
                by_cases HNEG : sy < 0
                · go_wp2_with fail
                  refine (HWK.out wr).mono ?_
                  rintro e WZ ⟨rfl, bz⟩
                  have BZ := Lib.hid (below_step (below_step BW9.out B12.out) bz)
                  clear bz
                  go_wp2_with fail
                  go_ret
                  exact ⟨rfl, BZ.out⟩
                go_wp2_with fail
                have hdone := HCW.out HNEG wr S12.out
                refine hdone.mono ?_
                clear hdone
                rintro e X1 ⟨A13, c13, rfl, hn13, b13⟩
                have S13 := Lib.hid hn13.sl
                have S2s := Lib.hid (S2r.out.below b13)
                have B13 := Lib.hid (below_step B12.out b13)
                clear hn13 b13 HCW
                go_wp2_with fail
                refine (HCD.out X1 A13 c13 S13.out S2s.out).mono ?_
                rintro e X2 ⟨A14, c14, rfl, b14⟩
                have S14 := Lib.hid (S13.out.below b14)
                have B14 := Lib.hid (below_step B13.out b14)
                clear b14
                go_wp2_with fail
                go_roundw
                case rel => exact ⟨r + 1, ls.set j sy, A13, c13, by rw [HN1.out]; omega, by go_num, rfl, by rw [List.length_set]; exact HLS.out, S14.out, HJ3.out, HLI2.out, B14.out⟩
                case measure => simp [intOf]; omega
              · have hjyi : ¬ (j : Int) < (NY : Int) := by omega
                have hs0 : sy = 0 := by rw [← hsy]; exact pl_out (by rw [HNY.out]; omega)
                subst hs0
                clear hsy
                have HNEG : ¬ (0 : Int) < 0 := by omega
                go_wp2_with fail
                have hdone := HCW.out (Int.le_refl 0) wr S12.out
                refine hdone.mono ?_
                clear hdone
                rintro e X1 ⟨A13, c13, rfl, hn13, b13⟩
                have S13 := Lib.hid hn13.sl
                have S2s := Lib.hid (S2r.out.below b13)
                have B13 := Lib.hid (below_step B12.out b13)
                clear hn13 b13 HCW
                go_wp2_with fail
                refine (HCD.out X1 A13 c13 S13.out S2s.out).mono ?_
                rintro e X2 ⟨A14, c14, rfl, b14⟩
                have S14 := Lib.hid (S13.out.below b14)
                have B14 := Lib.hid (below_step B13.out b14)
                clear b14
                go_wp2_with fail
                go_roundw
                case rel => exact ⟨r + 1, ls.set j 0, A13, c13, by rw [HN1.out]; omega, by go_num, rfl, by rw [List.length_set]; exact HLS.out, S14.out, HJ3.out, HLI2.out, B14.out⟩
                case measure => simp [intOf]; omega
            · have hrti : ¬ (r : Int) < (N1 : Int) := by omega
              go_wp2_with fail
              refine (HWK.out wr).mono ?_
              rintro e WZ ⟨rfl, bz⟩
              have BZ := Lib.hid (below_step (below_step BW9.out B12.out) bz)
              clear bz
              go_wp2_with fail
              go_ret
              exact ⟨rfl, BZ.out⟩
end Go.Proofs.Ytadobhfmhcaofaa.im

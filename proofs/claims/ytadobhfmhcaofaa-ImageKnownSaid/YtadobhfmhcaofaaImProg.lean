/- What the program's three functions do: Check, Diff, With. -/
import Derived.Test.YtadobhfmhcaofaaImVol2
import Derived.Test.YtadobhfmhcaofaaAppAt
import Derived.Lib.SliceRun
namespace Go.Proofs.Ytadobhfmhcaofaa.im
open Go Go.RowKit Go.Proofs.Ytadobhfmhcaofaa.ib
set_option maxRecDepth 100000

/-! ### Check -/
theorem vol_pl (l : List Int) (h : l.length ≤ 8) (j : Nat) : pl (vol l 0) j = pl l j := by
  by_cases hj : j < 8
  · rw [pl_at (by rw [vol_len]; exact hj), vol_get, Nat.zero_add]
  · rw [pl_out (by rw [vol_len]; omega), pl_out (by omega)]
theorem vol_bad (l : List Int) (h : l.length ≤ 8) (n : Int) : (vol l 0).any (badP n) = l.any (badP n) := by
  rw [Bool.eq_iff_iff, List.any_eq_true, List.any_eq_true]
  constructor
  · rintro ⟨z, hz, hb⟩
    obtain ⟨i, hi, rfl⟩ := List.getElem_of_mem hz
    rw [vol_get, Nat.zero_add] at hb
    by_cases hl : i < l.length
    · rw [pl_at hl] at hb
      exact ⟨_, List.getElem_mem hl, hb⟩
    · rw [pl_out (by omega)] at hb
      cases hb
  · rintro ⟨z, hz, hb⟩
    obtain ⟨i, hi, rfl⟩ := List.getElem_of_mem hz
    have h8 : i < (vol l 0).length := by rw [vol_len]; omega
    refine ⟨_, List.getElem_mem h8, ?_⟩
    rw [vol_get, Nat.zero_add, pl_at hi]
    exact hb
theorem vol_dup (l : List Int) (h : l.length ≤ 8) : dupTo (vol l 0) 8 = dupTo l l.length := by
  have e : ∀ i k, dupAt (vol l 0) i k = dupAt l i k := by
    intro i k
    unfold dupAt
    simp only [vol_pl l h]
  have e2 : ∀ k, dupTo (vol l 0) k = dupTo l k := by
    intro k
    unfold dupTo
    simp only [vol_pl l h, e]
  rw [e2]
  have e3 : ∀ m, dupTo l (l.length + m) = dupTo l l.length := by
    intro m
    induction m with
    | zero => rfl
    | succ m ih =>
      rw [← Nat.add_assoc, dupTo_succ, ih, pl_out (by omega)]
      simp
  have := e3 (8 - l.length)
  rw [show l.length + (8 - l.length) = 8 by omega] at this
  exact this

/-- A volume in a block of its own, that was made and then written. -/
theorem vol_put {w W : World} (hb : Below w.heap.size w W) (V : List Int) (hv : V.length = 8) :
    Blk (W.alloc (.cells #[.int .i64 0, .int .i64 0, .int .i64 0, .int .i64 0, .int .i64 0, .int .i64 0, .int .i64 0, .int .i64 0] 38)) W.heap.size 38 (ncells (List.replicate 8 0)) ∧
    (W.alloc (.cells #[.int .i64 0, .int .i64 0, .int .i64 0, .int .i64 0, .int .i64 0, .int .i64 0, .int .i64 0, .int .i64 0] 38)).setRow W.heap.size (ncells V) = W.alloc (.cells (ncells V) 38) ∧
    Blk (W.alloc (.cells (ncells V) 38)) W.heap.size 38 (ncells V) ∧ Below w.heap.size w (W.alloc (.cells (ncells V) 38)) :=
  ⟨Blk.new _ _ _, World.setRow_alloc_new _ _ _ _, Blk.new _ _ _, hb.alloc hb.size _⟩

set_option maxHeartbeats 3200000 in
theorem hCheck : HCheck := by
  intro A c l b n w hs hl hb hn
  have HP := Lib.hid hs.ints
  have HM := Lib.hid hs.ints.mem
  obtain ⟨res, hres⟩ : ∃ r, iCheck l b n = r := ⟨_, rfl⟩
  rw [hres]
  unfold iCheck at hres
  clear hs
  by_cases h0 : b < 1
  · rw [if_pos (.inl h0)] at hres
    subst hres
    go_enter Try.func10, Try.ntmps10
    go_wp2_with fail
    go_ret
    exact ⟨rfl, Below.refl _ _⟩
  by_cases h1 : 8 < b
  · rw [if_pos (.inr (.inl h1))] at hres
    subst hres
    go_enter Try.func10, Try.ntmps10
    go_wp2_with fail
    go_ret
    exact ⟨rfl, Below.refl _ _⟩
  by_cases h2 : (l.length : Int) = b
  · rw [if_neg (by omega)] at hres
    have hlb : ((l.length : Int) != b) = false := by rw [h2]; simp
    have h8 : l.length ≤ 8 := by omega
    rw [← vol_bad l h8 n, ← vol_dup l h8] at hres
    have HRES := Lib.hid hres
    have HV := Lib.hid (vol_len l 0)
    have HB := Lib.hid (vol_bound HM.out 0)
    have HC := Lib.hid (volumeAt_any A c l 0 w HP.out hl (by omega))
    obtain ⟨V, hV⟩ : ∃ x, vol l 0 = x := ⟨_, rfl⟩
    rw [hV] at HRES HV HB HC
    clear hres h2 hV
    go_enter Try.func10, Try.ntmps10
    go_wp2_with fail
    refine HC.out.mono ?_
    rintro e W ⟨rfl, hw⟩
    obtain ⟨k0, k1, k2, k3⟩ := vol_put hw V HV.out
    have K0 := Lib.hid k0
    have K1 := Lib.hid k1
    have K2 := Lib.hid k2
    have K3 := Lib.hid k3
    clear k0 k1 k2 k3 hw
    go_wp2_with (first | (refine wpList_skip rfl (exec_store_vol (.tmp 7) (.tmp 21) rfl rfl rfl K0.out (by decide) HV.out) ?_; rw [K1.out]) | (refine wpList_value rfl (exec_load_vol (.tmp 7) rfl rfl K2.out HV.out) ?_))
    obtain ⟨W2, hW2⟩ : ∃ x, W.alloc (.cells (ncells V) 38) = x := ⟨_, rfl⟩
    rw [hW2] at K2 K3 ⊢
    refine (lieBelow_any V HV.out n W2).mono ?_
    rintro e W3 ⟨rfl, hb3⟩
    have HB3 := Lib.hid (below_step K3.out hb3)
    have K4 := Lib.hid (K2.out.below hb3)
    clear hb3
    cases hbad : V.any (badP n)
    · have hres := HRES.out
      rw [hbad, if_neg (by decide)] at hres
      have HRES2 := Lib.hid hres
      clear hres hbad hW2
      go_wp2_with (refine wpList_value rfl (exec_load_vol (.tmp 7) rfl rfl K4.out HV.out) ?_)
      refine (haveTwice_any V HV.out HB.out W3).mono ?_
      rintro e W4 ⟨rfl, hb4⟩
      have HB4 := Lib.hid (below_step HB3.out hb4)
      clear hb4
      cases hd : dupTo V 8
      · have hres := HRES2.out
        rw [hd, if_neg (by decide)] at hres
        subst hres
        clear hd
        go_wp2_with fail
        go_ret
        exact ⟨rfl, HB4.out⟩
      · have hres := HRES2.out
        rw [hd, if_pos rfl] at hres
        subst hres
        clear hd
        go_wp2_with fail
        go_ret
        exact ⟨rfl, HB4.out⟩
    · have hres := HRES.out
      rw [hbad, if_pos rfl] at hres
      subst hres
      clear hbad hW2
      go_wp2_with fail
      go_ret
      exact ⟨rfl, HB3.out⟩
  · rw [if_pos (.inr (.inr h2))] at hres
    subst hres
    have hlb : ((l.length : Int) != b) = true := by simpa using h2
    clear h2
    go_enter Try.func10, Try.ntmps10
    go_wp2_with fail
    go_ret
    exact ⟨rfl, Below.refl _ _⟩

/-! ### With -/
theorem own_nil (w : World) : (w.alloc (.cells #[] 3)).ownsRow w.heap.size 3 1 (.slice (some ⟨w.heap.size, 0, none⟩) 0 0) 0 [] :=
  ⟨rfl, .inr ⟨w.heap.size, 0, #[], rfl, Nat.le_refl _, heap_alloc_new w _, Nat.le_refl _, by unfold maxLen; omega, rfl, rfl⟩⟩
theorem ints_len (w : World) (A : Option Addr) (l : List Int) (h : IntsAt w A l) (h1 : 1 ≤ l.length) : ∃ b o, A = some ⟨b, o, none⟩ := by
  obtain ⟨b, o, h2, _⟩ := h 0 (by omega)
  exact ⟨b, o, h2⟩

set_option maxHeartbeats 3200000 in
/-- What slices.Clone does, of a list that is not empty. -/
theorem clone_any (A : Option Addr) (c : Nat) (l : List Int) (w : World) (hp : IntsAt w A l) (hl : l.length ≤ 1000) (h1 : 1 ≤ l.length) :
    Calls Try.prog 25 #[.slice A l.length c] w (okO l w) := by
  obtain ⟨i0, hi, hz0, hz1, hz2⟩ := info_parts infoInt
  obtain ⟨b, o, rfl⟩ := ints_len w A l hp h1
  have H0 := Lib.hid (own_nil w)
  have HB := Lib.hid ((Below.refl w.heap.size w).alloc (Nat.le_refl _) (.cells #[] 3))
  have HNEWS := Lib.hid (nums_row (hp.below ((Below.refl w.heap.size w).alloc (Nat.le_refl _) (.cells #[] 3))) l.length)
  rw [List.take_length] at HNEWS
  have HONE := Lib.hid (nums_one l)
  have qn : (binOp .eql 22 (.slice (some ⟨b, o, none⟩) l.length c) (.slice none 0 0)).run Try.prog w = .ok (.bool false) w := Lib.run_eql_slice_nil w _ _ _ _ _ _ _ Try.underlying22
  clear hp
  go_enter Try.func25, Try.ntmps25
  go_wp2_with (at_builtin; refine wpList_append_own _ rfl (.tmp 5) (.tmp 6) 22 rfl w.heap.size 3 i0 (.int .i64 0) 1 8 Try.underlying22 hi hz0 hz1 hz2 rfl (by decide) _ 0 [] rfl H0.out ⟨b, o, none⟩ l.length c (l.map (Value.int .i64)) rfl (by rw [List.length_map, Nat.mul_one]) HNEWS.out HONE.out ?_ ?_ HB.out.size ?_)
  · unfold maxLen; omega
  · omega
  · intro v' w1 hown hgrow _
    have hb1 := HB.out.grown hgrow HB.out.size (fun j hj => (H0.out.lt j hj).1)
    have hos : OInts w1 w.heap.size v' l := hown
    have HO := Lib.hid hos
    have HB1 := Lib.hid hb1
    clear hown hgrow hb1 hos
    go_wp2_with fail
    go_ret
    exact ⟨_, rfl, HO.out, HB1.out⟩

theorem own_set {w : World} {B : Nat} {v : Value} {l : List Int} (h : OInts w B v l) (k : Nat) (hk : k < l.length) (z : Int) :
    ∃ g cap, v = .slice (some ⟨g, 0, none⟩) l.length cap ∧ l.length ≤ cap ∧ B ≤ g ∧ g < w.heap.size ∧ (∃ u, w.cell? ⟨g, k, none⟩ = some u) ∧ w.frozen? ⟨g, k, none⟩ = false ∧ OInts (w.setCell ⟨g, k, none⟩ (.int .i64 z)) B v (l.set k z) := by
  rcases h.2 with ⟨_, h0⟩ | ⟨g, cap, cur, rfl, hg, hh, hcc, hm, hcs, hcur⟩
  · omega
  · have hb : Blk w g 3 cur := hh
    have hsz : k < cur.size := by omega
    refine ⟨g, cap, rfl, hcc, hg, hb.lt, ⟨cur[k], by rw [hb.cell k, Array.getElem?_eq_getElem hsz]⟩, hb.frozen k, ?_⟩
    have hs := hb.set_ k (.int .i64 z)
    refine ⟨by simp, .inr ⟨g, cap, cur.setIfInBounds k (.int .i64 z), by simp, hg, hs, by simpa using hcc, hm, by simpa using hcs, ?_⟩⟩
    rw [Nat.mul_one] at hcur ⊢
    rw [List.length_set, Array.toList_setIfInBounds, List.take_set, hcur, List.map_set]

set_option maxHeartbeats 3200000 in
theorem hWith : HWith := by
  intro A c l b s w hs hl hb hn
  have HP := Lib.hid hs.ints
  have HM := Lib.hid hs.ints.mem
  have HB := Lib.hid hb
  have HN := Lib.hid hn
  obtain ⟨res, hres⟩ : ∃ r, iWith l b s = r := ⟨_, rfl⟩
  rw [hres]
  unfold iWith at hres
  clear hs hb hn
  by_cases h0 : b < 0
  · rw [if_pos (.inl h0)] at hres
    subst hres
    go_enter Try.func16, Try.ntmps16
    go_wp2_with fail
    go_ret2
    exact endP_nil (Below.refl _ _)
  by_cases h1 : (l.length : Int) ≤ b
  · rw [if_pos (.inr (.inl h1))] at hres
    subst hres
    go_enter Try.func16, Try.ntmps16
    go_wp2_with fail
    go_ret2
    exact endP_nil (Below.refl _ _)
  by_cases h2 : s < 0
  · rw [if_pos (.inr (.inr h2))] at hres
    subst hres
    go_enter Try.func16, Try.ntmps16
    go_wp2_with fail
    go_ret2
    exact endP_nil (Below.refl _ _)
  rw [if_neg (by omega)] at hres
  obtain ⟨k, rfl⟩ := Int.eq_ofNat_of_zero_le (show 0 ≤ b by omega)
  rw [Int.toNat_natCast] at hres
  have hk : k < l.length := by omega
  have HRES := Lib.hid hres
  have HC := Lib.hid (clone_any A c l w HP.out hl (by omega))
  clear hres
  go_enter Try.func16, Try.ntmps16
  go_wp2_with fail
  refine HC.out.mono ?_
  rintro e W ⟨v, rfl, ho, hw⟩
  obtain ⟨g, cap, rfl, hcap, hg, hgl, ⟨u, hu⟩, hf, ho2⟩ := own_set ho k hk s
  have HO := Lib.hid ho2
  have HG := Lib.hid hg
  have HW := Lib.hid hw
  have hki : (k : Int) < (l.length : Int) := by omega
  clear ho ho2 hw
  go_wp2_with fail
  go_ret2
  refine endP_owned HO.out ?_ (HW.out.setCell (p := ⟨g, k, none⟩) HG.out _) HRES.out.symm
  intro z hz
  rcases List.mem_or_eq_of_mem_set hz with h | h
  · exact HM.out z h
  · rw [h]; exact HN.out

/-! ### Diff -/
theorem diffTo_out {a b : List Int} {i : Nat} (h : max a.length b.length ≤ i) : diffTo a b i = iDiff a b := by
  unfold iDiff
  obtain ⟨m, rfl⟩ := Nat.exists_eq_add_of_le h
  induction m with
  | zero => rfl
  | succ m ih =>
    rw [← Nat.add_assoc, diffTo_succ, ih (by omega), pl_out (by omega), pl_out (by omega)]
    simp
theorem diffTo_vol {a b : List Int} {f : Nat} (h : vol a f = vol b f) (k : Nat) (hk : k ≤ 8) : diffTo a b (f + k) = diffTo a b f := by
  induction k with
  | zero => rfl
  | succ k ih =>
    have e : pl a (f + k) = pl b (f + k) := by
      rw [← vol_get a f k (by rw [vol_len]; omega), ← vol_get b f k (by rw [vol_len]; omega)]
      simp only [h]
    rw [← Nat.add_assoc, diffTo_succ, ih (by omega), e]
    simp
theorem own_keep {w w' : World} {B : Nat} {v : Value} {l : List Int} (h : OInts w B v l) (hk : ∀ g, v.ownBlock = some g → w'.heap[g]? = w.heap[g]?) : OInts w' B v l := by
  refine ⟨h.1, ?_⟩
  rcases h.2 with h0 | ⟨g, cap, cur, rfl, hg, hh, hcc, hm, hcs, hcur⟩
  · exact .inl h0
  · exact .inr ⟨g, cap, cur, rfl, hg, (hk g rfl).trans hh, hcc, hm, hcs, hcur⟩
theorem own_lt {w : World} {B : Nat} {v : Value} {l : List Int} (h : OInts w B v l) (g : Nat) (hg : v.ownBlock = some g) : B ≤ g ∧ g < w.heap.size := by
  rcases h.2 with ⟨rfl, _⟩ | ⟨g', cap, cur, rfl, hg', hh, _⟩
  · cases hg
  · injection hg with e
    have e' : g' = g := e
    subst e'
    exact ⟨hg', (Array.getElem?_eq_some_iff.1 hh).1⟩

theorem ncells_opt (cs : List Int) (i : Nat) : (ncells cs)[i]? = cs[i]?.map (Value.int .i64) := by simp [ncells]
theorem vol_opt (l : List Int) (f i : Nat) (h : i < 8) : (vol l f)[i]? = some (pl l (f + i)) := by
  rw [List.getElem?_eq_getElem (by rw [vol_len]; exact h), vol_get]
/-- The two volumes in memory, the list, and that they are apart. -/
structure Vols (w : World) (U V : List Int) (b : Nat) (v : Value) (r : List Int) (wr : World) : Prop where
  one : Blk wr b 38 (ncells U)
  two : Blk wr (b + 1) 38 (ncells V)
  own : OInts wr w.heap.size v r
  apart : v.ownBlock ≠ some b ∧ v.ownBlock ≠ some (b + 1)
  below : Below w.heap.size w wr
def DiRel (p q : List Int) (n : Nat) (w : World) (v i : Value) (wr : World) : Prop :=
  ∃ k : Nat, k ≤ n ∧ i = .int .i64 (k : Int) ∧ OInts wr w.heap.size v (diffTo p q (8 * k)) ∧ Below w.heap.size w wr
def DjRel (p q U V : List Int) (f b : Nat) (w : World) (v i : Value) (wr : World) : Prop :=
  ∃ k : Nat, k ≤ 8 ∧ i = .int .i64 (k : Int) ∧ Vols w U V b v (diffTo p q (f + k)) wr

theorem two_vols {w W W2 : World} {v : Value} {r : List Int} (ho : OInts W w.heap.size v r) (hb : Below w.heap.size w W) (h2 : Below W.heap.size W W2) (U V : List Int) (hu : U.length = 8) (hv : V.length = 8) :
    let Z : Array Value := #[.int .i64 0, .int .i64 0, .int .i64 0, .int .i64 0, .int .i64 0, .int .i64 0, .int .i64 0, .int .i64 0]
    let W3 := (W2.alloc (.cells Z 38)).alloc (.cells Z 38)
    Blk W3 W2.heap.size 38 (ncells (List.replicate 8 0)) ∧ Blk (W3.setRow W2.heap.size (ncells U)) (W2.heap.size + 1) 38 (ncells (List.replicate 8 0)) ∧
    Vols w U V W2.heap.size v r ((W3.setRow W2.heap.size (ncells U)).setRow (W2.heap.size + 1) (ncells V)) := by
  intro Z W3
  have hsz : (W2.alloc (.cells Z 38)).heap.size = W2.heap.size + 1 := by simp
  have k1 : Blk W3 W2.heap.size 38 (ncells (List.replicate 8 0)) := (Blk.new W2 38 Z).of_block (Below.heap_alloc _ _ _ (by rw [hsz]; omega))
  have k2 : Blk W3 (W2.heap.size + 1) 38 (ncells (List.replicate 8 0)) := by
    rw [← hsz]
    exact Blk.new (W2.alloc (.cells Z 38)) 38 Z
  have k3 : Blk (W3.setRow W2.heap.size (ncells U)) (W2.heap.size + 1) 38 (ncells (List.replicate 8 0)) := k2.of_block (setRow_other _ _ (by omega))
  have hWW : Below W.heap.size W W3 := (h2.alloc h2.size _).alloc (by have := h2.size; rw [hsz]; omega) _
  have hs2 := h2.size
  refine ⟨k1, k3, (setRow_at k1).of_block (setRow_other _ _ (by omega)), setRow_at k3, ?_, ⟨fun e => ?_, fun e => ?_⟩, ?_⟩
  · refine own_keep ho fun g hg => ?_
    have := own_lt ho g hg
    rw [setRow_other _ _ (by omega), setRow_other _ _ (by omega)]
    exact hWW.block g this.2
  · have := own_lt ho _ e
    omega
  · have := own_lt ho _ e
    omega
  · have hs := hb.size
    exact setRow_below (setRow_below (below_step hb hWW) _ (by omega)) _ (by omega)
theorem Vols.drew {w wr : World} {U V : List Int} {b : Nat} {v : Value} {r : List Int} (h : Vols w U V b v r wr) (n : Nat) : Vols w U V b v r (wr.drewN n) :=
  ⟨h.one, h.two, h.own, h.apart, drewA h.below n⟩
theorem Vols.new {w wr : World} {U V : List Int} {b : Nat} {v : Value} {r : List Int} (h : Vols w U V b v r wr) (o : Obj) : Vols w U V b v r (wr.alloc o) :=
  ⟨h.one.of_block (Below.heap_alloc _ _ _ h.one.lt), h.two.of_block (Below.heap_alloc _ _ _ h.two.lt), own_keep h.own fun g hg => Below.heap_alloc _ _ _ (own_lt h.own g hg).2, h.apart, h.below.alloc h.below.size _⟩
theorem Vols.put {w wr w1 : World} {U V : List Int} {b : Nat} {v v' : Value} {r r' : List Int} (h : Vols w U V b v r wr) (ho : OInts w1 w.heap.size v' r') (hg : wr.grownBy w1 v.ownBlock) (hw : v'.ownBlock = v.ownBlock ∨ v'.ownBlock = some wr.heap.size) : Vols w U V b v' r' w1 := by
  have l1 := h.one.lt
  have l2 := h.two.lt
  refine ⟨h.one.of_block (hg.block _ l1 fun e => h.apart.1 e.symm), h.two.of_block (hg.block _ l2 fun e => h.apart.2 e.symm), ho, ?_, h.below.grown hg h.below.size fun k hk => (own_lt h.own k hk).1⟩
  rcases hw with e | e
  · rw [e]; exact h.apart
  · rw [e]
    exact ⟨fun e => by injection e; omega, fun e => by injection e; omega⟩

set_option maxHeartbeats 6400000 in
theorem hDiff : HDiff := by
  intro A B c c' p q w hp hq hl hl'
  obtain ⟨i0, hi, hz0, hz1, hz2⟩ := info_parts infoInt
  have HPM := Lib.hid hp.ints.mem
  have HQM := Lib.hid hq.ints.mem
  obtain ⟨M, hM⟩ : ∃ M, max p.length q.length = M := ⟨_, rfl⟩
  have hMi : (if p.length < q.length then (q.length : Int) else (p.length : Int)) = (M : Int) := by split <;> omega
  have hM1 : M ≤ 1000 := by omega
  have HM := Lib.hid hM
  have HPL := Lib.hid (fun W (h : Below w.heap.size w W) (f : Nat) (hf : f ≤ 2000) => volumeAt_any A c p f W (hp.ints.below h) hl hf)
  have HQL := Lib.hid (fun W (h : Below w.heap.size w W) (f : Nat) (hf : f ≤ 2000) => volumeAt_any B c' q f W (hq.ints.below h) hl' hf)
  obtain ⟨n, hn⟩ : ∃ n, (M + 7) / 8 = n := ⟨_, rfl⟩
  have hn1 : n ≤ 126 := by omega
  have hn8 : M ≤ 8 * n := by omega
  have HN := Lib.hid hn
  clear hp hq hM hn
  go_enter Try.func14, Try.ntmps14
  go_wp2_with fail
  refine (volumes_any M hM1 w).mono ?_
  rintro e _ ⟨rfl, rfl⟩
  rw [HN.out]
  go_wp2_with fail
  go_loopw [5, 17] (fun v i wr => DiRel p q n w v i wr) (fun _ i _ => n - (intOf i).toNat)
  case atStart => exact ⟨0, Nat.zero_le _, rfl, World.ownsRow_nil _ _ _ _, Below.refl _ _⟩
  case round =>
    obtain ⟨k, hk, rfl, ho, hb⟩ := hrel
    obtain ⟨f, hf⟩ : ∃ f, 8 * k = f := ⟨_, rfl⟩
    rw [hf] at ho
    have HO := Lib.hid ho
    have HB := Lib.hid hb
    have hfb : f ≤ 2000 := by omega
    obtain ⟨a5, c5, rfl, _, _⟩ := ho.view (diffTo_i64 (by omega))
    clear ho hb
    by_cases hlt : k < n
    · have hkM : (k : Int) < (n : Int) := by omega
      have hf8 : (k : Int) * 8 = (f : Int) := by omega
      have HF := Lib.hid hf8
      have HF1 : Hid (8 * (k + 1) = f + 8) := by unfold Hid; omega
      clear hf8 hf
      go_wp2_with fail
      try rw [HF.out]
      refine (HPL.out wr HB.out f hfb).mono ?_
      rintro e W1 ⟨rfl, h1⟩
      have H1 := Lib.hid h1
      clear h1
      go_wp2_with fail
      try rw [HF.out]
      refine (HQL.out W1 (below_step HB.out H1.out) f hfb).mono ?_
      rintro e W2 ⟨rfl, h2⟩
      obtain ⟨z1, z2, z3⟩ := two_vols HO.out HB.out (below_step H1.out h2) (vol p f) (vol q f) (vol_len _ _) (vol_len _ _)
      have HU := Lib.hid (vol_len p f)
      have HV := Lib.hid (vol_len q f)
      have HUV := Lib.hid (fun h => diffTo_vol (a := p) (b := q) (f := f) h 8 (Nat.le_refl 8))
      have HGU := Lib.hid (vol_opt p f)
      have HGV := Lib.hid (vol_opt q f)
      have Z1 := Lib.hid z1
      have Z2 := Lib.hid z2
      have Z3 := Lib.hid z3
      clear z1 z2 z3 h2 H1 HB HO
      obtain ⟨U, hU⟩ : ∃ x, vol p f = x := ⟨_, rfl⟩
      obtain ⟨V, hV⟩ : ∃ x, vol q f = x := ⟨_, rfl⟩
      rw [hU] at HU HUV Z2 Z3 HGU
      rw [hV] at HV HUV Z3 HGV
      rw [hU, hV]
      have HRU := Lib.hid hU
      have HRV := Lib.hid hV
      have heq := run_eql_vol U V HU.out HV.out
      clear hU hV
      by_cases huv : U = V
      · rw [decide_eq_true huv] at heq
        have HE := Lib.hid (HUV.out huv)
        clear huv
        go_wp2_with (first | (refine wpList_skip rfl (exec_store_vol (.tmp 8) (.tmp 24) rfl rfl rfl Z1.out (by decide) HU.out) ?_) | (refine wpList_skip rfl (exec_store_vol (.tmp 9) (.tmp 27) rfl rfl rfl Z2.out (by decide) HV.out) ?_) | (refine wpList_value rfl (exec_load_vol (.tmp 8) rfl rfl Z3.out.one HU.out) ?_) | (refine wpList_value rfl (exec_load_vol (.tmp 9) rfl rfl Z3.out.two HV.out) ?_))
        go_roundw
        case rel => exact ⟨k + 1, by omega, by go_num, by rw [HF1.out, HE.out]; exact Z3.out.own, Z3.out.below⟩
        case measure => simp [intOf]; omega
      · rw [decide_eq_false huv] at heq
        clear huv
        go_wp2_with (first | (refine wpList_skip rfl (exec_store_vol (.tmp 8) (.tmp 24) rfl rfl rfl Z1.out (by decide) HU.out) ?_) | (refine wpList_skip rfl (exec_store_vol (.tmp 9) (.tmp 27) rfl rfl rfl Z2.out (by decide) HV.out) ?_) | (refine wpList_value rfl (exec_load_vol (.tmp 8) rfl rfl Z3.out.one HU.out) ?_) | (refine wpList_value rfl (exec_load_vol (.tmp 9) rfl rfl Z3.out.two HV.out) ?_))
        clear heq
        obtain ⟨b, hbW⟩ : ∃ b, W2.heap.size = b := ⟨_, rfl⟩
        rw [hbW] at Z3 ⊢
        clear Z1 Z2 hbW
        go_loopw [5, 31] (fun v i wr => DjRel p q U V f b w v i wr) (fun _ i _ => 8 - (intOf i).toNat)
        case atStart => exact ⟨0, by omega, rfl, Z3.out⟩
        case round =>
          clear Z3
          obtain ⟨j, hj, rfl, hv⟩ := hrel
          have HVS := Lib.hid hv
          have hdl := diffTo_len p q (f + j)
          obtain ⟨a6, c6, rfl, _, _⟩ := hv.own.view (diffTo_i64 (by omega))
          by_cases h8 : j < 8
          · have h8i : (j : Int) < 8 := by omega
            have e0 : wr.cell? ⟨b, j, none⟩ = some (.int .i64 (pl p (f + j))) := by rw [hv.one.cell j, ncells_opt, HGU.out j h8]; rfl
            have e1 : wr.cell? ⟨b + 1, j, none⟩ = some (.int .i64 (pl q (f + j))) := by rw [hv.two.cell j, ncells_opt, HGV.out j h8]; rfl
            have l0 := hv.one.lt
            have l1 := hv.two.lt
            have hs := diffTo_succ p q (f + j)
            have HS := Lib.hid hs
            clear hs hv
            by_cases hx : pl p (f + j) = pl q (f + j)
            · have hs := HS.out
              rw [if_neg (fun h => h hx), List.append_nil, Nat.add_assoc] at hs
              have HS2 := Lib.hid hs
              have hxb : (pl p (f + j) != pl q (f + j)) = false := by rw [hx]; simp
              clear hs hx HS
              generalize pl p (f + j) = x at *
              generalize pl q (f + j) = y at *
              go_wp2_with fail
              go_quiet (fail)
              go_wp2_with fail
              go_roundw
              case rel => exact ⟨j + 1, by omega, by go_num, by rw [HS2.out]; first | exact HVS.out.drew _ | exact HVS.out⟩
              case measure => simp [intOf]; omega
            · have hs := HS.out
              rw [if_pos hx, show ((f + j : Nat) : Int) = (f : Int) + (j : Int) by omega, Nat.add_assoc] at hs
              have HS2 := Lib.hid hs
              have hxb : (pl p (f + j) != pl q (f + j)) = true := by simpa using hx
              clear hs hx HS
              generalize pl p (f + j) = x at *
              generalize pl q (f + j) = y at *
              go_wp2_with fail
              go_quiet (fail)
              obtain ⟨W5, hW5⟩ : ∃ x, wr.drewN nq = x := ⟨_, rfl⟩
              have hvd := HVS.out.drew nq
              rw [hW5] at hvd
              rw [hW5]
              have HV5 := Lib.hid (hvd.new (.cells #[.int .i64 ((f : Int) + (j : Int))] 3))
              have HV0 := Lib.hid hvd
              have HNW := Lib.hid (one_cell W5 ((f : Int) + (j : Int)))
              clear hvd hW5 e0 e1 l0 l1
              go_wp2_with (at_builtin; refine wpList_append_at rfl (.tmp 41) (.tmp 45) 22 rfl w.heap.size 3 i0 (.int .i64 0) 1 8 Try.underlying22 hi hz0 hz1 hz2 rfl (by decide) _ (diffTo p q (f + j)).length _ rfl HV5.out.own ⟨W5.heap.size, 0, none⟩ 1 1 [.int .i64 ((f : Int) + (j : Int))] rfl rfl HNW.out (int_one ((f : Int) + (j : Int))) ?_ ?_ HV5.out.below.size ?_)
              · unfold maxLen; omega
              · omega
              · intro v' w1 hown1 hgrow hwh
                have hos : OInts w1 w.heap.size v' (diffTo p q (f + (j + 1))) := by
                  unfold OInts
                  rw [HS2.out, List.map_append, List.length_append]
                  exact hown1
                have HV6 := Lib.hid (HV5.out.put hos hgrow (hwh.imp id fun h => by rw [h]; simp))
                clear hos hown1 hgrow hwh
                go_wp2_with fail
                go_roundw
                case rel => exact ⟨j + 1, by omega, by go_num, HV6.out⟩
                case measure => simp [intOf]; omega
          · have h8i : ¬ (j : Int) < 8 := by omega
            obtain rfl : j = 8 := by omega
            clear hv
            go_wp2_with fail
            go_roundw
            case rel => exact ⟨k + 1, by omega, by go_num, by rw [HF1.out]; exact HVS.out.own, HVS.out.below⟩
            case measure => simp [intOf]; omega
    · have hkM : ¬ (k : Int) < (n : Int) := by omega
      have hrz : ∀ z ∈ diffTo p q f, i64B z := diffTo_i64 (by omega)
      have HRZ := Lib.hid hrz
      have hdo : diffTo p q f = iDiff p q := diffTo_out (by rw [HM.out]; omega)
      have HDO := Lib.hid hdo
      clear hrz hdo
      go_wp2_with fail
      go_ret
      exact endL_owned HO.out HRZ.out HB.out HDO.out.symm
end Go.Proofs.Ytadobhfmhcaofaa.im

/- The document's own Diff and With. -/
import Derived.Test.YtadobhfmhcaofaaImOwn
namespace Go.Proofs.Ytadobhfmhcaofaa.im
open Go Go.RowKit Go.Proofs.Ytadobhfmhcaofaa.ib
set_option maxRecDepth 100000

theorem diffTo_i64 {a b : List Int} {i : Nat} (h : i ≤ 9223372036854775807) : ∀ z ∈ diffTo a b i, i64B z := by
  intro z hz
  obtain ⟨j, hj, _, rfl⟩ := mem_diffTo.1 hz
  unfold i64B
  omega
theorem one_cell (w : World) (z : Int) : ∀ (j : Nat) (u : Value), ([.int .i64 z] : List Value)[j]? = some u → (w.alloc (.cells #[.int .i64 z] 3)).cell? ((⟨w.heap.size, 0, none⟩ : Addr).add j) = some u := by
  intro j u hj
  match j, hj with
  | 0, hj =>
    simp at hj
    subst hj
    rw [addr_add]
    exact (Blk.new w 3 #[.int .i64 z]).cell 0

/-- One more on a list that the call made. -/
def DfRel (p q : List Int) (w : World) (v i : Value) (wr : World) : Prop :=
  ∃ k : Nat, k ≤ max p.length q.length ∧ i = .int .i64 (k : Int) ∧ OInts wr w.heap.size v (diffTo p q k) ∧ Below w.heap.size w wr

set_option maxHeartbeats 3200000 in
theorem rdiff_any (A B : Option Addr) (c c' : Nat) (p q : List Int) (w : World) (hp : IntsAt w A p) (hq : IntsAt w B q) (hl : p.length ≤ 1000) (hl' : q.length ≤ 1000) :
    Calls Try.prog 15 #[.slice A p.length c, .slice B q.length c'] w (endL (iDiff p q) w) := by
  obtain ⟨i0, hi, hz0, hz1, hz2⟩ := info_parts infoInt
  have HP := Lib.hid hp
  have HQ := Lib.hid hq
  obtain ⟨M, hM⟩ : ∃ M, max p.length q.length = M := ⟨_, rfl⟩
  have hMi : (if p.length < q.length then (q.length : Int) else (p.length : Int)) = (M : Int) := by split <;> omega
  have hM1 : M ≤ 1000 := by omega
  have HM := Lib.hid hM
  have HPL := Lib.hid (fun W (h : Below w.heap.size w W) (i : Nat) => place_any A c p i W (hp.below h) (by omega))
  have HQL := Lib.hid (fun W (h : Below w.heap.size w W) (i : Nat) => place_any B c' q i W (hq.below h) (by omega))
  clear hp hq hM
  go_enter Try.func15, Try.ntmps15
  go_wp2_with fail
  go_loopw [5, 6] (fun v i wr => DfRel p q w v i wr) (fun _ i _ => M - (intOf i).toNat)
  case atStart => exact ⟨0, Nat.zero_le _, rfl, World.ownsRow_nil _ _ _ _, Below.refl _ _⟩
  case round =>
    obtain ⟨k, hk, rfl, ho, hb⟩ := hrel
    have HO := Lib.hid ho
    have HB := Lib.hid hb
    rw [HM.out] at hk
    have hdl := diffTo_len p q k
    obtain ⟨a5, c5, rfl, _, _⟩ := ho.view (diffTo_i64 (by omega))
    clear ho hb
    by_cases hlt : k < M
    · have hkM : (k : Int) < (M : Int) := by omega
      have hs := diffTo_succ p q k
      have HS := Lib.hid hs
      clear hs
      go_wp2_with fail
      refine (HPL.out wr HB.out k).mono ?_
      rintro e _ ⟨rfl, rfl⟩
      go_wp2_with fail
      refine (HQL.out wr HB.out k).mono ?_
      rintro e _ ⟨rfl, rfl⟩
      by_cases hx : pl p k = pl q k
      · have hs := HS.out
        rw [if_neg (fun h => h hx), List.append_nil] at hs
        have HS2 := Lib.hid hs
        have hxb : (pl p k != pl q k) = false := by rw [hx]; simp
        clear hs hx HS
        generalize pl p k = x at *
        generalize pl q k = y at *
        go_wp2_with fail
        go_roundw
        case rel => exact ⟨k + 1, by rw [HM.out]; omega, by go_num, by rw [HS2.out]; exact HO.out, HB.out⟩
        case measure => simp [intOf]; omega
      · have hs := HS.out
        rw [if_pos hx] at hs
        have HS2 := Lib.hid hs
        have hxb : (pl p k != pl q k) = true := by simpa using hx
        have HB2 := Lib.hid (HB.out.alloc HB.out.size (.cells #[.int .i64 (k : Int)] 3))
        have hown2 := World.ownsRow.alloc HO.out (.cells #[.int .i64 (k : Int)] 3)
        have HO2 := Lib.hid hown2
        have HNW := Lib.hid (one_cell wr (k : Int))
        clear hs hown2 hx HS
        generalize pl p k = x at *
        generalize pl q k = y at *
        go_wp2_with (at_builtin; refine wpList_append_own _ rfl (.tmp 23) (.tmp 25) 22 rfl w.heap.size 3 i0 (.int .i64 0) 1 8 Try.underlying22 hi hz0 hz1 hz2 rfl (by decide) _ (diffTo p q k).length _ rfl HO2.out ⟨wr.heap.size, 0, none⟩ 1 1 [.int .i64 (k : Int)] rfl rfl HNW.out (int_one (k : Int)) ?_ ?_ HB2.out.size ?_)
        · unfold maxLen; omega
        · omega
        · intro v' w1 hown1 hgrow _
          have hb1 := HB2.out.grown hgrow HB2.out.size (fun j hj => (HO2.out.lt j hj).1)
          have hos : OInts w1 w.heap.size v' (diffTo p q (k + 1)) := by
            unfold OInts
            rw [HS2.out, List.map_append, List.length_append]
            exact hown1
          have HOS := Lib.hid hos
          have HB3 := Lib.hid hb1
          clear hb1 hos hown1 hgrow
          go_wp2_with fail
          go_roundw
          case rel => exact ⟨k + 1, by rw [HM.out]; omega, by go_num, HOS.out, HB3.out⟩
          case measure => simp [intOf]; omega
    · have hkM : ¬ (k : Int) < (M : Int) := by omega
      have hke : k = M := by omega
      have HR : Hid (iDiff p q = diffTo p q k) := by unfold Hid iDiff; rw [HM.out, hke]
      clear hke
      go_wp2_with fail
      go_ret
      exact endL_owned HO.out (diffTo_i64 (by omega)) HB.out HR.out

/-! ### One with another place -/
def WiRel (r : List Int) (w : World) (v i : Value) (wr : World) : Prop :=
  ∃ k : Nat, k ≤ r.length ∧ i = .int .i64 (k : Int) ∧ OInts wr w.heap.size v (r.take k) ∧ Below w.heap.size w wr

theorem set_i64 {l : List Int} (h : ∀ z ∈ l, i64B z) (k : Nat) {s : Int} (hs : i64B s) : ∀ z ∈ l.set k s, i64B z := by
  intro z hz
  rcases List.mem_or_eq_of_mem_set hz with h1 | h1
  · exact h z h1
  · rw [h1]; exact hs

set_option maxHeartbeats 3200000 in
theorem rwith_any (A : Option Addr) (c : Nat) (l : List Int) (b s : Int) (w : World) (hp : IntsAt w A l) (hl : l.length ≤ 1000) (hs : i64B s) :
    Calls Try.prog 17 #[.slice A l.length c, .int .i64 b, .int .i64 s] w (endP (iWith l b s) w) := by
  obtain ⟨i0, hi, hz0, hz1, hz2⟩ := info_parts infoInt
  have HP := Lib.hid hp
  obtain ⟨res, hres⟩ : ∃ r, iWith l b s = r := ⟨_, rfl⟩
  rw [hres]
  unfold iWith at hres
  by_cases h0 : b < 0
  · rw [if_pos (.inl h0)] at hres
    subst hres
    clear hp
    go_enter Try.func17, Try.ntmps17
    go_wp2_with fail
    go_ret2
    exact endP_nil (Below.refl _ _)
  by_cases h1 : (l.length : Int) ≤ b
  · rw [if_pos (.inr (.inl h1))] at hres
    subst hres
    clear hp
    go_enter Try.func17, Try.ntmps17
    go_wp2_with fail
    go_ret2
    exact endP_nil (Below.refl _ _)
  by_cases h2 : s < 0
  · rw [if_pos (.inr (.inr h2))] at hres
    subst hres
    clear hp
    go_enter Try.func17, Try.ntmps17
    go_wp2_with fail
    go_ret2
    exact endP_nil (Below.refl _ _)
  rw [if_neg (by omega)] at hres
  obtain ⟨t, rfl⟩ := Int.eq_ofNat_of_zero_le (show 0 ≤ b by omega)
  rw [Int.toNat_natCast] at hres
  obtain ⟨r, hr⟩ : ∃ r, l.set t s = r := ⟨_, rfl⟩
  have hrl : r.length = l.length := by rw [← hr]; simp
  have HRL := Lib.hid hrl
  have hrz : ∀ z ∈ r, i64B z := by rw [← hr]; exact set_i64 hp.mem t hs
  have HRZ := Lib.hid hrz
  have hget : ∀ k (h : k < l.length), r[k]? = some (if k = t then s else l[k]) := by
    intro k h
    rw [← hr, List.getElem?_set]
    by_cases e : t = k
    · rw [if_pos e, if_pos e.symm, if_pos (by omega)]
    · rw [if_neg e, if_neg (fun e' => e e'.symm), List.getElem?_eq_getElem h]
  have HGET := Lib.hid hget
  rw [hr] at hres
  have HRES := Lib.hid hres
  clear hres hrl hrz hget hr hp
  go_enter Try.func17, Try.ntmps17
  go_wp2_with fail
  go_loopw [8, 9] (fun v i wr => WiRel r w v i wr) (fun _ i _ => l.length - (intOf i).toNat)
  case atStart => exact ⟨0, Nat.zero_le _, rfl, World.ownsRow_nil _ _ _ _, Below.refl _ _⟩
  case round =>
    obtain ⟨k, hk, rfl, ho, hb⟩ := hrel
    have HO := Lib.hid ho
    have HB := Lib.hid hb
    rw [HRL.out] at hk
    obtain ⟨L, hL⟩ : ∃ L, (r.take k).length = L := ⟨_, rfl⟩
    have hLk : L ≤ 1000 := by rw [← hL, List.length_take]; omega
    obtain ⟨a5, c5, rfl, _, _⟩ := ho.view (fun z hz => HRZ.out z (List.mem_of_mem_take hz))
    unfold OInts at HO
    rw [hL] at HO ⊢
    clear ho hb
    by_cases hlt : k < l.length
    · have hklt : (k : Int) < (l.length : Int) := by omega
      have hs := HGET.out k hlt
      have htk : r.take (k + 1) = r.take k ++ [if k = t then s else l[k]] := by rw [List.take_add_one, hs]; rfl
      have HTK := Lib.hid htk
      have HLL := Lib.hid hL
      obtain ⟨bl, o, rfl, hbl, hc, hz⟩ := HP.out k hlt
      have e0 : wr.cell? ⟨bl, o + k, none⟩ = some (.int .i64 l[k]) := by rw [HB.out.cell (p := ⟨bl, o + k, none⟩) hbl]; exact hc
      have l0 : bl < wr.heap.size := Nat.lt_of_lt_of_le hbl HB.out.size
      clear hs htk hL hz
      generalize l[k] = x at *
      by_cases hkt : k = t
      · subst hkt
        have htk := HTK.out
        rw [if_pos rfl] at htk
        have HT2 := Lib.hid htk
        have HB2 := Lib.hid (HB.out.alloc HB.out.size (.cells #[.int .i64 s] 3))
        have HO2 := Lib.hid (World.ownsRow.alloc HO.out (.cells #[.int .i64 s] 3))
        have HNW := Lib.hid (one_cell wr s)
        have hkk : ((k : Int) == (k : Int)) = true := by simp
        clear htk
        go_wp2_with (at_builtin; refine wpList_append_own _ rfl (.tmp 31) (.tmp 33) 22 rfl w.heap.size 3 i0 (.int .i64 0) 1 8 Try.underlying22 hi hz0 hz1 hz2 rfl (by decide) _ L _ rfl HO2.out ⟨wr.heap.size, 0, none⟩ 1 1 [.int .i64 s] rfl rfl HNW.out (int_one s) ?_ ?_ HB2.out.size ?_)
        · unfold maxLen; omega
        · omega
        · intro v' w1 hown1 hgrow _
          have hb1 := HB2.out.grown hgrow HB2.out.size (fun j hj => (HO2.out.lt j hj).1)
          have hos : OInts w1 w.heap.size v' (r.take (k + 1)) := by
            unfold OInts
            rw [HT2.out, List.map_append, List.length_append, HLL.out, List.map_take]
            exact hown1
          have HOS := Lib.hid hos
          have HB3 := Lib.hid hb1
          clear hb1 hos hown1 hgrow
          go_wp2_with fail
          go_roundw
          case rel => exact ⟨k + 1, by rw [HRL.out]; omega, by go_num, HOS.out, HB3.out⟩
          case measure => simp [intOf]; omega
      · have htk := HTK.out
        rw [if_neg hkt] at htk
        have HT2 := Lib.hid htk
        have HB2 := Lib.hid (HB.out.alloc HB.out.size (.cells #[.int .i64 x] 3))
        have HO2 := Lib.hid (World.ownsRow.alloc HO.out (.cells #[.int .i64 x] 3))
        have HNW := Lib.hid (one_cell wr x)
        have hkk : ((k : Int) == (t : Int)) = false := by simp; omega
        clear htk
        go_wp2_with (at_builtin; refine wpList_append_own _ rfl (.tmp 35) (.tmp 40) 22 rfl w.heap.size 3 i0 (.int .i64 0) 1 8 Try.underlying22 hi hz0 hz1 hz2 rfl (by decide) _ L _ rfl HO2.out ⟨wr.heap.size, 0, none⟩ 1 1 [.int .i64 x] rfl rfl HNW.out (int_one x) ?_ ?_ HB2.out.size ?_)
        · unfold maxLen; omega
        · omega
        · intro v' w1 hown1 hgrow _
          have hb1 := HB2.out.grown hgrow HB2.out.size (fun j hj => (HO2.out.lt j hj).1)
          have hos : OInts w1 w.heap.size v' (r.take (k + 1)) := by
            unfold OInts
            rw [HT2.out, List.map_append, List.length_append, HLL.out, List.map_take]
            exact hown1
          have HOS := Lib.hid hos
          have HB3 := Lib.hid hb1
          clear hb1 hos hown1 hgrow
          go_wp2_with fail
          go_roundw
          case rel => exact ⟨k + 1, by rw [HRL.out]; omega, by go_num, HOS.out, HB3.out⟩
          case measure => simp [intOf]; omega
    · have hklt : ¬ (k : Int) < (l.length : Int) := by omega
      have HTR : Hid (r.take k = r) := List.take_of_length_le (by rw [HRL.out]; omega)
      have ho : OInts wr w.heap.size (.slice a5 L c5) r := by
        have := HO.out
        rw [HTR.out] at this
        unfold OInts
        rw [HTR.out] at hL
        rw [hL]
        exact this
      have HOR := Lib.hid ho
      clear ho hL
      go_wp2_with fail
      go_ret2
      exact endP_owned HOR.out HRZ.out HB.out HRES.out.symm
end Go.Proofs.Ytadobhfmhcaofaa.im

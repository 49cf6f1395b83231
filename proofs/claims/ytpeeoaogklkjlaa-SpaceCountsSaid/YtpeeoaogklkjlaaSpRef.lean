/- The document's own counts, free sectors, and what is taken. -/
import Derived.Test.YtpeeoaogklkjlaaSpMem
import Derived.Deep.QuietTactic
import Derived.BigQuiet
namespace Go.Proofs.Ytpeeoaogklkjlaa.sp
open Go Go.RowKit Go.Proofs.Ytpeeoaogklkjlaa.ib
set_option maxRecDepth 100000

/-! ### Are two lists alike -/
def IntsRel (ps qs : List Int) (w : World) (i : Value) (wr : World) : Prop := ∃ k : Nat, k ≤ ps.length ∧ i = .int .i64 (k : Int) ∧ ps.take k = qs.take k ∧ Below w.heap.size w wr
theorem drewI {w wr : World} (h : Below w.heap.size w wr) (n : Nat) : Below w.heap.size w (wr.drewN n) := ⟨h.os, h.tape, h.output, h.size, h.block⟩

set_option maxHeartbeats 1600000 in
theorem rints_any (A A' : Option Addr) (c c' : Nat) (ps qs : List Int) (w : World) (hp : IntsAt w A ps) (hq : IntsAt w A' qs) (hl : ps.length ≤ 9223372036854775807) :
    Calls Try.prog 10 #[.slice A ps.length c, .slice A' qs.length c'] w (okB (decide (ps = qs)) w) := by
  have HP := Lib.hid hp
  have HQ := Lib.hid hq
  clear hp hq
  by_cases hne : ps.length = qs.length
  · have HNE := Lib.hid hne
    have hlb : ((ps.length : Int) != (qs.length : Int)) = false := by rw [hne]; simp
    clear hne
    go_enter Try.func10, Try.ntmps10
    go_wp2_with fail
    go_loopw [5] (fun i wr => IntsRel ps qs w i wr) (fun i _ => ps.length - (intOf i).toNat)
    case atStart => exact ⟨0, Nat.zero_le _, rfl, by simp, Below.refl _ _⟩
    case round =>
      obtain ⟨k, hk, rfl, he, hb⟩ := hrel
      have HE := Lib.hid he
      have HB := Lib.hid hb
      clear he hb
      by_cases hlt : k < ps.length
      · obtain ⟨b, o, rfl, hbl, hc, hz⟩ := HP.out k hlt
        have hlq : k < qs.length := by have := HNE.out; omega
        obtain ⟨b', o', rfl, hbl', hc', hz'⟩ := HQ.out k hlq
        have h1 : ps.take (k + 1) = ps.take k ++ [ps[k]] := List.take_succ_eq_append_getElem hlt
        have h2 : qs.take (k + 1) = qs.take k ++ [qs[k]] := List.take_succ_eq_append_getElem hlq
        have hps : ps = qs → ps[k] = qs[k] := fun h => by subst h; rfl
        have HPS := Lib.hid hps
        have H1 := Lib.hid h1
        have H2 := Lib.hid h2
        have e0 : wr.cell? ⟨b, o + k, none⟩ = some (.int .i64 ps[k]) := by rw [HB.out.cell (p := ⟨b, o + k, none⟩) hbl]; exact hc
        have e1 : wr.cell? ⟨b', o' + k, none⟩ = some (.int .i64 qs[k]) := by rw [HB.out.cell (p := ⟨b', o' + k, none⟩) hbl']; exact hc'
        have l0 : b < wr.heap.size := Nat.lt_of_lt_of_le hbl HB.out.size
        have l1 : b' < wr.heap.size := Nat.lt_of_lt_of_le hbl' HB.out.size
        have hklt : (k : Int) < (ps.length : Int) := by omega
        have hklq : (k : Int) < (qs.length : Int) := by omega
        clear hc hc' h1 h2 hps hz hz'
        generalize ps[k] = x at *
        generalize qs[k] = y at *
        by_cases hxy : x = y
        · subst hxy
          have hq : (x != x) = false := by simp
          go_wp2_with fail
          go_quiet (fail)
          go_wp2_with fail
          go_roundw
          case rel => exact ⟨k + 1, by omega, by go_num, by rw [H1.out, H2.out, HE.out], by first | exact drewI HB.out _ | exact HB.out⟩
          case measure => simp [intOf]; omega
        · have hq : (x != y) = true := by simpa using hxy
          have hd : decide (ps = qs) = false := decide_eq_false fun h => hxy (HPS.out h)
          have HD := Lib.hid hd
          clear hd
          go_wp2_with fail
          go_quiet (fail)
          go_wp2_with fail
          go_ret
          rw [HD.out]
          exact ⟨rfl, by first | exact drewI HB.out _ | exact HB.out⟩
      · have hke : k = ps.length := by omega
        have hd : decide (ps = qs) = true := by
          apply decide_eq_true
          have := HE.out
          rw [hke, List.take_length, HNE.out, List.take_length] at this
          exact this
        have HD := Lib.hid hd
        have hkl : ¬ (k : Int) < (ps.length : Int) := by omega
        clear hd hke
        go_wp2_with fail
        go_ret
        rw [HD.out]
        exact ⟨rfl, HB.out⟩
  · have hlb : ((ps.length : Int) != (qs.length : Int)) = true := by simp; omega
    have hd : decide (ps = qs) = false := decide_eq_false fun h => hne (by rw [h])
    have HD := Lib.hid hd
    clear hd hne
    go_enter Try.func10, Try.ntmps10
    go_wp2_with fail
    go_ret
    rw [HD.out]
    exact ⟨rfl, Below.refl _ _⟩

/-! ### How many are free -/
def FreeRel (cs : List Int) (w : World) (v i : Value) (wr : World) : Prop := ∃ k : Nat, 193 ≤ k ∧ i = .int .i64 (k : Int) ∧ v = .int .i64 ((frees cs k).length : Int) ∧ (k ≤ cs.length ∨ k = 193) ∧ w = wr

theorem sFree_low {cs : List Int} (h : cs.length ≤ 193) : sFree cs = 0 := by
  unfold sFree
  rw [frees_low cs _ h]
  rfl

set_option maxHeartbeats 1600000 in
theorem rfree_any (A : Option Addr) (c : Nat) (cs : List Int) (w : World) (hp : IntsAt w A cs) (hl : cs.length ≤ 9223372036854775807) :
    Calls Try.prog 15 #[.slice A cs.length c] w fun e w' => e = .returned (.int .i64 (sFree cs : Int)) ∧ w = w' := by
  have HP := Lib.hid hp
  clear hp
  go_enter Try.func15, Try.ntmps15
  go_wp2_with fail
  go_loopw [3, 4] (fun v i wr => FreeRel cs w v i wr) (fun _ i _ => cs.length - (intOf i).toNat)
  case atStart => exact ⟨193, by omega, rfl, by rw [frees_low cs 193 (by omega)]; rfl, .inr rfl, rfl⟩
  case round =>
    obtain ⟨k, hk, rfl, rfl, hk2, rfl⟩ := hrel
    by_cases hlt : k < cs.length
    · obtain ⟨b, o, rfl, hbl, hc, hz⟩ := HP.out k hlt
      have hklt : (k : Int) < (cs.length : Int) := by omega
      have hg : cs.getD k 0 = cs[k] := by simp [List.getD, hlt]
      have hs := frees_succ_len' cs k hk
      rw [hg] at hs
      have hfl := frees_len cs k
      have HS := Lib.hid hs
      have hk2' : 193 ≤ k + 1 := by omega
      have HK2 : Hid (k + 1 ≤ cs.length ∨ k + 1 = 193) := .inl (by omega)
      clear hg hs hk2
      generalize cs[k] = x at *
      generalize hfk : (frees cs k).length = f at *
      by_cases hx : x = 0
      · subst hx
        have hs := HS.out
        rw [if_pos rfl] at hs
        have HS2 := Lib.hid hs
        clear hs
        go_wp2_with fail
        go_roundw
        case rel => exact ⟨k + 1, hk2', by go_num, by rw [HS2.out]; go_num, HK2.out, rfl⟩
        case measure => simp [intOf]; omega
      · have hs := HS.out
        rw [if_neg hx] at hs
        have HS2 := Lib.hid hs
        have hxb : (x == 0) = false := by simpa using hx
        clear hs
        go_wp2_with fail
        go_roundw
        case rel => exact ⟨k + 1, hk2', by go_num, by rw [HS2.out, Nat.add_zero], HK2.out, rfl⟩
        case measure => simp [intOf]; omega
    · have hkl : ¬ (k : Int) < (cs.length : Int) := by omega
      have hend : ((frees cs k).length : Int) = (sFree cs : Int) := by
        rcases hk2 with h | h
        · have : k = cs.length := by omega
          rw [this]
          rfl
        · rw [h, frees_low cs 193 (by omega), sFree_low (by omega)]
          rfl
      have HE := Lib.hid hend
      have hfl := frees_len cs k
      clear hend hk2
      go_wp2_with fail
      go_ret
      exact ⟨by rw [HE.out]; rfl, rfl⟩

/-! ### What is taken -/
def TakeRel (cs : List Int) (n : Nat) (w : World) (v i : Value) (wr : World) : Prop :=
  ∃ k : Nat, 193 ≤ k ∧ i = .int .i64 (k : Int) ∧ OInts wr w.heap.size v (frees cs k) ∧ (frees cs k).length ≤ n ∧ (k ≤ cs.length ∨ k = 193) ∧ Below w.heap.size w wr

theorem take_done {cs : List Int} {k m : Nat} (h : (frees cs k).length ≤ m) (hm : m ≤ sFree cs) (he : m ≤ (frees cs k).length ∨ cs.length ≤ k) (hk : k ≤ cs.length ∨ k = 193) : (frees cs cs.length).take m = frees cs k := by
  by_cases hkl : k ≤ cs.length
  · obtain ⟨r, hr⟩ := frees_pre cs k cs.length hkl
    have : m = (frees cs k).length := by
      rcases he with h1 | h1
      · omega
      · have hke : k = cs.length := by omega
        unfold sFree at hm
        rw [hke] at h ⊢
        omega
    rw [hr, this, List.take_left]
  · have h193 : k = 193 := by omega
    have h0 := sFree_low (cs := cs) (by omega)
    have hm0 : m = 0 := by omega
    rw [hm0, h193, frees_low cs 193 (by omega), List.take_zero]

theorem okL_owned {w wr : World} {a : Option Addr} {c n : Nat} {zs ys : List Int} {r : List Int × Int} (ho : OInts wr w.heap.size (.slice a n c) zs) (hb : Below w.heap.size w wr) (hy : ys = zs) (hr : (ys, (0 : Int)) = r) (hz : ∀ z ∈ zs, i64B z) :
    okL r w (.returned (.tuple #[.slice a n c, .int .i64 0])) wr := by
  subst hr hy
  obtain ⟨a', c', hv, hi, hbl⟩ := ho.view hz
  simp only [Value.slice.injEq] at hv
  obtain ⟨rfl, rfl, rfl⟩ := hv
  refine ⟨a, c, rfl, hi, hb, hbl, ?_⟩
  rcases ho.2 with ⟨h1, h0⟩ | ⟨g, cap, cur, h1, hg, hh, hcc, hm, _⟩
  · show ys.length ≤ c
    omega
  · simp only [Value.slice.injEq] at h1
    show ys.length ≤ c
    omega

theorem frees_i64 {cs : List Int} {i : Nat} (h : i ≤ 9223372036854775807) : ∀ z ∈ frees cs i, i64B z := by
  intro z hz
  unfold frees at hz
  obtain ⟨j, hj, rfl⟩ := List.mem_map.1 hz
  have := List.mem_range.1 (List.mem_filter.1 hj).1
  unfold i64B
  omega

set_option maxHeartbeats 3200000 in
theorem rtake_any (A : Option Addr) (c : Nat) (cs : List Int) (n : Int) (w : World) (hp : IntsAt w A cs) (hl : cs.length * 8 ≤ 140737488355328) :
    Calls Try.prog 13 #[.slice A cs.length c, .int .i64 n] w (okL (sTake cs n) w) := by
  obtain ⟨i0, hi, hz0, hz1, hz2⟩ := info_parts infoInt
  have HP := Lib.hid hp
  have HF := Lib.hid (fun W (h : IntsAt W A cs) => rfree_any A c cs W h (by omega))
  obtain ⟨res, hres⟩ : ∃ r, sTake cs n = r := ⟨_, rfl⟩
  rw [hres]
  unfold sTake at hres
  by_cases h0 : n < 0
  · rw [if_pos h0] at hres
    subst hres
    clear hp
    go_enter Try.func13, Try.ntmps13
    go_wp2_with fail
    go_ret2
    exact okL_nil (Below.refl _ _)
  rw [if_neg h0] at hres
  have hF := HF.out w hp
  have HFW := Lib.hid hF
  obtain ⟨fr, hfr⟩ : ∃ f, sFree cs = f := ⟨_, rfl⟩
  by_cases h1 : (sFree cs : Int) < n
  · rw [if_pos h1] at hres
    subst hres
    clear hp hF
    rw [hfr] at h1 HFW
    go_enter Try.func13, Try.ntmps13
    go_wp2_with (go_at_call 15; refine HFW.out.mono ?_; rintro e w' ⟨rfl, rfl⟩)
    go_ret2
    exact okL_nil (Below.refl _ _)
  rw [if_neg h1] at hres
  obtain ⟨m, rfl⟩ := Int.eq_ofNat_of_zero_le (show 0 ≤ n by omega)
  rw [Int.toNat_natCast] at hres
  have hmf : m ≤ sFree cs := by omega
  have HMF := Lib.hid hmf
  rw [hfr] at h1 HFW
  clear hp hF hmf
  go_enter Try.func13, Try.ntmps13
  go_wp2_with (go_at_call 15; refine HFW.out.mono ?_; rintro e w' ⟨rfl, rfl⟩)
  have hdf : decide (fr < m) = false := decide_eq_false (by omega)
  rw [hdf]
  go_loopw [6, 7] (fun v i wr => TakeRel cs m w v i wr) (fun _ i _ => cs.length - (intOf i).toNat)
  case atStart => exact ⟨193, by omega, rfl, by rw [frees_low cs 193 (by omega)]; exact World.ownsRow_nil _ _ _ _, by rw [frees_low cs 193 (by omega)]; exact Nat.zero_le _, .inr rfl, Below.refl _ _⟩
  case round =>
    obtain ⟨k, hk, rfl, ho, hlm, hk2, hb⟩ := hrel
    have HO := Lib.hid ho
    have HB := Lib.hid hb
    have HK2 := Lib.hid hk2
    have HLM := Lib.hid hlm
    have hfl := frees_len cs k
    have hkb : k ≤ 9223372036854775807 := by rcases hk2 with h | h <;> omega
    obtain ⟨a6, c6, rfl, _, hbl6⟩ := ho.view (frees_i64 (by omega))
    have HBL := Lib.hid hbl6
    clear hb ho hk2 hbl6
    by_cases hlt : k < cs.length
    · have hklt : (k : Int) < (cs.length : Int) := by omega
      by_cases hmm : (frees cs k).length < m
      · have hmmi : ((frees cs k).length : Int) < (m : Int) := by omega
        obtain ⟨b, o, rfl, hbl, hc, hz⟩ := HP.out k hlt
        have hs := frees_succ cs k
        have hg : cs.getD k 0 = cs[k] := by simp [List.getD, hlt]
        rw [hg] at hs
        have HS := Lib.hid hs
        have e0 : wr.cell? ⟨b, o + k, none⟩ = some (.int .i64 cs[k]) := by rw [HB.out.cell (p := ⟨b, o + k, none⟩) hbl]; exact hc
        have l0 : b < wr.heap.size := Nat.lt_of_lt_of_le hbl HB.out.size
        have hk2' : Hid (k + 1 ≤ cs.length ∨ k + 1 = 193) := .inl (by omega)
        clear hc hz hg hs
        generalize cs[k] = x at *
        by_cases hx : x = 0
        · subst hx
          have hs := HS.out
          rw [if_pos ⟨hk, rfl⟩] at hs
          have HS2 := Lib.hid hs
          have HB2 := Lib.hid (HB.out.alloc HB.out.size (.cells #[.int .i64 (k : Int)] 3))
          have hown2 := World.ownsRow.alloc HO.out (.cells #[.int .i64 (k : Int)] 3)
          have HO2 := Lib.hid hown2
          have HNW : Hid (∀ (j : Nat) (u : Value), ([.int .i64 (k : Int)] : List Value)[j]? = some u → (wr.alloc (.cells #[.int .i64 (k : Int)] 3)).cell? ((⟨wr.heap.size, 0, none⟩ : Addr).add j) = some u) := by
            intro j u hj
            match j, hj with
            | 0, hj =>
              simp at hj
              subst hj
              rw [addr_add]
              exact (Blk.new wr 3 #[.int .i64 (k : Int)]).cell 0
          clear hs hown2
          go_wp2_with (at_builtin; refine wpList_append_own _ rfl (.tmp 31) (.tmp 33) 23 rfl w.heap.size 3 i0 (.int .i64 0) 1 8 Try.underlying23 hi hz0 hz1 hz2 rfl (by decide) _ (frees cs k).length _ rfl HO2.out ⟨wr.heap.size, 0, none⟩ 1 1 [.int .i64 (k : Int)] rfl rfl HNW.out (int_one (k : Int)) ?_ ?_ HB2.out.size ?_)
          · unfold maxLen; omega
          · omega
          · intro v' w1 hown1 hgrow _
            have hb1 := HB2.out.grown hgrow HB2.out.size (fun j hj => (HO2.out.lt j hj).1)
            have hos : OInts w1 w.heap.size v' (frees cs (k + 1)) := by
              unfold OInts
              rw [HS2.out, List.map_append, List.length_append]
              exact hown1
            have HOS := Lib.hid hos
            have HB3 := Lib.hid hb1
            have hlen : Hid ((frees cs (k + 1)).length ≤ m) := by
              unfold Hid
              rw [HS2.out, List.length_append]
              simp only [List.length_cons, List.length_nil]
              omega
            clear hb1 hos hown1 hgrow
            go_wp2_with fail
            go_roundw
            case rel =>
              exact ⟨k + 1, by omega, by go_num, HOS.out, hlen.out, hk2'.out, HB3.out⟩
            case measure => simp [intOf]; omega
        · have hs := HS.out
          rw [if_neg (fun h => hx h.2), List.append_nil] at hs
          have HS2 := Lib.hid hs
          have hxb : (x == 0) = false := by simpa using hx
          clear hs
          go_wp2_with fail
          go_roundw
          case rel => exact ⟨k + 1, by omega, by go_num, by rw [HS2.out]; exact HO.out, by rw [HS2.out]; exact HLM.out, hk2'.out, HB.out⟩
          case measure => simp [intOf]; omega
      · have hmmi : ¬ ((frees cs k).length : Int) < (m : Int) := by omega
        have hdone := take_done HLM.out HMF.out (.inl (by omega)) HK2.out
        have HDN := Lib.hid hdone
        clear hdone
        go_wp2_with fail
        go_ret2
        exact okL_owned HO.out HB.out (HDN.out.trans (by rfl)) hres (frees_i64 (by omega))
    · have hklt : ¬ (k : Int) < (cs.length : Int) := by omega
      have hdone := take_done HLM.out HMF.out (.inr (by omega)) HK2.out
      have HDN := Lib.hid hdone
      clear hdone
      go_wp2_with fail
      go_ret2
      exact okL_owned HO.out HB.out (HDN.out.trans (by rfl)) hres (frees_i64 (by omega))
end Go.Proofs.Ytpeeoaogklkjlaa.sp

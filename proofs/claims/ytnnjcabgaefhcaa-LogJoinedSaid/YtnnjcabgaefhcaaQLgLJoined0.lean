/- LogJoined: what was joined is there, behind what was ahead of it; joined once more, or a beginning of it joined, it changes nothing; of all lists and numbers. -/
import Derived.Test.YtnnjcabgaefhcaaQ4
import Derived.OpenShut
import Derived.Test.YtnnjcabgaefhcaaRows
import Derived.Deep.DeepHandedRow
import Derived.ProofKit
import Derived.ShutString
import Derived.SizedLaws
import Derived.ChangeOld
import Derived.Below
import Derived.SliceStrings
set_option linter.unusedVariables false
set_option linter.unusedSimpArgs false
/- The walk of LogJoins. -/
namespace Go.Proofs.Ytnnjcabgaefhcaa.lg
open Go Go.RowKit Go.ChangeShapes Go.WideShapes Go.Proofs.Ytnnjcabgaefhcaa.ib
set_option maxRecDepth 100000

theorem join_mem {l m : List En} {p : Int} {x : En} (h : x ∈ lJoin l p m) : x ∈ l ∨ x ∈ m := by
  unfold lJoin at h
  split at h
  · exact .inl h
  · split at h
    · exact .inl h
    · rcases List.mem_append.1 h with h | h
      · exact .inl (List.mem_of_mem_take h)
      · exact .inr (List.mem_of_mem_drop h)
theorem join_len {l m : List En} {p : Int} (hl : l.length ≤ 400) (hm : m.length ≤ 400) : (lJoin l p m).length ≤ 800 := by
  unfold lJoin
  split
  · omega
  · split
    · omega
    · rw [List.length_append, List.length_take, List.length_drop]; omega
def JoRel (g n cap : Nat) (W0 : World) (i : Value) (wr : World) : Prop :=
  ∃ k : Nat, k ≤ n ∧ i = .int .i64 (k : Int) ∧ (∃ cur : Array Value, Blk wr g 35 cur ∧ cur.size = cap * 4) ∧ Below W0.heap.size W0 wr
set_option maxHeartbeats 6400000 in
theorem logJoins_walk (A : Option Addr) (c : Nat) (l : List En) (p : Int) (hp : (Lit.int .i64 p).wf = true) (B : Option Addr) (d : Nat) (m : List En) (w : World) (hl : l.length ≤ 9223372036854775807) (hA : EnL w A l c) (hm : m.length ≤ 9223372036854775807) (hB : EnL w B m d) :
    Calls Try.prog 5 #[.slice A l.length c, .int .i64 p, .slice B m.length d] w (endB true w) := by
  have HO := Lib.hid (own_new A c l w hA hl)
  have HO2 := Lib.hid (fun W (h : Below w.heap.size w W) => own_new B d m W (hB.below h) hm)
  have hl4 : (l.take 400).length ≤ 400 := by rw [List.length_take]; omega
  have hm4 : (m.take 400).length ≤ 400 := by rw [List.length_take]; omega
  have hpb : i64B p := bounds_i64 hp
  have HP := Lib.hid hpb
  clear hA hB hl hm hp hpb
  go_enter Try.func5, Try.ntmps5
  go_wp2_with fail
  refine HO.out.mono ?_
  rintro e W1 ⟨A1, c1, rfl, hE, -, hb⟩
  have E1 := Lib.hid hE
  have B1 := Lib.hid hb
  clear hE hb HO
  generalize l.take 400 = x at *
  dsimp only
  go_wp2_with fail
  refine (HO2.out W1 B1.out).mono ?_
  rintro e W2 ⟨A2, c2, rfl, hE, -, hb⟩
  have F2 := Lib.hid hE
  have E2 := Lib.hid (E1.out.below hb)
  have B2 := Lib.hid (below_step B1.out hb)
  clear hE hb HO2
  generalize m.take 400 = y at *
  dsimp only
  go_wp2_with fail
  refine (own_new A1 c1 x W2 E2.out (by omega)).mono ?_
  rw [List.take_of_length_le hl4]
  rintro e W3 ⟨A3, c3, rfl, hE, -, hb⟩
  have G3 := Lib.hid hE
  have E3 := Lib.hid (E2.out.below hb)
  have F3 := Lib.hid (F2.out.below hb)
  have B3 := Lib.hid (below_step B2.out hb)
  clear hE hb
  go_wp2_with fail
  refine (own_new A2 c2 y W3 F3.out (by omega)).mono ?_
  rw [List.take_of_length_le hm4]
  rintro e W4 ⟨A4, c4, rfl, hE, -, hb⟩
  have K4 := Lib.hid hE
  have G4 := Lib.hid (G3.out.below hb)
  have E4 := Lib.hid (E3.out.below hb)
  have F4 := Lib.hid (F3.out.below hb)
  have B4 := Lib.hid (below_step B3.out hb)
  clear hE hb
  have hj := join_any A1 A2 c1 c2 x y p W4 E4.out F4.out (by omega) (by omega) HP.out
  have HRJ := Lib.hid (fun W (h : Below W4.heap.size W4 W) => rjoin_any A1 A2 c1 c2 x y p W (E4.out.below h) (F4.out.below h) (by omega) (by omega) HP.out)
  have HRB : Hid (∀ z ∈ lJoin x p y, enB z) := fun z hz => by
    rcases join_mem hz with h | h
    · exact E4.out.b z h
    · exact F4.out.b z h
  have hR8 : (lJoin x p y).length ≤ 800 := join_len hl4 hm4
  generalize lJoin x p y = R at *
  have HJ := Lib.hid hj
  clear hj
  go_wp2_with fail
  refine HJ.out.mono ?_
  rintro e W5 ⟨va, rfl, ho, hb⟩
  have O5 := Lib.hid ho
  have D5 := Lib.hid hb
  clear ho hb HJ
  go_wp2_with fail
  refine (HRJ.out W5 D5.out).mono ?_
  rintro e W6 ⟨vb, rfl, ho, hb⟩
  have O6 := Lib.hid (O5.out.below hb)
  have Q6 := Lib.hid ho
  have D6 := Lib.hid (D5.out.trans (hb.mono D5.out.size))
  clear ho hb HRJ O5
  obtain ⟨Ab, cb, rfl, hQ, -⟩ := Q6.out.view HRB.out
  obtain ⟨Aa, ca, hva, hO, -⟩ := O6.out.view HRB.out
  have hs := rsame_any Aa Ab ca cb R R W6 hO.ents hQ.ents (by omega) (by omega)
  rw [decide_eq_true rfl] at hs
  have HS := Lib.hid hs
  have HV := Lib.hid hva
  rw [hva]
  clear hs hQ hO hva
  go_wp2_with fail
  refine HS.out.mono ?_
  rintro e W7 ⟨rfl, hb⟩
  have O7 := Lib.hid (O6.out.below hb)
  have D7 := Lib.hid (D6.out.trans (hb.mono D6.out.size))
  clear hb HS O6 Q6
  have HCA : Hid (∀ W, Below W4.heap.size W4 W → Calls Try.prog 15 #[.slice A1 x.length c1, .slice A3 x.length c3] W (endB true W)) := fun W h => by
    have h2 := rsame_any A1 A3 c1 c3 x x W (E4.out.ents.below h) (G4.out.ents.below h) (by omega) (by omega)
    rwa [decide_eq_true rfl] at h2
  have HCB : Hid (∀ W, Below W4.heap.size W4 W → Calls Try.prog 15 #[.slice A2 y.length c2, .slice A4 y.length c4] W (endB true W)) := fun W h => by
    have h2 := rsame_any A2 A4 c2 c4 y y W (F4.out.ents.below h) (K4.out.ents.below h) (by omega) (by omega)
    rwa [decide_eq_true rfl] at h2
  have ho := O7.out.2
  rw [HV.out] at ho
  rcases ho with ⟨hn, h0⟩ | ⟨g, cap, cur, hn, hg, hh, hcc, hmx, hcs, -⟩
  · simp only [Value.slice.injEq] at hn
    obtain ⟨rfl, hn2, rfl⟩ := hn
    rw [hn2]
    go_wp2_with fail
    go_loopw [11] (fun i wr => i = .int .i64 0 ∧ wr = W7) (fun _ _ => 0)
    case atStart => exact ⟨rfl, rfl⟩
    case round =>
      obtain ⟨rfl, hw⟩ := hrel
      have DR : Hid (Below W4.heap.size W4 wr) := by rw [hw]; exact D7.out
      clear hw
      go_wp2_with fail
      refine (HCA.out wr DR.out).mono ?_
      rintro e W8 ⟨rfl, hb⟩
      have D8 := Lib.hid (DR.out.trans (hb.mono DR.out.size))
      clear hb
      go_wp2_with fail
      refine (HCB.out W8 D8.out).mono ?_
      rintro e W9 ⟨rfl, hb⟩
      have D9 := Lib.hid (D8.out.trans (hb.mono D8.out.size))
      clear hb
      go_wp2_with fail
      refine (works_any W9).mono ?_
      rintro e W10 ⟨rfl, hb⟩
      have D10 := Lib.hid (below_step B4.out (D9.out.trans (hb.mono D9.out.size)))
      clear hb
      go_wp2_with fail
      go_ret
      exact ⟨rfl, D10.out⟩
  · simp only [Value.slice.injEq] at hn
    obtain ⟨rfl, -, rfl⟩ := hn
    have HG := Lib.hid hg
    have HC0 : Hid (∃ cur : Array Value, Blk W7 g 35 cur ∧ cur.size = ca * 4) := ⟨cur, hh, hcs⟩
    obtain ⟨n, hn⟩ : ∃ n, R.length = n := ⟨_, rfl⟩
    rw [hn] at hcc hR8 ⊢
    clear hg hh hcs hmx hn
    go_wp2_with fail
    go_loopw [11] (fun i wr => JoRel g n ca W4 i wr) (fun i _ => n - (intOf i).toNat)
    case atStart => exact ⟨0, Nat.zero_le _, rfl, HC0.out, D7.out⟩
    case round =>
      obtain ⟨k, hk, rfl, ⟨cu, hcu, hcz⟩, hb⟩ := hrel
      have DR := Lib.hid hb
      by_cases hlt : k < n
      · have hki : (k : Int) < (n : Int) := by omega
        have e0 := hcu.cell (k * 4)
        rw [Array.getElem?_eq_getElem (show k * 4 < cu.size by omega)] at e0
        have f0 := hcu.frozen (k * 4)
        have hgl := hcu.lt
        have HC := Lib.hid hcu
        have HZ := Lib.hid hcz
        generalize cu[k * 4] = u at *
        clear hcu hcz hb
        go_wp2_with fail
        go_roundw
        case rel => exact ⟨k + 1, by omega, by go_num, ⟨_, HC.out.set_ (k * 4) (.int .u64 777), by rw [Array.size_setIfInBounds]; exact HZ.out⟩, DR.out.setCell (p := ⟨g, k * 4, none⟩) HG.out _⟩
        case measure => simp [intOf]; omega
      · have hki : ¬ (k : Int) < (n : Int) := by omega
        clear hcu hcz hb
        go_wp2_with fail
        refine (HCA.out wr DR.out).mono ?_
        rintro e W8 ⟨rfl, hb⟩
        have D8 := Lib.hid (DR.out.trans (hb.mono DR.out.size))
        clear hb
        go_wp2_with fail
        refine (HCB.out W8 D8.out).mono ?_
        rintro e W9 ⟨rfl, hb⟩
        have D9 := Lib.hid (D8.out.trans (hb.mono D8.out.size))
        clear hb
        go_wp2_with fail
        refine (works_any W9).mono ?_
        rintro e W10 ⟨rfl, hb⟩
        have D10 := Lib.hid (below_step B4.out (D9.out.trans (hb.mono D9.out.size)))
        clear hb
        go_wp2_with fail
        go_ret
        exact ⟨rfl, D10.out⟩
end Go.Proofs.Ytnnjcabgaefhcaa.lg

/- What was joined is there; joined once more it changes nothing. And the walk of LogJoined. -/
namespace Go.Proofs.Ytnnjcabgaefhcaa.lg
open Go Go.RowKit Go.Sort Go.ChangeShapes Go.WideShapes Go.Proofs.Ytnnjcabgaefhcaa.ib
set_option maxRecDepth 100000

theorem join_cases {l m : List En} {p : Nat} (hp : p ≤ l.length) : (lJoin l p m = l ∧ ∀ i, i < m.length → differ l p m i = false) ∨ ∃ i, i < m.length ∧ (∀ j, j < i → differ l p m j = false) ∧ lJoin l p m = l.take (p + i) ++ m.drop i ∧ p + i ≤ l.length := by
  cases hf : firstD l p m with
  | none =>
    have h : ∀ i, i < m.length → differ l p m i = false := by
      intro i hi
      unfold firstD at hf
      rw [List.find?_eq_none] at hf
      simpa using hf i (List.mem_range.2 hi)
    exact .inl ⟨join_none h, h⟩
  | some i =>
    unfold firstD at hf
    rw [List.find?_range_eq_some] at hf
    obtain ⟨h1, h2, h3⟩ := hf
    have hi : i < m.length := List.mem_range.1 h2
    have h4 : ∀ j, j < i → differ l p m j = false := fun j hj => by simpa using h3 j hj
    exact .inr ⟨i, hi, h4, join_some hp hi h1 h4, differ_room hp h4⟩
theorem joined_len {l m : List En} {p : Nat} (hp : p ≤ l.length) : p + m.length ≤ (lJoin l p m).length := by
  rcases join_cases (m := m) hp with ⟨h, hd⟩ | ⟨i, hi, hd, h, hr⟩
  · rw [h]
    exact differ_room hp hd
  · rw [h, List.length_append, List.length_take, List.length_drop]
    omega
theorem joined_take {l m : List En} {p : Nat} (hp : p ≤ l.length) : (lJoin l p m).take p = l.take p := by
  rcases join_cases (m := m) hp with ⟨h, hd⟩ | ⟨i, hi, hd, h, hr⟩
  · rw [h]
  · rw [h, List.take_append_of_le_length (by rw [List.length_take]; omega), List.take_take, Nat.min_eq_left (by omega)]
theorem differ_term {l m : List En} {p k : Nat} (hk : k < m.length) (h : differ l p m k = false) : ∃ hl : p + k < l.length, l[p + k].t = m[k].t := by
  have hl : p + k < l.length := by
    unfold differ at h
    simp at h
    omega
  refine ⟨hl, ?_⟩
  rw [differ_in hk hl] at h
  simpa using h
theorem joined_term {l m : List En} {p k : Nat} (hp : p ≤ l.length) (hk : k < m.length) : ∃ hl : p + k < (lJoin l p m).length, (lJoin l p m)[p + k].t = m[k].t := by
  have hlen := joined_len (m := m) hp
  refine ⟨by omega, ?_⟩
  rcases join_cases (m := m) hp with ⟨h, hd⟩ | ⟨i, hi, hd, h, hr⟩
  · obtain ⟨h1, h2⟩ := differ_term hk (hd k hk)
    simp only [h]
    exact h2
  · simp only [h]
    by_cases hki : k < i
    · obtain ⟨h1, h2⟩ := differ_term hk (hd k hki)
      rw [List.getElem_append_left (by rw [List.length_take]; omega), List.getElem_take]
      exact h2
    · rw [List.getElem_append_right (by rw [List.length_take]; omega)]
      simp only [List.length_take, List.getElem_drop]
      congr 2
      omega
theorem joined_again {l m : List En} {p : Nat} (hp : p ≤ l.length) (i : Nat) : lJoin (lJoin l p m) p (m.take i) = lJoin l p m := by
  refine join_none fun j hj => ?_
  have hjm : j < m.length := by rw [List.length_take] at hj; omega
  obtain ⟨h1, h2⟩ := joined_term (m := m) hp hjm
  rw [differ_in hj h1, h2]
  simp
theorem joined_once {l m : List En} {p : Nat} (hp : p ≤ l.length) : lJoin (lJoin l p m) p m = lJoin l p m := by
  have := joined_again (m := m) hp m.length
  rwa [List.take_length] at this
theorem joined_end {l m : List En} {p : Nat} (hp : p ≤ l.length) : lJoin l p m = l ∨ (lJoin l p m).length = p + m.length := by
  rcases join_cases (m := m) hp with ⟨h, hd⟩ | ⟨i, hi, hd, h, hr⟩
  · exact .inl h
  · right
    rw [h, List.length_append, List.length_take, List.length_drop]
    omega

def JdRel (n : Nat) (W0 : World) (i : Value) (wr : World) : Prop :=
  ∃ k : Nat, k ≤ n ∧ i = .int .i64 (k : Int) ∧ Below W0.heap.size W0 wr
def JeRel (n : Nat) (W0 : World) (i : Value) (wr : World) : Prop :=
  ∃ k : Nat, k ≤ n + n + 1 ∧ i = .int .i64 (k : Int) ∧ Below W0.heap.size W0 wr
set_option maxHeartbeats 12800000 in
theorem logJoined_walk (A : Option Addr) (c : Nat) (l : List En) (p : Int) (hp : (Lit.int .i64 p).wf = true) (B : Option Addr) (d : Nat) (m : List En) (w : World) (hl : l.length ≤ 9223372036854775807) (hA : EnL w A l c) (hm : m.length ≤ 9223372036854775807) (hB : EnL w B m d) :
    Calls Try.prog 7 #[.slice A l.length c, .int .i64 p, .slice B m.length d] w (endB true w) := by
  have HO := Lib.hid (own_new A c l w hA hl)
  have HO2 := Lib.hid (fun W (h : Below w.heap.size w W) => own_new B d m W (hB.below h) hm)
  have hl4 : (l.take 400).length ≤ 400 := by rw [List.length_take]; omega
  have hm4 : (m.take 400).length ≤ 400 := by rw [List.length_take]; omega
  have hpb : i64B p := bounds_i64 hp
  have HP := Lib.hid hpb
  clear hA hB hl hm hp hpb
  go_enter Try.func7, Try.ntmps7
  go_wp2_with fail
  refine HO.out.mono ?_
  rintro e W1 ⟨A1, c1, rfl, hE, -, hb⟩
  have E1 := Lib.hid hE
  have B1 := Lib.hid hb
  clear hE hb HO
  generalize l.take 400 = x at *
  dsimp only
  go_wp2_with fail
  refine (HO2.out W1 B1.out).mono ?_
  rintro e W2 ⟨A2, c2, rfl, hE, -, hb⟩
  have F2 := Lib.hid hE
  have E2 := Lib.hid (E1.out.below hb)
  have B2 := Lib.hid (below_step B1.out hb)
  clear hE hb HO2
  generalize m.take 400 = y at *
  dsimp only
  have HJ := Lib.hid (join_any A1 A2 c1 c2 x y p W2 E2.out F2.out (by omega) (by omega) HP.out)
  have HRB : Hid (∀ z ∈ lJoin x p y, enB z) := fun z hz => by
    rcases join_mem hz with h | h
    · exact E2.out.b z h
    · exact F2.out.b z h
  have hR8 : (lJoin x p y).length ≤ 800 := join_len hl4 hm4
  go_wp2_with fail
  refine HJ.out.mono ?_
  rintro e W3 ⟨va, rfl, ho, hb⟩
  have E3 := Lib.hid (E2.out.below hb)
  have F3 := Lib.hid (F2.out.below hb)
  have B3 := Lib.hid (below_step B2.out hb)
  obtain ⟨Aa, ca, rfl, hO, -⟩ := ho.view HRB.out
  have R3 := Lib.hid hO
  clear ho hb hO HJ
  by_cases hout : p < 0 ∨ (x.length : Int) < p
  · have HRX := Lib.hid (join_out (more := y) hout)
    rw [HRX.out] at R3 hR8 ⊢
    have hs := same_any Aa A1 ca c1 x x W3 R3.out.ents E3.out.ents (by omega) (by omega)
    rw [decide_eq_true rfl] at hs
    have HS := Lib.hid hs
    have hg : p < 0 ∨ (¬ p < 0 ∧ (x.length : Int) < p) := by omega
    clear hs hout HRB HRX HP
    rcases hg with hg | ⟨hg1, hg⟩
    all_goals
      go_wp2_with fail
      refine HS.out.mono ?_
      rintro e W4 ⟨rfl, hb⟩
      have B4 := Lib.hid (below_step B3.out hb)
      clear hb
      go_wp2_with fail
      refine (works_any W4).mono ?_
      rintro e W9 ⟨rfl, hb⟩
      have B9 := Lib.hid (below_step B4.out hb)
      clear hb
      go_wp2_with fail
      go_ret
      exact ⟨rfl, B9.out⟩
  obtain ⟨pn, rfl⟩ : ∃ n : Nat, p = (n : Int) := ⟨p.toNat, by omega⟩
  have hpl : pn ≤ x.length := by omega
  have h_len := joined_len (m := y) hpl
  have H_TAKE := Lib.hid (joined_take (m := y) hpl)
  have H_TERM := Lib.hid (fun k (hk : k < y.length) => joined_term (m := y) hpl hk)
  have H_AGAIN := Lib.hid (fun i => joined_again (m := y) hpl i)
  have H_ONCE := Lib.hid (joined_once (m := y) hpl)
  have H_END := Lib.hid (joined_end (m := y) hpl)
  generalize lJoin x (pn : Int) y = R at *
  have hg1 : ¬ (pn : Int) < 0 := by omega
  have hg2 : ¬ (x.length : Int) < (pn : Int) := by omega
  have hg3 : ¬ (R.length : Int) < (pn : Int) + (y.length : Int) := by omega
  have hg3' : decide ((R.length : Int) < (pn : Int) + (y.length : Int)) = false := decide_eq_false hg3
  have hac : (pn : Int) ≤ (ca : Int) := by have := R3.out.cap; omega
  have hxc : (pn : Int) ≤ (c1 : Int) := by have := E3.out.cap; omega
  have hw1 : IntKind.i64.wrap ((pn : Int) + (y.length : Int)) = (pn : Int) + (y.length : Int) := IntWalk.i64_in _ (by omega)
  have hxl : pn ≤ x.length := hpl
  clear hout
  have cS : ∀ d os, Calls Try.prog 14 #[.slice Aa pn ca, .slice A1 pn c1] (grow (redrawn W3 d) os) fun e w'' => e = .returned (.bool true) ∧ ∃ p : Regrown, w'' = grow (redrawn W3 p.d) p.os :=
    fun d os => Calls.regrown_of (by
      have hb := below_regrown W3 d os
      have h := same_any Aa A1 ca c1 (R.take pn) (x.take pn) _ (R3.out.ents.below hb |>.take pn) (E3.out.ents.below hb |>.take pn) (by rw [List.length_take]; omega) (by rw [List.length_take]; omega)
      rw [H_TAKE.out, decide_eq_true rfl] at h
      have e1 : (x.take pn).length = pn := by rw [List.length_take]; omega
      rw [e1] at h
      exact h)
  go_wp2_with fail
  refine wp_region_quiet_below rmixed (by kernel_rfl) ?_
  repeat (any_goals (first | go_big_quiet_step (exact cS _ _) | quiet_step (exact cS _ _)))
  refine wpQuiet_nil ?_
  intro _ hw'
  obtain ⟨⟨dq, osq⟩, hw''⟩ := hw'
  subst hw''
  have hb4 := below_regrown W3 dq osq
  obtain ⟨W4, hW4⟩ : ∃ z, grow (redrawn W3 dq) osq = z := ⟨_, rfl⟩
  rw [hW4] at hb4 ⊢
  have E4 := Lib.hid (E3.out.below hb4)
  have F4 := Lib.hid (F3.out.below hb4)
  have R4 := Lib.hid (R3.out.below hb4)
  have B4 := Lib.hid (below_step B3.out hb4)
  clear hW4 hb4 cS H_TAKE hg3'
  go_wp2_with fail
  generalize (decide ((pn : Int) < 0) || decide (x.length < pn)) = z3
  generalize decide ((pn : Int) < 0) = z1
  generalize decide (x.length < pn) = z2
  go_loopw [8] (fun i wr => JdRel y.length W4 i wr) (fun i _ => y.length - (intOf i).toNat)
  case atStart => exact ⟨0, Nat.zero_le _, rfl, Below.refl _ _⟩
  case round =>
    obtain ⟨k, hk, rfl, hb⟩ := hrel
    have DR := Lib.hid hb
    clear hb
    by_cases hlt : k < y.length
    · have hki : (k : Int) < (y.length : Int) := by omega
      obtain ⟨h1, h2⟩ := H_TERM.out k hlt
      obtain ⟨b1, o1, rfl, l1, e0, -⟩ := R4.out.ents.cells DR.out (pn + k) h1
      obtain ⟨b2, o2, rfl, l2, f0, -⟩ := F4.out.ents.cells DR.out k hlt
      rw [h2] at e0
      rw [show pn + k = ((pn : Int) + (k : Int)).toNat by omega] at e0
      have hw2 : IntKind.i64.wrap ((pn : Int) + (k : Int)) = (pn : Int) + (k : Int) := IntWalk.i64_in _ (by omega)
      have h0k : (0 : Int) ≤ (pn : Int) + (k : Int) := by omega
      have hpk : (pn : Int) + (k : Int) < (R.length : Int) := by omega
      generalize (y[k].t : Int) = T at *
      have hTT : (T != T) = false := by simp
      clear h1 h2
      go_wp2_with fail
      go_quiet (fail)
      have DQ := Lib.hid (below_drewN DR.out nq)
      go_wp2_with fail
      go_roundw
      case rel => exact ⟨k + 1, by omega, by go_num, DQ.out⟩
      case measure => simp [intOf]; omega
    · have hki : ¬ (k : Int) < (y.length : Int) := by omega
      obtain ⟨W5, hW5⟩ : ∃ z, z = wr := ⟨_, rfl⟩
      subst hW5
      have E5 := Lib.hid (E4.out.below DR.out)
      have F5 := Lib.hid (F4.out.below DR.out)
      have R5 := Lib.hid (R4.out.below DR.out)
      have B5 := Lib.hid (below_step B4.out DR.out)
      have HFIN : Hid (∀ W, Below W5.heap.size W5 W → Calls Try.prog 21 #[.slice Aa R.length ca, .int .i64 (pn : Int), .slice A2 y.length c2] W (endO R W)) := fun W hb => by
        have h := join_any Aa A2 ca c2 R y pn W (R5.out.below hb) (F5.out.below hb) (by omega) (by omega) HP.out
        rwa [H_ONCE.out] at h
      have HSOME : Hid (∀ W i, i ≤ y.length → Below W5.heap.size W5 W → Calls Try.prog 21 #[.slice Aa R.length ca, .int .i64 (pn : Int), .slice A2 i c2] W (endO R W)) := fun W i hi hb => by
        have h := join_any Aa A2 ca c2 R (y.take i) pn W (R5.out.below hb) ((F5.out.below hb).take i) (by omega) (by rw [List.length_take]; omega) HP.out
        rw [H_AGAIN.out, show (y.take i).length = i by rw [List.length_take]; omega] at h
        exact h
      have HSAME : Hid (∀ W v, OEn W W5.heap.size v R → Below W5.heap.size W5 W → Calls Try.prog 14 #[v, .slice Aa R.length ca] W (endB true W)) := fun W v ho hb => by
        obtain ⟨A', c', rfl, h1, -⟩ := ho.view HRB.out
        have h := same_any A' Aa c' ca R R W h1.ents (R5.out.ents.below hb) (by omega) (by omega)
        rwa [decide_eq_true rfl] at h
      clear hk hlt DR
      go_wp2_with fail
      go_loopw [9] (fun i wr => JeRel y.length W5 i wr) (fun i _ => y.length + 1 - (intOf i).toNat)
      case atStart => exact ⟨0, Nat.zero_le _, rfl, Below.refl _ _⟩
      case round =>
        obtain ⟨i, hi, rfl, hb⟩ := hrel
        have DR := Lib.hid hb
        clear hb
        by_cases hle : i ≤ y.length
        · have hii : (i : Int) ≤ (y.length : Int) := by omega
          have hic : (i : Int) ≤ (c2 : Int) := by have := F5.out.cap; omega
          go_wp2_with fail
          refine (HSOME.out wr i hle DR.out).mono ?_
          rintro e W6 ⟨v6, rfl, ho, hb⟩
          have O6 := Lib.hid (row_base ho DR.out.size)
          have D6 := Lib.hid (below_step DR.out hb)
          clear ho hb
          go_wp2_with fail
          refine (HSAME.out W6 v6 O6.out D6.out).mono ?_
          rintro e W7 ⟨rfl, hb⟩
          have D7 := Lib.hid (below_step D6.out hb)
          clear hb
          go_wp2_with fail
          go_roundw
          case rel => exact ⟨i + 1 + y.length / 8, by omega, by first | go_num | (congr 1; omega), D7.out⟩
          case measure => simp [intOf]; omega
        · have hii : ¬ (i : Int) ≤ (y.length : Int) := by omega
          have E6 := Lib.hid (E5.out.below DR.out)
          have R6 := Lib.hid (R5.out.below DR.out)
          obtain ⟨W6, hW6⟩ : ∃ z, z = wr := ⟨_, rfl⟩
          subst hW6
          have hrc : (R.length : Int) ≤ (c1 : Int) ∨ (x.length : Int) < (R.length : Int) := by have := E6.out.cap; omega
          obtain ⟨ny, hny⟩ : ∃ n, y.length = n := ⟨_, rfl⟩
          rw [hny] at HFIN hm4 H_END hii ⊢
          clear hny
          by_cases hy0 : ny = 0
          · have hyi : ¬ (0 : Int) < (ny : Int) := by omega
            clear hy0
            go_wp2_with fail
            refine (HFIN.out W6 DR.out).mono ?_
            rintro e W8 ⟨v8, rfl, ho, hb⟩
            have O8 := Lib.hid (row_base ho DR.out.size)
            have D8 := Lib.hid (below_step DR.out hb)
            clear ho hb
            go_wp2_with fail
            refine (HSAME.out W8 v8 O8.out D8.out).mono ?_
            rintro e W9 ⟨rfl, hb⟩
            have D9 := Lib.hid (below_step D8.out hb)
            clear hb
            go_wp2_with fail
            refine (works_any W9).mono ?_
            rintro e W10 ⟨rfl, hb⟩
            have B10 := Lib.hid (below_step B5.out (below_step D9.out hb))
            clear hb
            go_wp2_with fail
            go_ret
            exact ⟨rfl, B10.out⟩
          have hyi : (0 : Int) < (ny : Int) := by omega
          clear hy0
          obtain ⟨nr, hnr⟩ : ∃ n, R.length = n := ⟨_, rfl⟩
          rw [hnr] at HFIN HSAME hrc hR8 ⊢
          have HNR := Lib.hid hnr
          clear hnr
          by_cases hgt : (x.length : Int) < (nr : Int)
          · obtain rfl : nr = pn + ny := by
              rcases H_END.out with h | h
              · have := HNR.out
                rw [h] at this
                omega
              · rw [← HNR.out, h]
            clear hrc h_len hg3
            go_wp2_with fail
            refine (HFIN.out W6 DR.out).mono ?_
            rintro e W8 ⟨v8, rfl, ho, hb⟩
            have O8 := Lib.hid (row_base ho DR.out.size)
            have D8 := Lib.hid (below_step DR.out hb)
            clear ho hb
            go_wp2_with fail
            refine (HSAME.out W8 v8 O8.out D8.out).mono ?_
            rintro e W9 ⟨rfl, hb⟩
            have D9 := Lib.hid (below_step D8.out hb)
            clear hb
            go_wp2_with fail
            refine (works_any W9).mono ?_
            rintro e W10 ⟨rfl, hb⟩
            have B10 := Lib.hid (below_step B5.out (below_step D9.out hb))
            clear hb
            go_wp2_with fail
            go_ret
            exact ⟨rfl, B10.out⟩
          · have hrc2 : (nr : Int) ≤ (c1 : Int) := by omega
            have hxr : nr ≤ x.length := by omega
            have hs := same_any Aa A1 ca c1 R (x.take nr) W6 R6.out.ents (E6.out.ents.take _) (by rw [HNR.out]; omega) (by rw [List.length_take]; omega)
            rw [HNR.out, show (x.take nr).length = nr by rw [List.length_take]; omega] at hs
            obtain ⟨q, hq⟩ : ∃ q, decide (R = x.take nr) = q := ⟨_, rfl⟩
            have HEQ : Hid (q = false → nr = pn + ny) := fun hqf => by
              rcases H_END.out with h | h
              · exfalso
                rw [hqf] at hq
                have h2 := of_decide_eq_false hq
                rw [← HNR.out, h, List.take_length] at h2
                exact h2 rfl
              · rw [← HNR.out, h]
            rw [hq] at hs
            have HS := Lib.hid hs
            clear hs hq hrc h_len hg3
            cases q with
            | true =>
              go_wp2_with fail
              refine HS.out.mono ?_
              rintro e W7 ⟨rfl, hb⟩
              have D7 := Lib.hid (below_step DR.out hb)
              clear hb
              go_wp2_with fail
              refine (HFIN.out W7 D7.out).mono ?_
              rintro e W8 ⟨v8, rfl, ho, hb⟩
              have O8 := Lib.hid (row_base ho D7.out.size)
              have D8 := Lib.hid (below_step D7.out hb)
              clear ho hb
              go_wp2_with fail
              refine (HSAME.out W8 v8 O8.out D8.out).mono ?_
              rintro e W9 ⟨rfl, hb⟩
              have D9 := Lib.hid (below_step D8.out hb)
              clear hb
              go_wp2_with fail
              refine (works_any W9).mono ?_
              rintro e W10 ⟨rfl, hb⟩
              have B10 := Lib.hid (below_step B5.out (below_step D9.out hb))
              clear hb
              go_wp2_with fail
              go_ret
              exact ⟨rfl, B10.out⟩
            | false =>
              obtain rfl := HEQ.out rfl
              go_wp2_with fail
              refine HS.out.mono ?_
              rintro e W7 ⟨rfl, hb⟩
              have D7 := Lib.hid (below_step DR.out hb)
              clear hb
              go_wp2_with fail
              refine (HFIN.out W7 D7.out).mono ?_
              rintro e W8 ⟨v8, rfl, ho, hb⟩
              have O8 := Lib.hid (row_base ho D7.out.size)
              have D8 := Lib.hid (below_step D7.out hb)
              clear ho hb
              go_wp2_with fail
              refine (HSAME.out W8 v8 O8.out D8.out).mono ?_
              rintro e W9 ⟨rfl, hb⟩
              have D9 := Lib.hid (below_step D8.out hb)
              clear hb
              go_wp2_with fail
              refine (works_any W9).mono ?_
              rintro e W10 ⟨rfl, hb⟩
              have B10 := Lib.hid (below_step B5.out (below_step D9.out hb))
              clear hb
              go_wp2_with fail
              go_ret
              exact ⟨rfl, B10.out⟩
end Go.Proofs.Ytnnjcabgaefhcaa.lg

/- LogJoined: what was joined is there, behind what was ahead of it; joined once more, or a beginning of it joined, it changes nothing; of all lists and numbers. -/
namespace Go.Proofs.Ytnnjcabgaefhcaa.logJoined
open Go.ChangeShapes Go.WideShapes Go.ChangeAt Go.RowKit
open Go.ChangeMaps (open_string shut_string)
open Go.Proofs.Ytnnjcabgaefhcaa.ib Go.Proofs.Ytnnjcabgaefhcaa.lg

theorem own : ownKnob Try.prog.godebug = none := by kernel_rfl
theorem laidOut : laidOutB Try.prog = true := by kernel_rfl

theorem witness (os : Os) {H : Type} (enc : TypeId × Value → H) :
    (OpenSpec.ofChange Rows.logJoinedSpec).preRow enc Try.prog Try.f7 Rows.logJoinedRow.domain false Rows.logJoinedRow.laid ((World.holding Try.prog os ⟨#[], #[], []⟩).forCall (fun _ _ => 0) ⟨#[], #[.slice none 0 0, .int .i64 0, .slice none 0 0], []⟩).memory #[.slice none 0 0, .int .i64 0, .slice none 0 0] := by
  have hw : (DataW.whole enc Try.prog ((World.holding Try.prog os ⟨#[], #[], []⟩).forCall (fun _ _ => 0) ⟨#[], #[.slice none 0 0, .int .i64 0, .slice none 0 0], []⟩).memory Try.f7.params.toList (OpenSpec.ofChange Rows.logJoinedSpec).vars false (#[.slice none 0 0, .int .i64 0, .slice none 0 0] : Array Value).toList 8).map (fun x => (x.1, x.2.1)) =
      some ([.nil, .lit (.int .i64 0), .nil], []) := by kernel_rfl
  obtain ⟨⟨x1, x2, x3⟩, hx, hx1⟩ := Option.map_eq_some_iff.1 hw
  simp only [Prod.mk.injEq] at hx1
  obtain ⟨rfl, rfl⟩ := hx1
  exact OpenSpec.preRow_of_cond 8 hx (by kernel_rfl) (fun k hk => by cases hk) (by kernel_rfl) (laidMetH_nil _ _)

set_option maxRecDepth 100000 in
set_option maxHeartbeats 1600000 in
theorem lifted (os : Os) (started : os.Started) (H : Type) (enc : TypeId × Value → H) (F : Stop.Interp) :
    ReturnsInHanded {} Try.checked os 7 .any ((OpenSpec.ofChange Rows.logJoinedSpec).preRow enc Try.prog Try.f7 Rows.logJoinedRow.domain false Rows.logJoinedRow.laid) (((OpenSpec.ofChange Rows.logJoinedSpec).at F).post enc Try.prog Try.f7 false true false false) := by
  refine returnsInHanded_of_row (C := Try.checked) (s := OpenSpec.ofChange Rows.logJoinedSpec) own started (by kernel_rfl) Try.func7
    (witness_row_at (enc := enc) (C := Try.checked) false (World.holding Try.prog os ⟨#[], #[], []⟩) #[.slice none 0 0, .int .i64 0, .slice none 0 0] rfl (by kernel_rfl) (by kernel_rfl) (by kernel_rfl) (witness os enc)) ?_
  intro W base args ds gs before hval0 hW _ _ hsz0 hL _ _
  have hval : ∀ (j : Nat) t v, Try.f7.params[j]? = some t → args[j]? = some v → Value.okWide Try.prog W .any base t v := hval0
  have hW' := hW
  obtain ⟨p, q, hA0, hV, rfl, hfz, hnd⟩ := hW
  have hA : DataW.TrodAll enc Try.prog W 0 (fun _ => true) true Try.f7.params.toList args.toList ds p := hA0
  rw [Try.params7] at hA hval
  obtain ⟨v0, vs0, d0, ds0, p0, q0, hargs, rfl, rfl, h0, r0⟩ := trodAll_cons hA
  obtain ⟨v1, vs1, d1, ds1, p1, q1, rfl, rfl, rfl, h1, r1⟩ := trodAll_cons r0
  obtain ⟨v2, vs2, d2, ds2, p2, q2, rfl, rfl, rfl, h2, r2⟩ := trodAll_cons r1
  obtain ⟨rfl, rfl, rfl⟩ := trodAll_nil r2
  obtain rfl : args = #[v0, v1, v2] := by cases args; simp_all
  obtain ⟨rfl, rfl⟩ := trodVars_none hV
  obtain ⟨a0, l0, c0, rfl⟩ := okWide_slice Try.underlying22 (hval 0 22 v0 rfl rfl)
  have k0 := h0
  have lt0 : ∀ x ∈ p0, x.block < W.heap.size := by obtain ⟨m, hm⟩ := k0; exact DataW.trod_lt m _ _ _ hm
  obtain ⟨zs0, hzl0, hl0, hT0⟩ := ents_of k0
  subst hzl0
  obtain ⟨a1, rfl, rfl, rfl, w1⟩ := open_int Try.underlying3 (hval 1 3 v1 rfl rfl) h1
  obtain ⟨a2, l2, c2, rfl⟩ := okWide_slice Try.underlying22 (hval 2 22 v2 rfl rfl)
  have k2 := h2
  have lt2 : ∀ x ∈ p2, x.block < W.heap.size := by obtain ⟨m, hm⟩ := k2; exact DataW.trod_lt m _ _ _ hm
  obtain ⟨zs2, hzl2, hl2, hT2⟩ := ents_of k2
  subst hzl2
  clear hA0 hval0 hsz0
  simp only [List.append_nil] at hW'
  refine (logJoined_walk a0 c0 zs0 a1 w1 a2 c2 zs2 W hl0 hT0 hl2 hT2).mono fun e W' ⟨he, hg⟩ => ?_
  subst he
  exact ⟨_, rfl, _, _, _, [], _, [], hW', trodAll_mk1 (shut_bool Try.underlying4 _), (trodAll_cons_mk (Below.trod laidOut (by kernel_rfl) (of_decide_eq_true (by kernel_rfl)) k0 hg lt0) (trodAll_cons_mk (shut_int Try.underlying3 w1) (trodAll_cons_mk (Below.trod laidOut (by kernel_rfl) (of_decide_eq_true (by kernel_rfl)) k2 hg lt2) trodAll_mk0))), rfl, hg.frame _, fun h => by cases h⟩

theorem over : Rows.LogJoinedSaid :=
  OpenClaim.holds_of_cond 7 Try.f7 rfl rfl rfl rfl rfl rfl rfl ⟨rfl, rfl, rfl, rfl, rfl⟩ rfl rfl rfl rfl rfl (by kernel_rfl) Try.func7 (by kernel_rfl)
    (of_decide_eq_true (by kernel_rfl)) (by unfold Func.isWrapper; first | (rw [if_pos (by decide +kernel)]; kernel_rfl) | (rw [if_neg (by decide +kernel)]; exact ⟨rfl, rfl⟩))
    (fun os started H enc _ F => by rw [OpenClaim.pre_eq_preRow]; exact lifted os started H enc F)

theorem proved : Rows.LogJoinedSaid :=
  over
#print axioms proved
end Go.Proofs.Ytnnjcabgaefhcaa.logJoined


/- JTwiceP, JKnP, JKnC, DkApp2, DkCopy. -/
import Derived.Test.YtjllpbckmioiiaaDoorQ10
import Derived.Test.YtjllpbckmioiiaaDoorQ24
import Derived.Test.YtjllpbckmioiiaaDoorQ4
import Derived.Shelf.SlMaps.Clone
import Derived.Laws.Cover3
/- Three Commits, of which the power goes in the second one: plain data. -/
namespace Go.Proofs.YtjllpbckmioiiaaDoor.jr
open Go Go.RowKit Go.Proofs.YtjllpbckmioiiaaDoor.dk Go.Proofs.YtjllpbckmioiiaaDoor.wi
set_option maxRecDepth 100000

/-- At rest: what the calls on it ask. -/
def Rest (d : DD) : Prop := d.n = 200 ∧ d.more = []
theorem JJ.rest {tgt : Int → Bt} {d : DD} (h : JJ 200 tgt d) : Rest d := ⟨h.n, h.more⟩
theorem RJ.rest {tgt : Int → Bt} {d : DD} (h : RJ 200 tgt d) : Rest d := ⟨h.n, h.more⟩

/-- From the waking on. -/
def Back (t : Int → Bt) (C : List Wr) (d3 : DD) : Prop :=
  Rest d3 ∧ ∃ d4 d5 d6 d7, (jrecover d3 = (0, d4) ∧ Rest d4) ∧ (jrecover d4 = (0, d5) ∧ Rest d5) ∧ (jcommit d5 C = (ansJ 200 C, d6) ∧ Rest d6 ∧ d6.on = true) ∧ (jrecover d6 = (0, d7) ∧ d7.on = true ∧ keptB d7 = KB (aft t C))

theorem back_of {t : Int → Bt} {d3 : DD} (h : RJ 200 t d3) (hf : d3.fuse = 0) (C : List Wr) : Back t C d3 := by
  obtain ⟨d4, a1, a2, a3⟩ := recover_done h hf
  obtain ⟨d5, b1, b2, b3⟩ := recover_done a2.toRJ a3
  obtain ⟨d6, c1, c2, c3⟩ := commit_done b2 b3 C
  obtain ⟨d7, e1, e2, e3⟩ := recover_done c2.toRJ c3
  exact ⟨h.rest, d4, d5, d6, d7, ⟨a1, a2.rest⟩, ⟨b1, b2.rest⟩, ⟨c1, c2.rest, c2.on⟩, ⟨e1, e2.on, kept_is e2⟩⟩

theorem off_wake {t : Int → Bt} {d : DD} (h : JJ 200 t d) (bs : List Bool) : RJ 200 t (d.off.wake bs) ∧ (d.off.wake bs).fuse = 0 := by
  have e : d.off.wake bs = { d.off with base := play d.base (stay d.more bs), more := [], on := true } := rfl
  have hs : play d.base (stay d.more bs) = d.base := by rw [h.more]; cases bs <;> rfl
  rw [e, hs]
  exact ⟨⟨rfl, rfl, h.room, h.rb⟩, rfl⟩

theorem twice_pure {tgt : Int → Bt} {d : DD} (h : JJ 200 tgt d) (L C : List Wr) (f : Int) (h0 : 0 ≤ f) (bs : List Bool) :
    ∃ t, (t = tgt ∨ t = aft tgt L) ∧
      ((∃ r d2, jcommit (d.arm f) L = (r, d2) ∧ d2.on = true ∧ Back t C (d2.off.wake bs)) ∨
       (∃ d2, jcommit (d.arm f) L = (6, d2) ∧ d2.on = false ∧ Back t C (d2.wake bs))) := by
  have ha := h.arm f
  have hfu : 0 ≤ (d.arm f).fuse := by unfold DD.arm; dsimp only; omega
  by_cases hans : ansJ 200 L = 0
  · have e : aft tgt L = over tgt L := by unfold aft; rw [if_pos hans]
    rw [e]
    rcases commit_any (l := L) (by decide) (by decide) ha hfu hans with ⟨g1, g2, _, _⟩ | ⟨g1, ⟨g2, g3⟩, _, g5⟩
    · obtain ⟨k1, k2⟩ := off_wake g2 bs
      exact ⟨over tgt L, .inr rfl, .inl ⟨_, (jcommit (d.arm f) L).2, rfl, g2.on, back_of k1 k2 C⟩⟩
    · have hf2 : ((jcommit (d.arm f) L).2.wake bs).fuse = 0 := by rw [wake_fuse]; exact g5
      rcases g3 bs with k | k
      · exact ⟨tgt, .inl rfl, .inr ⟨(jcommit (d.arm f) L).2, by rw [← g1], g2, back_of k hf2 C⟩⟩
      · exact ⟨over tgt L, .inr rfl, .inr ⟨(jcommit (d.arm f) L).2, by rw [← g1], g2, back_of k hf2 C⟩⟩
  · have := commit_not (l := L) ha.on (.inl (by rw [ha.n]; exact hans))
    obtain ⟨k1, k2⟩ := off_wake ha bs
    exact ⟨tgt, .inl rfl, .inl ⟨_, d.arm f, this, ha.on, back_of k1 k2 C⟩⟩
end Go.Proofs.YtjllpbckmioiiaaDoor.jr

/- The examples' disks, as plain data. -/
namespace Go.Proofs.YtjllpbckmioiiaaDoor.jr
open Go.Proofs.YtjllpbckmioiiaaDoor.dk Go.Proofs.YtjllpbckmioiiaaDoor.wi
set_option maxRecDepth 100000

def la : Bt := rep 97 32
def lb : Bt := rep 98 32
def kA : Wr := (145, la)
def kB : Wr := (145, lb)
def kB6 : Wr := (146, lb)

def kd0 : DD := DD.new 150 150
def kd1 : DD := (jformat kd0).2
def kd2 : DD := (jcommit kd1 [kA]).2
def kd3 : DD := (jcommit kd2 [kB, kB6]).2

theorem kd0_rec : jrecover kd0 = (8, kd0) := by
  unfold jrecover
  rw [if_neg (by decide), show hdOf (rd kd0.now 0) = none by decide +kernel]
theorem kd0_com : jcommit kd0 [kA] = (8, kd0) := by
  unfold jcommit
  rw [if_neg (by decide), if_neg (by decide), if_neg (by decide), if_neg (by decide +kernel), show hdOf (rd kd0.now 0) = none by decide +kernel]
theorem kd1_is : (jformat kd0).1 = 0 := by decide +kernel
theorem kd1_on : kd1.on = true := by decide +kernel
theorem kd1_n : kd1.n = 150 := by decide +kernel
theorem kd1_more : kd1.more.length ≤ 200 := by decide +kernel
theorem kd1_rec : jrecover kd1 = (0, kd1) := by
  unfold jrecover
  rw [if_neg (by rw [kd1_on]; decide), show hdOf (rd kd1.now 0) = some (0, 0) by decide +kernel]
  rfl
theorem kd2_is : (jcommit kd1 [kA]).1 = 0 := by decide +kernel
theorem kd2_n : kd2.n = 150 := by decide +kernel
theorem kd2_more : kd2.more.length ≤ 200 := by decide +kernel
theorem kd3_is : (jcommit kd2 [kB, kB6]).1 = 0 := by decide +kernel
theorem pair_of {x : Int × DD} {r : Int} (h : x.1 = r) : x = (r, x.2) := by
  subst h
  rfl
theorem kd1_com : jformat kd0 = (0, kd1) := by
  unfold kd1
  exact pair_of kd1_is
theorem kd2_com : jcommit kd1 [kA] = (0, kd2) := by
  unfold kd2
  exact pair_of kd2_is
theorem kd3_com : jcommit kd2 [kB, kB6] = (0, kd3) := by
  unfold kd3
  exact pair_of kd3_is
theorem kd3_on : kd3.on = true := by decide +kernel
theorem kd3_n : kd3.n = 150 := by decide +kernel
theorem kd3_more : kd3.more = [] := by decide +kernel
theorem kd3_145 : kd3.read 145 = (lb, 0) := by decide +kernel
theorem kd3_0 : kd3.read 0 = (hdB 0 3, 0) := by decide +kernel
def k73 : Bt := (kd3.read 73).1
theorem kd3_73 : (kd3.read 73).2 = 0 ∧ k73.length = 32 ∧ k73.take 3 ≠ [0, 0, 0] := by decide +kernel

/-! ### What is refused -/
def badL : List (List Wr) := [[(144, la)], [(150, la)], [kA, kB], [(145, [97])], [(0, la)], [(-1, la)]]
theorem bad_ans : badL.all (fun l => decide (ansJ 150 l = 2)) = true := by decide +kernel
theorem bad_com {l : List Wr} (h : l ∈ badL) : jcommit kd3 l = (2, kd3) := by
  have h2 : ansJ 150 l = 2 := of_decide_eq_true (List.all_eq_true.1 bad_ans l h)
  have := commit_not (l := l) kd3_on (.inl (by rw [kd3_n, h2]; decide))
  rw [kd3_n, h2] at this
  exact this

/-! ### Sixty-one writes -/
def manyL (k : Nat) : List Wr := (List.range k).map fun i => (((145 + i : Nat) : Int), rep 99 32)
theorem manyL_succ (k : Nat) : manyL (k + 1) = manyL k ++ [(((145 + k : Nat) : Int), rep 99 32)] := by simp [manyL, List.range_succ]
theorem manyL_len (k : Nat) : (manyL k).length = k := by simp [manyL]
theorem manyL_take (k n : Nat) (h : k ≤ n) : (manyL n).take k = manyL k := by
  unfold manyL
  rw [← List.map_take, List.take_range, Nat.min_eq_left h]
theorem many_ans : ansJ 400 (manyL 61) = 3 ∧ ansJ 400 (manyL 60) = 0 := by decide +kernel

def kb0 : DD := DD.new 400 400
def kb1 : DD := (jformat kb0).2
theorem kb1_is : (jformat kb0).1 = 0 := by decide +kernel
theorem ready_for (N : Nat) (hN : 145 < N) : JJ N (fun _ => zz) (jformat (DD.new N N)).2 := by
  have hn : (DD.new N N).n = N := by simp [DD.n, DD.new]
  have hgs : ∀ s ∈ stepsOf [[((0 : Int), hdB 0 0)]], goodS (DD.new N N).n s := by
    rw [hn]
    refine good_steps fun l hl x hx => ?_
    obtain rfl : l = [(0, hdB 0 0)] := by simpa using hl
    obtain rfl : x = (0, hdB 0 0) := by simpa using hx
    exact ⟨by simp, by simp; omega, (hd_facts (by decide) (by decide)).1⟩
  have e : jformat (DD.new N N) = (0, mk (DD.new N N) (play (List.replicate N none) [(0, hdB 0 0)], []) true 0) := by
    unfold jformat
    rw [if_neg (by simp [DD.new]), if_neg (by rw [hn]; omega), runS_all _ (DD.new N N) rfl (Int.le_refl _) (by rw [hn]; exact Int.le_refl _) hgs (.inl rfl)]
    have : ((DD.new N N).base, (DD.new N N).more) = (List.replicate N none, []) := rfl
    rw [this, apL_steps]
    rfl
  rw [e]
  have hk : ∀ k, 145 ≤ k → rd (play (List.replicate N none) [(0, hdB 0 0)]) k = zz := fun k hk => by
    rw [rd_play_out _ _ _ (fun x hx => by
      obtain rfl : x = (0, hdB 0 0) := by simpa using hx
      dsimp only
      omega)]
    unfold rd
    rw [look_none]
    rfl
  refine ⟨⟨rfl, rfl, by show (N : Int) ≤ N; omega, by show (play _ _).length = N; rw [play_length]; simp, play_all (fun v hv => by simp at hv) (fun x hx => ?_), 0, 0, [], ?_, .inl ⟨rfl, rfl⟩, ?_⟩, hk⟩
  · obtain rfl : x = (0, hdB 0 0) := by simpa using hx
    exact (hd_facts (by decide) (by decide)).1
  · show hdOf (rd (play (List.replicate N none) [(0, hdB 0 0)]) 0) = _
    have : rd (play (List.replicate N none) [(0, hdB 0 0)]) 0 = hdB 0 0 := by
      unfold rd play
      simp only [List.foldl_cons, List.foldl_nil, dk.put]
      have := look_set_same (List.replicate N none) 0 (some (hdB 0 0)) (by simp; omega)
      rw [show ((0 : Int)) = ((0 : Nat) : Int) from rfl, this]
      rfl
    rw [this]
    exact (hd_facts (by decide) (by decide)).2.1
  · exact hk
theorem kb1_com : jformat kb0 = (0, kb1) := by
  unfold kb1
  exact pair_of kb1_is
theorem kb1_j : JJ 400 (fun _ => zz) kb1 := ready_for 400 (by decide)
theorem kb1_n : kb1.n = 400 := kb1_j.rb.1
theorem kb1_fuse : kb1.fuse = 0 := by decide +kernel
theorem kb1_61 : jcommit kb1 (manyL 61) = (3, kb1) := by
  have := commit_not (l := manyL 61) kb1_j.on (.inl (by rw [kb1_n, many_ans.1]; decide))
  rw [kb1_n, many_ans.1] at this
  exact this
theorem kb1_60 : (jcommit kb1 (manyL 60)).1 = 0 := by
  rcases commit_any (l := manyL 60) (by decide) (by decide) kb1_j (by rw [kb1_fuse]; decide) many_ans.2 with ⟨h1, _⟩ | ⟨_, _, h3, _⟩
  · exact h1
  · exact absurd kb1_fuse h3

/-! ### Where the power goes -/
def there (n : Nat) (all : Bool) : Bool := decide (5 < n) || (decide (n = 5) && all)
def recL (t : Bool) : List Wr := if t then [kA] else [kB, kB6]
def jrecC (d : DD) (l : List Wr) : Int × DD :=
  if d.on = false then (99, d) else match hdOf (rd d.now 0) with
    | none => (99, d)
    | some (a, c) => if c ≠ 0 ∧ recSecs d.now a c = secs (recT l) ∧ poss d.n l = true then runS (stepsOf [l]) d else (99, d)
theorem jrecC_is {d : DD} {l : List Wr} {r : Int} {e : DD} (h : jrecC d l = (r, e)) (hr : r ≠ 99) (h8 : (recT l).length ≤ 8192) (ht : takeB (recT l) = some l) : jrecover d = (r, e) := by
  unfold jrecC at h
  unfold jrecover
  by_cases hon : d.on = false
  · rw [if_pos hon] at h
    injection h with h1 h2
    exact absurd h1.symm hr
  rw [if_neg hon] at h ⊢
  cases hh : hdOf (rd d.now 0) with
  | none =>
    rw [hh] at h
    injection h with h1 h2
    exact absurd h1.symm hr
  | some p =>
    obtain ⟨a, c⟩ := p
    rw [hh] at h
    dsimp only at h ⊢
    by_cases hc : c ≠ 0 ∧ recSecs d.now a c = secs (recT l) ∧ poss d.n l = true
    · rw [if_pos hc] at h
      obtain ⟨h1, h2, h3⟩ := hc
      rw [if_neg h1]
      have : recOf d.now a c = some l := by
        unfold recOf
        rw [h2, unB_secs _ h8]
        exact ht
      rw [this]
      dsimp only
      rw [if_neg (by rw [h3]; decide)]
      exact h
    · rw [if_neg hc] at h
      injection h with h1 h2
      exact absurd h1.symm hr

def cOf (n : Nat) : Int × DD := jcommit (kd3.arm (n : Int)) [kA]
def wOf (n : Nat) (all : Bool) : DD := (cOf n).2.off.wake (List.replicate 9 all)
def r1Of (n : Nat) (all : Bool) : Int × DD := jrecC (wOf n all) (recL (there n all))
def r2Of (n : Nat) (all : Bool) : Int × DD := jrecC (r1Of n all).2 (recL (there n all))
def okAt (n : Nat) (all : Bool) : Bool :=
  (((cOf n).1 == 6) == !(cOf n).2.on) && (decide (n ≤ 7) || (cOf n).1 == 0) && decide ((cOf n).2.n = 150) &&
  decide ((wOf n all).n = 150) && decide ((wOf n all).more.length ≤ 200) && (r1Of n all).1 == 0 && decide ((r1Of n all).2.n = 150) && decide ((r1Of n all).2.more.length ≤ 200) && (r2Of n all).1 == 0 &&
  decide ((r2Of n all).2.read 145 = (if there n all then la else lb, 0))
theorem ok_all : (List.range 10).all (fun n => n == 0 || (okAt n true && okAt n false)) = true := by decide +kernel
theorem rec_good : ∀ t, (recT (recL t)).length ≤ 8192 ∧ takeB (recT (recL t)) = some (recL t) := by
  intro t
  cases t <;> decide +kernel

structure Cut (n : Nat) (all : Bool) (c c2 c3 c4 : DD) (e : Int) : Prop where
  com : jcommit (kd3.arm (n : Int)) [kA] = (e, c)
  six : (e == 6) = !c.on
  late : 7 < n → e = 0
  wake : c.off.wake (List.replicate 9 all) = c2
  n2 : c2.n = 150
  m2 : c2.more.length ≤ 200
  rec1 : jrecover c2 = (0, c3)
  n3 : c3.n = 150
  m3 : c3.more.length ≤ 200
  rec2 : jrecover c3 = (0, c4)
  read : c4.read 145 = (if there n all then la else lb, 0)

theorem cut_at (n : Nat) (all : Bool) (h1 : 1 ≤ n) (h9 : n ≤ 9) : ∃ e c c2 c3 c4, Cut n all c c2 c3 c4 e := by
  have h := List.all_eq_true.1 ok_all n (List.mem_range.2 (by omega))
  have hn : (n == 0) = false := by simp; omega
  rw [hn, Bool.false_or, Bool.and_eq_true] at h
  have hk : okAt n all = true := by
    cases all
    · exact h.2
    · exact h.1
  unfold okAt at hk
  simp only [Bool.and_eq_true, Bool.or_eq_true, decide_eq_true_eq, beq_iff_eq] at hk
  obtain ⟨⟨⟨⟨⟨⟨⟨⟨⟨a1, a2⟩, a3⟩, a4⟩, a5⟩, a6⟩, a7⟩, a8⟩, a9⟩, a10⟩ := hk
  refine ⟨(cOf n).1, (cOf n).2, wOf n all, (r1Of n all).2, (r2Of n all).2, rfl, a1, fun h => ?_, rfl, a4, a5, ?_, a7, a8, ?_, a10⟩
  · rcases a2 with h2 | h2
    · omega
    · exact h2
  · have := rec_good (there n all)
    exact jrecC_is (show jrecC _ _ = (0, (r1Of n all).2) from by rw [← a6]; rfl) (by decide) this.1 this.2
  · have := rec_good (there n all)
    exact jrecC_is (show jrecC _ _ = (0, (r2Of n all).2) from by rw [← a9]; rfl) (by decide) this.1 this.2

/-! ### Little room -/
def ks0 : DD := DD.new 200 3
def ks1 : DD := (jformat ks0).2
def ks2 : DD := (jcommit ks1 [kA]).2
def ks3 : DD := ks2.setRoom 4
theorem ks_facts : (jformat ks0).1 = 0 ∧ ks1.n = 200 ∧ ks1.more.length ≤ 200 ∧ (jcommit ks1 [kA]).1 = 7 ∧ ks2.n = 200 ∧ ks3.n = 200 ∧ ks3.more.length ≤ 200 ∧ (jcommit ks3 [kA]).1 = 0 := by decide +kernel
theorem ks1_com : jformat ks0 = (0, ks1) := by
  unfold ks1
  exact pair_of ks_facts.1
theorem ks2_com : jcommit ks1 [kA] = (7, ks2) := by
  unfold ks2
  exact pair_of ks_facts.2.2.2.1
theorem ks3_room : ks2.setRoom 4 = ks3 := by
  unfold ks3
  rfl
theorem ks_n1 : ks1.n = 200 := ks_facts.2.1
theorem ks_m1 : ks1.more.length ≤ 200 := ks_facts.2.2.1
theorem ks_n3 : ks3.n = 200 := ks_facts.2.2.2.2.2.1
theorem ks_m3 : ks3.more.length ≤ 200 := ks_facts.2.2.2.2.2.2.1
theorem ks3_com : jcommit ks3 [kA] = (0, (jcommit ks3 [kA]).2) := pair_of ks_facts.2.2.2.2.2.2.2
theorem kn_fact : (jformat (DD.new 200 0)).1 = 7 := by decide +kernel
theorem kn_com : jformat (DD.new 200 0) = (7, (jformat (DD.new 200 0)).2) := pair_of kn_fact
end Go.Proofs.YtjllpbckmioiiaaDoor.jr

/- Calls of a journal that touch nothing: no disk, no power, no writes, a disk that is too short. -/
namespace Go.Proofs.YtjllpbckmioiiaaDoor.jr
open Go Go.RowKit Go.Proofs.YtjllpbckmioiiaaDoor.dk Go.Proofs.YtjllpbckmioiiaaDoor.wi
set_option maxRecDepth 100000

theorem format_nil (w : World) : Calls Tryd.prog 24 #[.pointer none] w fun e w' => e = .returned (.int .i64 1) ∧ w = w' := by
  go_enter Tryd.func24, Tryd.ntmps24
  go_wp2_with (go_at_call 26; refine (power_nil _).mono ?_; rintro e w' ⟨rfl, rfl⟩)
  go_ret
  exact ⟨rfl, rfl⟩
theorem commit_nil (w : World) : Calls Tryd.prog 8 #[.pointer none, .slice none 0 0] w fun e w' => e = .returned (.int .i64 1) ∧ w = w' := by
  go_enter Tryd.func8, Tryd.ntmps8
  go_wp2_with (go_at_call 26; refine (power_nil _).mono ?_; rintro e w' ⟨rfl, rfl⟩)
  go_ret
  exact ⟨rfl, rfl⟩
theorem recover_nil (w : World) : Calls Tryd.prog 17 #[.pointer none] w fun e w' => e = .returned (.int .i64 1) ∧ w = w' := by
  go_enter Tryd.func17, Tryd.ntmps17
  go_wp2_with (go_at_call 26; refine (power_nil _).mono ?_; rintro e w' ⟨rfl, rfl⟩)
  go_ret
  exact ⟨rfl, rfl⟩

section
variable {most : Nat} {w : World} {B p : Nat} {d : DD}

theorem power_in (h : In most w B p d) : Calls Tryd.prog 26 #[.pointer (some ⟨p, 0, none⟩)] w fun e w' => e = .returned (.int .i64 (if d.on then 0 else 6)) ∧ w = w' := by
  obtain ⟨own, hd, _⟩ := h
  exact power_any hd

theorem format_off (h : In most w B p d) (hon : d.on = false) : Calls Tryd.prog 24 #[.pointer (some ⟨p, 0, none⟩)] w fun e w' => e = .returned (.int .i64 6) ∧ w = w' := by
  have HP := Lib.hid (power_in h)
  rw [hon] at HP
  clear h
  go_enter Tryd.func24, Tryd.ntmps24
  go_wp2_with (go_at_call 26; refine HP.out.mono ?_; rintro e w' ⟨rfl, rfl⟩)
  go_ret
  exact ⟨rfl, rfl⟩
theorem recover_off (h : In most w B p d) (hon : d.on = false) : Calls Tryd.prog 17 #[.pointer (some ⟨p, 0, none⟩)] w fun e w' => e = .returned (.int .i64 6) ∧ w = w' := by
  have HP := Lib.hid (power_in h)
  rw [hon] at HP
  clear h
  go_enter Tryd.func17, Tryd.ntmps17
  go_wp2_with (go_at_call 26; refine HP.out.mono ?_; rintro e w' ⟨rfl, rfl⟩)
  go_ret
  exact ⟨rfl, rfl⟩
theorem commit_off (h : In most w B p d) (hon : d.on = false) : Calls Tryd.prog 8 #[.pointer (some ⟨p, 0, none⟩), .slice none 0 0] w fun e w' => e = .returned (.int .i64 6) ∧ w = w' := by
  have HP := Lib.hid (power_in h)
  rw [hon] at HP
  clear h
  go_enter Tryd.func8, Tryd.ntmps8
  go_wp2_with (go_at_call 26; refine HP.out.mono ?_; rintro e w' ⟨rfl, rfl⟩)
  go_ret
  exact ⟨rfl, rfl⟩
theorem commit_none (h : In most w B p d) (hon : d.on = true) : Calls Tryd.prog 8 #[.pointer (some ⟨p, 0, none⟩), .slice none 0 0] w fun e w' => e = .returned (.int .i64 0) ∧ w = w' := by
  have HP := Lib.hid (power_in h)
  rw [hon] at HP
  clear h
  go_enter Tryd.func8, Tryd.ntmps8
  go_wp2_with (go_at_call 26; refine HP.out.mono ?_; rintro e w' ⟨rfl, rfl⟩)
  go_ret
  exact ⟨rfl, rfl⟩
theorem format_short (h : In most w B p d) (hon : d.on = true) (hn : d.n ≤ 145) : Calls Tryd.prog 24 #[.pointer (some ⟨p, 0, none⟩)] w fun e w' => e = .returned (.int .i64 2) ∧ w = w' := by
  have HP := Lib.hid (power_in h)
  rw [hon] at HP
  obtain ⟨own, ⟨h0, m, v, hd⟩, ho⟩ := h
  have HL := Lib.hid (len_any hd)
  have hn' : (d.n : Int) ≤ 145 := by omega
  clear h0 hd ho
  go_enter Tryd.func24, Tryd.ntmps24
  go_wp2_with (first | (go_at_call 26; refine HP.out.mono ?_; rintro e w' ⟨rfl, rfl⟩) | (go_at_call 19; refine HL.out.mono ?_; rintro e w' ⟨rfl, rfl⟩))
  go_ret
  exact ⟨rfl, rfl⟩

theorem format_in (HW : HeadW) (h : In 400 w B p d) (hB : B ≤ w.heap.size) (hm : d.more.length ≤ 200) (r : Int) (d' : DD) (h1 : jformat d = (r, d')) :
    Calls Tryd.prog 24 #[.pointer (some ⟨p, 0, none⟩)] w (InPost 400 B p d' (.int .i64 r) w) := by
  obtain ⟨own, hd, ho⟩ := h
  have := format_any HW hd (by omega) (by decide)
  rw [h1] at this
  exact this.mono fun _ _ h => in_of_post hB ho h
end

theorem format_g {w : World} {G : Nat → Prop} {p : Nat} {d : DD} (HW : HeadW) (h : InG 400 w G p d) (hG : ∀ k, w.heap.size ≤ k → G k) (hm : d.more.length ≤ 200) (r : Int) (d' : DD) (h1 : jformat d = (r, d')) :
    Calls Tryd.prog 24 #[.pointer (some ⟨p, 0, none⟩)] w (PostG 400 G p d' (.int .i64 r) w) := by
  obtain ⟨own, hd, ho⟩ := h
  have := format_any HW hd (by omega) (by decide)
  rw [h1] at this
  exact this.mono fun _ _ h => g_of_post hG ho h

theorem In.off_g {most : Nat} {w : World} {G : Nat → Prop} {p : Nat} {d : DD} (h : InG most w G p d) : In most w 0 p d := by
  obtain ⟨own, hd, _⟩ := h
  exact ⟨own, hd, fun _ _ => Nat.zero_le _⟩
end Go.Proofs.YtjllpbckmioiiaaDoor.jr

/- append of a whole slice, as an operation. -/
namespace Go.Proofs.YtjllpbckmioiiaaDoor.dk
open Go Go.RowKit

theorem exec_append2 {P : Program} {ρ : Operand → Value} {o : Oper} {w w' : World} {vx vy v' : Value} {t : TypeId} (x y : Operand) (ho : o.op = .call { callee := .builtin .append, args := #[x, y], argTypes := #[t, t] }) (ht : o.type = t) (hx : ρ x = vx) (hy : ρ y = vy)
    (hrun : (Builtin.append_ #[t, t] t #[vx, vy]).run P w = .ok v' w') : (execOp ρ o).run P w = .ok (.value v') w' := by
  simp [execOp, ho, resolve, invoke, builtin, hx, hy, ht, hrun, Result.andThen]

end Go.Proofs.YtjllpbckmioiiaaDoor.dk

/- What Copy of package disk does. -/
namespace Go.Proofs.YtjllpbckmioiiaaDoor.dk
open Go Go.RowKit
set_option maxRecDepth 100000

theorem MapIs.twin {w w' : World} {m n : Nat} {s : Sects} (h : MapIs w m s) : ∃ es clock, w.heap[m]? = some (.map es clock) ∧ ∀ (w' : World) (n : Nat), w'.heap[n]? = some (.map es clock) → MapIs w' n s := by
  obtain ⟨D, ⟨es, clock, h1, h2⟩, h3⟩ := h
  exact ⟨es, clock, h1, fun w' n hn => ⟨D, ⟨es, clock, hn, h2⟩, h3⟩⟩

theorem mclone_any (b : Nat) (es : Array MapEntry) (clock : Nat) (w : World) (hb : w.heap[b]? = some (.map es clock)) :
    Calls Tryd.prog 37 #[.map (some b)] w fun e w' => e = .returned (.map (some w.heap.size)) ∧ w' = w.alloc (.map es clock) := by
  have hq := fun w => run_eql_map_nil_sl (P := Tryd.prog) w 71 _ _ (some b) Tryd.underlying71
  go_enter Tryd.func37, Tryd.ntmps37
  go_wp2
  rw [run_callFunc_extern Tryd.func57 (by kernel_rfl) (by kernel_rfl) (by kernel_rfl) (e := Extern.MapsClone.clone) (by kernel_rfl), run_maps_clone_sl w 71 hb]
  simp only [Result.andThen]
  rw [Oper.upon_value]
  go_wp2
  rw [run_typeAssert_map_sl _ 71 _ _ _ _ Tryd.underlying71]
  simp only [Result.andThen]
  rw [Oper.upon_value]
  go_wp2
  go_ret
  exact ⟨rfl, rfl⟩

theorem exec_zero70 {ρ : Operand → Value} {o : Oper} {w : World} (ho : o.op = .buildSlice 72 0 #[]) :
    (execOp ρ o).run Tryd.prog w = .ok (.value (.slice (some ⟨w.heap.size, 0, none⟩) 0 0)) (w.alloc (.cells #[] 80)) := by
  unfold execOp
  rw [ho]
  go_simp

theorem eql_nil (w : World) (a : Option Addr) (n c : Nat) : (binOp .eql 72 (.slice a n c) (.slice none 0 0)).run Tryd.prog w = .ok (.bool a.isNone) w := by
  simp only [binOp]
  simp [run_equal_slice_nil _ _ _ _ _ _ Tryd.underlying72]

def SClonePost (n : Nat) (xs : List Value) (w : World) (e : Ending) (w' : World) : Prop := ∃ v', e = .returned v' ∧ w'.ownsRow w.heap.size 80 66 v' n xs ∧ Below w.heap.size w w'

set_option maxRecDepth 100000 in
theorem sclone_any (w : World) (v : Value) (n : Nat) (xs : List Value) (h : w.ownsRow 0 80 66 v n xs) (h1 : ∀ u ∈ xs, u.oneCell' = true) (hn : n ≤ 100000) :
    Calls Tryd.prog 38 #[v] w (SClonePost n xs w) := by
  have hown := h
  rcases h.2 with ⟨rfl, h0⟩ | ⟨g, cap, cur, rfl, hg, hh, hc, hm, hcs, hcur⟩
  · subst h0
    have hx : xs = [] := by have := h.1; simpa using this
    subst hx
    have hq := fun w => eql_nil w none 0 0
    clear hown h
    go_enter Tryd.func38, Tryd.ntmps38
    go_wp2_with fail
    go_ret
    exact ⟨_, rfl, World.ownsRow_nil _ _ _ _, Below.refl _ _⟩
  · obtain ⟨i0, hi, hz0, hz1, hz2⟩ := info_parts info70
    have hcell : ∀ (j : Nat) (u : Value), xs[j]? = some u → (w.alloc (.cells #[] 80)).cell? ((⟨g, 0, none⟩ : Addr).add j) = some u := by
      intro j u hu
      rw [addr_add, Nat.zero_add]
      have hj : j < xs.length := (List.getElem?_eq_some_iff.1 hu).1
      have := World.ownsRow.cellAt hown j (by rw [← hown.1]; exact hj)
      rw [World.cell?_of_block (a := ⟨g, j, none⟩) (Below.heap_alloc w _ g (Array.getElem?_eq_some_iff.1 hh).1), this]
      exact hu
    obtain ⟨v', w', hrun, h2, h3, _⟩ := run_append_own (P := Tryd.prog) (w.alloc (.cells #[] 80)) w.heap.size 72 72 80 i0 _ 66 80 Tryd.underlying72 hi hz0 hz1 hz2 (by simp [Value.cells, wrCells_len, zz_length]) (by decide) (.slice (some ⟨w.heap.size, 0, none⟩) 0 0) 0 [] (World.ownsRow_made w #[] 0 (Nat.le_refl _) (by decide) rfl) ⟨g, 0, none⟩ n cap xs h.1 hcell h1 (by unfold maxLen; omega) (by omega) (by simp)
    rw [Nat.zero_add, List.nil_append] at h2
    have HR := Lib.hid hrun
    have H2 := Lib.hid h2
    have H3 := Lib.hid h3
    clear hown h hcell h1 hrun h2 h3 hi hz0 hz1 hz2 hcs hcur hh
    have hq := fun w => eql_nil w (some ⟨g, 0, none⟩) n cap
    go_enter Tryd.func38, Tryd.ntmps38
    go_wp2_with (first | (refine wpList_value rfl (exec_zero70 rfl) ?_) | (refine wpList_value rfl (exec_append2 (.tmp 5) (.tmp 6) rfl rfl rfl rfl HR.out) ?_))
    go_ret
    refine ⟨_, rfl, H2.out, ?_⟩
    have hb : Below w.heap.size w (w.alloc (.cells #[] 80)) := (Below.refl _ _).alloc (Nat.le_refl _) _
    exact hb.grown H3.out hb.size (fun k hk => by simp [Value.ownBlock] at hk; omega)
end Go.Proofs.YtjllpbckmioiiaaDoor.dk


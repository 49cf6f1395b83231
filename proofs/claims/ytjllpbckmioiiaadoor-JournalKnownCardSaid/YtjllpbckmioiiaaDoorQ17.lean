/- JSafe2. -/
import Derived.Test.YtjllpbckmioiiaaDoorQ16
/- What a Commit makes of a journal at rest, wherever the power goes. Plain data. -/
namespace Go.Proofs.YtjllpbckmioiiaaDoor.jr
open Go.Proofs.YtjllpbckmioiiaaDoor.dk Go.Proofs.YtjllpbckmioiiaaDoor.wi
set_option maxRecDepth 100000

/-- What is said behind some writes. -/
def over : (Int → Bt) → List Wr → Int → Bt
  | t, [] => t
  | t, x :: r => over (fun k => if k = x.1 then x.2 else t k) r

theorem over_congr : ∀ (l : List Wr) (t u : Int → Bt), (∀ k, 145 ≤ k → t k = u k) → ∀ k, 145 ≤ k → over t l k = over u l k
  | [], _, _, h => h
  | x :: l, t, u, h => over_congr l _ _ fun k hk => by
    split
    · rfl
    · exact h k hk

theorem rd_play : ∀ (l : List Wr) (b : Sects), (∀ x ∈ l, 0 ≤ x.1 ∧ x.1 < (b.length : Int)) → ∀ k, rd (play b (nat l)) k = over (rd b) l k
  | [], _, _, _ => rfl
  | x :: l, b, h, k => by
    obtain ⟨h0, h1⟩ := h x (by simp)
    have ih := rd_play l (dk.put b x.1.toNat x.2) (fun y hy => by rw [dk.put, List.length_set]; exact h y (by simp [hy])) k
    have e : play b (nat (x :: l)) = play (dk.put b x.1.toNat x.2) (nat l) := rfl
    rw [e, ih]
    have e2 : rd (dk.put b x.1.toNat x.2) = fun k => if k = x.1 then x.2 else rd b k := by
      funext j
      obtain ⟨n, hn⟩ := Int.eq_ofNat_of_zero_le h0
      unfold rd dk.put
      by_cases hj : j = x.1
      · rw [if_pos hj, hj, hn, Int.toNat_natCast, look_set_same _ _ _ (by omega)]
        rfl
      · rw [if_neg hj, look_set_other _ _ _ _ (by omega)]
    rw [e2]
    rfl

/-! ### How long a record is -/
theorem numB_small (n : Nat) (h : n < 65536) : (numB n).length ≤ 3 := by
  have e : digs n = digsF 2 n := by
    unfold digs
    rw [digsF_more 7 n (by omega), digsF_more 6 n (by omega), digsF_more 5 n (by omega), digsF_more 4 n (by omega), digsF_more 3 n (by omega), digsF_more 2 n (by omega)]
  have := digsF_len 2 n
  simp [numB, e]
  omega

theorem wB_small (x : Wr) (h : x.2.length = 32) (h0 : x.1 < 65536) : (wB x).length ≤ 37 := by
  have h1 := numB_small x.1.toNat (by omega)
  have h2 : (numB 32).length = 2 := by decide
  simp only [wB, textB, List.length_append, h, h2]
  omega

theorem recT_small (l : List Wr) (h60 : l.length ≤ 60) (h : ∀ x ∈ l, x.1 < 65536 ∧ x.2.length = 32) : (recT l).length ≤ 2223 := by
  have key : ∀ l : List Wr, (∀ x ∈ l, x.1 < 65536 ∧ x.2.length = 32) → ((l.map wB).flatten).length ≤ 37 * l.length := by
    intro l
    induction l with
    | nil => intro _; simp
    | cons x l ih =>
      intro h
      have := wB_small x (h x (by simp)).2 (h x (by simp)).1
      have := ih (fun y hy => h y (by simp [hy]))
      simp only [List.map_cons, List.flatten_cons, List.length_append, List.length_cons]
      omega
  have h1 := key l h
  have h2 := numB_small l.length (by omega)
  simp only [recT, List.length_append]
  omega

theorem secs_small (l : List Wr) (h60 : l.length ≤ 60) (h : ∀ x ∈ l, x.1 < 65536 ∧ x.2.length = 32) : 1 ≤ (secs (recT l)).length ∧ (secs (recT l)).length ≤ 72 := by
  have := recT_small l h60 h
  have := nsec_pos (recT l).length
  rw [secs_length]
  refine ⟨this, ?_⟩
  unfold nsec
  omega

/-! ### Where a record is laid -/
theorem layAt_mem : ∀ (ss : List Bt) (o : Nat) (x : Wr), x ∈ layAt o ss → ∃ i, i < ss.length ∧ x.1 = ((o + i : Nat) : Int) ∧ ss[i]? = some x.2
  | [], _, _, h => by cases h
  | s :: r, o, x, h => by
    rcases List.mem_cons.1 h with rfl | h
    · exact ⟨0, by simp, by simp, rfl⟩
    · obtain ⟨i, h1, h2, h3⟩ := layAt_mem r (o + 1) x h
      exact ⟨i + 1, by simpa using h1, by rw [h2]; omega, by simpa using h3⟩

theorem layAt_look : ∀ (ss : List Bt) (o : Nat) (b : Sects), o + ss.length ≤ b.length → ∀ i (h : i < ss.length), dk.look (play b (nat (layAt o ss))) ((o + i : Nat) : Int) = some ss[i]
  | [], _, _, _, i, h => absurd h (by simp)
  | s :: r, o, b, hb, i, h => by
    simp only [List.length_cons] at hb h
    have e : play b (nat (layAt o (s :: r))) = play (dk.put b o s) (nat (layAt (o + 1) r)) := by
      show play (dk.put b (o : Int).toNat s) _ = _
      rw [Int.toNat_natCast]
      rfl
    rw [e]
    cases i with
    | zero =>
      rw [play_look_out _ _ _ (fun x hx => ?_)]
      · unfold dk.put
        rw [Nat.add_zero, look_set_same _ _ _ (by omega)]
        rfl
      · obtain ⟨y, hy, rfl⟩ := mem_nat hx
        obtain ⟨i, _, h2, _⟩ := layAt_mem r (o + 1) y hy
        dsimp only
        omega
    | succ i =>
      have := layAt_look r (o + 1) (dk.put b o s) (by rw [dk.put, List.length_set]; omega) i (by omega)
      rw [show o + (i + 1) = o + 1 + i from by omega, this]
      rfl

theorem layAt_length : ∀ (ss : List Bt) (o : Nat), (layAt o ss).length = ss.length
  | [], _ => rfl
  | s :: r, o => by simp [layAt, layAt_length r]

theorem layAt_snoc : ∀ (ss : List Bt) (o : Nat) (s : Bt), layAt o (ss ++ [s]) = layAt o ss ++ [(((o + ss.length : Nat) : Int), s)]
  | [], o, s => by simp [layAt]
  | t :: r, o, s => by
    have := layAt_snoc r (o + 1) s
    simp only [List.cons_append, layAt, this, List.length_cons]
    rw [show o + 1 + r.length = o + (r.length + 1) from by omega]

/-! ### What fits -/
theorem fresh_ok (s : Sects) : ∀ (l acc : List Int), acc.Nodup → (∀ x ∈ acc, 0 ≤ x ∧ x < (s.length : Int) ∧ (dk.look s x).isSome = false) → (∀ x ∈ l, 0 ≤ x ∧ x < (s.length : Int)) →
    (fresh s acc l).Nodup ∧ ∀ x ∈ fresh s acc l, 0 ≤ x ∧ x < (s.length : Int) ∧ (dk.look s x).isSome = false
  | [], acc, h1, h2, _ => ⟨h1, h2⟩
  | x :: r, acc, h1, h2, h3 => by
    unfold fresh
    split
    · exact fresh_ok s r acc h1 h2 (fun y hy => h3 y (by simp [hy]))
    · rename_i hn
      simp only [Bool.or_eq_true, not_or, List.contains_iff_mem] at hn
      refine fresh_ok s r (acc ++ [x]) ?_ (fun y hy => ?_) (fun y hy => h3 y (by simp [hy]))
      · rw [List.nodup_append]
        refine ⟨h1, by simp, fun a ha b hb => ?_⟩
        obtain rfl : b = x := by simpa using hb
        rintro rfl
        exact hn.2 ha
      · rcases List.mem_append.1 hy with hy | hy
        · exact h2 y hy
        · obtain rfl : y = x := by simpa using hy
          have := h3 y (by simp)
          exact ⟨this.1, this.2, by simpa using hn.1⟩

theorem cnt_nodup : ∀ (acc : List Int) (s : Sects), acc.Nodup → (∀ x ∈ acc, 0 ≤ x ∧ x < (s.length : Int) ∧ (dk.look s x).isSome = false) → cnt s + acc.length ≤ s.length
  | [], s, _, _ => cnt_le s
  | x :: r, s, h1, h2 => by
    obtain ⟨g0, g1, g2⟩ := h2 x (by simp)
    obtain ⟨n, rfl⟩ := Int.eq_ofNat_of_zero_le g0
    rw [List.nodup_cons] at h1
    have hc := cnt_set_some s n [] (by omega)
    rw [g2] at hc
    simp only [Bool.false_eq_true, if_false] at hc
    have ih := cnt_nodup r (s.set n (some [])) h1.2 (fun y hy => by
      obtain ⟨k0, k1, k2⟩ := h2 y (by simp [hy])
      refine ⟨k0, by rw [List.length_set]; exact k1, ?_⟩
      rw [look_set_other _ _ _ _ (fun e => h1.1 (by rw [← e]; exact hy))]
      exact k2)
    rw [List.length_set, hc] at ih
    simp only [List.length_cons]
    omega

theorem fits_room (d : DD) (l : List Int) (hr : (d.n : Int) ≤ d.room) (hl : ∀ x ∈ l, 0 ≤ x ∧ x < (d.n : Int)) : d.fits l = true := by
  have hn := d.now_length
  obtain ⟨h1, h2⟩ := fresh_ok d.now l [] List.nodup_nil (by simp) (fun x hx => by rw [hn]; exact hl x hx)
  have h3 := cnt_nodup _ _ h1 h2
  unfold DD.fits DD.used
  rw [Bool.and_eq_true, Bool.or_eq_true]
  refine ⟨List.all_eq_true.2 fun x hx => ?_, .inr ?_⟩
  · have := hl x hx
    simp [DD.has, this.1, this.2]
  · rw [decide_eq_true_eq]
    rw [hn] at h3
    omega

/-! ### Commit -/
def ansJ (N : Nat) (l : List Wr) : Int := if l.length = 0 then 0 else if 60 < l.length then 3 else if poss N l = false then 2 else 0

theorem ansJ_zero {N : Nat} {l : List Wr} (h : ansJ N l = 0) (h0 : l.length ≠ 0) : l.length ≤ 60 ∧ poss N l = true := by
  unfold ansJ at h
  rw [if_neg h0] at h
  by_cases h1 : 60 < l.length
  · rw [if_pos h1] at h; cases h
  · rw [if_neg h1] at h
    by_cases h2 : poss N l = false
    · rw [if_pos h2] at h; cases h
    · exact ⟨by omega, by simpa using h2⟩

theorem commit_not {d : DD} {l : List Wr} (hon : d.on = true) (h : ansJ d.n l ≠ 0 ∨ l.length = 0) : jcommit d l = (ansJ d.n l, d) := by
  unfold jcommit
  rw [if_neg (by rw [hon]; simp)]
  by_cases h0 : l.length = 0
  · rw [if_pos h0]
    unfold ansJ
    rw [if_pos h0]
  · rw [if_neg h0]
    rcases h with h | h
    · unfold ansJ at h ⊢
      rw [if_neg h0] at h ⊢
      by_cases h1 : 60 < l.length
      · rw [if_pos h1, if_pos h1]
      · rw [if_neg h1] at h
        rw [if_neg h1, if_neg h1]
        by_cases h2 : poss d.n l = false
        · rw [if_pos h2, if_pos h2]
        · rw [if_neg h2] at h
          exact absurd rfl h
    · exact absurd h h0

section
variable {N : Nat} {tgt : Int → Bt} {b : Sects} {l : List Wr}

/-- Behind the head's flush: the record is there. -/
theorem laid_rb (hN : 145 < N) (hN2 : N ≤ 1024) (h1 : b.length = N) (h2 : ∀ v, some v ∈ b → v.length = 32) (a : Nat) (ha : a < 2) (h60 : l.length ≤ 60) (h0 : 1 ≤ l.length) (hp : poss N l = true) :
    ∃ b2, b2 = play b (nat (lay (1 - a) (secs (recT l)) ++ [(0, hdB (1 - a) (secs (recT l)).length)])) ∧ b2.length = N ∧ (∀ v, some v ∈ b2 → v.length = 32) ∧
      hdOf (rd b2 0) = some (1 - a, (secs (recT l)).length) ∧ RecGood N b2 (1 - a) (secs (recT l)).length l ∧ ∀ k, 145 ≤ k → rd (play b2 (nat l)) k = over (rd b) l k := by
  have hall := poss_all hp
  have hsm : ∀ x ∈ l, x.1 < 65536 ∧ x.2.length = 32 := fun x hx => by have := hall x hx; exact ⟨by omega, this.2.2⟩
  obtain ⟨s1, s72⟩ := secs_small l h60 hsm
  have hrec := recT_small l h60 hsm
  obtain ⟨f1, f2, _⟩ := hd_facts (show 1 - a < 2 by omega) s72
  have hlay : ∀ x ∈ nat (lay (1 - a) (secs (recT l))), ∃ i, i < (secs (recT l)).length ∧ x.1 = 1 + (1 - a) * 72 + i ∧ x.2.length = 32 := by
    intro x hx
    obtain ⟨y, hy, rfl⟩ := mem_nat hx
    obtain ⟨i, g1, g2, g3⟩ := layAt_mem _ _ _ hy
    refine ⟨i, g1, by dsimp only; omega, ?_⟩
    have := secs_each (recT l) i g1
    rw [List.getElem?_eq_getElem g1] at g3
    injection g3 with g3
    rw [← g3]
    exact this
  have e : nat (lay (1 - a) (secs (recT l)) ++ [(0, hdB (1 - a) (secs (recT l)).length)]) = nat (lay (1 - a) (secs (recT l))) ++ [(0, hdB (1 - a) (secs (recT l)).length)] := by simp [nat]
  have hlow : ∀ x ∈ nat (lay (1 - a) (secs (recT l)) ++ [(0, hdB (1 - a) (secs (recT l)).length)]), x.1 < 145 ∧ x.2.length = 32 := by
    rw [e]
    intro x hx
    rcases List.mem_append.1 hx with hx | hx
    · obtain ⟨i, g1, g2, g3⟩ := hlay x hx
      have : (1 - a) * 72 ≤ 72 := by omega
      exact ⟨by omega, g3⟩
    · obtain rfl : x = _ := by simpa using hx
      exact ⟨by dsimp only; omega, f1⟩
  have hlen : (play b (nat (lay (1 - a) (secs (recT l))))).length = N := by rw [play_length]; exact h1
  have hb2 : (play b (nat (lay (1 - a) (secs (recT l)) ++ [(0, hdB (1 - a) (secs (recT l)).length)]))).length = N := by rw [play_length]; exact h1
  refine ⟨_, rfl, hb2, play_all h2 (fun x hx => (hlow x hx).2), ?_, .inr ⟨by omega, ?_, hp⟩, fun k hk => ?_⟩
  · rw [e, play_snoc]
    unfold rd dk.put
    rw [show ((0 : Int)) = ((0 : Nat) : Int) from rfl, look_set_same _ _ _ (by omega)]
    exact f2
  · have hs : recSecs (play b (nat (lay (1 - a) (secs (recT l)) ++ [(0, hdB (1 - a) (secs (recT l)).length)]))) (1 - a) (secs (recT l)).length = secs (recT l) := by
      refine List.ext_getElem (by simp [recSecs]) fun i g1 g2 => ?_
      simp only [recSecs, List.getElem_map, List.getElem_range]
      rw [e, play_snoc]
      unfold rd dk.put
      rw [look_set_other _ _ _ _ (by omega)]
      have := layAt_look (secs (recT l)) (1 + (1 - a) * 72) b (by have : (1 - a) * 72 ≤ 72 := by omega
                                                                  omega) i g2
      unfold lay
      rw [this]
      rfl
    unfold recOf
    rw [hs, unB_secs _ (by omega)]
    exact takeB_put l h0 h60 (fun x hx => by have := hall x hx; exact ⟨by omega, by omega, this.2.2⟩)
  · rw [rd_play l _ (fun x hx => by have := hall x hx; rw [hb2]; exact ⟨by omega, this.2.1⟩)]
    exact over_congr l _ _ (fun j hj => rd_play_out _ _ _ fun x hx => by have := (hlow x hx).1; omega) k hk

theorem commit_any {d : DD} (hN : 145 < N) (hN2 : N ≤ 1024) (h : JJ N tgt d) (hf : 0 ≤ d.fuse) (hans : ansJ N l = 0) :
    ((jcommit d l).1 = 0 ∧ JJ N (over tgt l) (jcommit d l).2 ∧ (d.fuse = 0 → (jcommit d l).2.fuse = 0) ∧ 0 ≤ (jcommit d l).2.fuse) ∨
    ((jcommit d l).1 = 6 ∧ Gone (fun e => RJ N tgt e ∨ RJ N (over tgt l) e) (jcommit d l).2 ∧ d.fuse ≠ 0 ∧ (jcommit d l).2.fuse = 0) := by
  have hJ := h
  obtain ⟨⟨hon, hmo, hro, h1, h2, a, c, l0, hh, hg, ht⟩, his⟩ := h
  have hnow : d.now = d.base := by unfold DD.now; rw [hmo]; rfl
  have hn : d.n = N := h1
  by_cases h0 : l.length = 0
  · left
    have e := commit_not (l := l) hon (.inr h0)
    rw [hn, hans] at e
    rw [e]
    obtain rfl : l = [] := List.length_eq_zero_iff.1 h0
    exact ⟨rfl, hJ, fun h => h, hf⟩
  obtain ⟨h60, hp⟩ := ansJ_zero hans h0
  have hall := poss_all hp
  have hsm : ∀ x ∈ l, x.1 < 65536 ∧ x.2.length = 32 := fun x hx => by have := hall x hx; exact ⟨by omega, this.2.2⟩
  obtain ⟨s1, s72⟩ := secs_small l h60 hsm
  have hrec := recT_small l h60 hsm
  obtain ⟨ha, hc, _⟩ := hdOf_some hh
  obtain ⟨f1, _, _⟩ := hd_facts (show 1 - a < 2 by omega) s72
  obtain ⟨b2, e2, q1, q2, q3, q4, q5⟩ := laid_rb hN hN2 h1 h2 a ha h60 (by omega) hp
  have hov : ∀ k, 145 ≤ k → over (rd d.base) l k = over tgt l k := over_congr l _ _ his
  have hgw : ∀ m ∈ batches a l, ∀ x ∈ m, 0 ≤ x.1 ∧ x.1 < (N : Int) ∧ x.2.length = 32 := by
    intro m hm x hx
    unfold batches at hm
    simp only [List.mem_cons, List.not_mem_nil, or_false] at hm
    rcases hm with rfl | rfl | rfl
    · obtain ⟨i, g1, g2, g3⟩ := layAt_mem _ _ _ hx
      have := secs_each (recT l) i g1
      rw [List.getElem?_eq_getElem g1] at g3
      injection g3 with g3
      have : (1 - a) * 72 ≤ 72 := by omega
      exact ⟨by omega, by omega, by rw [← g3]; assumption⟩
    · obtain rfl : x = _ := by simpa using hx
      exact ⟨by dsimp only; omega, by dsimp only; omega, f1⟩
    · have := hall x hx
      exact ⟨by omega, this.2⟩
  have hfit : d.fits (placesOf (batches a l)) = true := by
    refine fits_room d _ (by rw [hn]; exact hro) fun x hx => ?_
    obtain ⟨y, hy, rfl⟩ := List.mem_map.1 hx
    obtain ⟨m, hm, hy⟩ := List.mem_flatten.1 hy
    have := hgw m hm y hy
    rw [hn]
    exact ⟨this.1, this.2.1⟩
  have e : jcommit d l = runS (stepsOf (batches a l)) d := by
    unfold jcommit
    rw [if_neg (by rw [hon]; simp), if_neg h0, if_neg (by omega), hn, if_neg (by rw [hp]; simp), hnow, hh]
    dsimp only
    rw [if_neg (by omega), if_neg (by rw [hfit]; simp)]
  rw [e]
  have hgs : ∀ s ∈ stepsOf (batches a l), goodS d.n s := by rw [hn]; exact good_steps hgw
  have hflat : nat (batches a l).flatten = nat (lay (1 - a) (secs (recT l)) ++ [(0, hdB (1 - a) (secs (recT l)).length)]) ++ nat l := by
    simp [batches, nat]
  by_cases hfu : d.fuse = 0 ∨ ((stepsOf (batches a l)).length : Int) < d.fuse
  · left
    rw [runS_all _ d hon hf (by rw [hn]; exact hro) hgs hfu, hmo, apL_steps, hflat, play_append, ← e2]
    have hw := RB.whole (tgt := over tgt l) q1 q2 q3 q4 (fun k hk => by rw [q5 k hk]; exact hov k hk)
    refine ⟨rfl, ⟨⟨rfl, rfl, hro, hw.1⟩, hw.2⟩, fun h0 => ?_, ?_⟩
    · show less d.fuse _ = 0
      unfold less
      rw [if_pos h0]
    · show 0 ≤ less d.fuse _
      unfold less
      split <;> omega
  · right
    have hf0 : d.fuse ≠ 0 := fun h => hfu (.inl h)
    rw [runS_cut _ d hon (by rw [hn]; exact hro) hgs (by omega) (by omega), hmo]
    obtain ⟨pre, q, post, j, e1, hq, e3⟩ := apL_part (batches a l) (d.fuse - 1).toNat d.base (by omega)
    rw [e3]
    refine ⟨rfl, ⟨rfl, fun keep => ?_⟩, hf0, rfl⟩
    rw [wake_mk]
    -- what is there then
    have old : ∀ y : List (Nat × Bt), (∀ x ∈ y, x ∈ nat (lay (1 - a) (secs (recT l)))) → RJ N tgt (mk d (play d.base y, []) true 0) := by
      intro y hy
      have hk : ∀ x ∈ y, ∃ i, i < (secs (recT l)).length ∧ x.1 = 1 + (1 - a) * 72 + i ∧ x.2.length = 32 := by
        intro x hx
        obtain ⟨z, hz, rfl⟩ := mem_nat (hy x hx)
        obtain ⟨i, g1, g2, g3⟩ := layAt_mem _ _ _ hz
        have := secs_each (recT l) i g1
        rw [List.getElem?_eq_getElem g1] at g3
        injection g3 with g3
        exact ⟨i, g1, by dsimp only; omega, by rw [← g3]; assumption⟩
      refine ⟨rfl, rfl, hro, by rw [← h1]; exact play_length _ _, play_all h2 (fun x hx => (hk x hx).choose_spec.2.2), a, c, l0, ?_, recGood_play hg y (fun x hx i hi => ?_), fun k hk' => ?_⟩
      · show hdOf (rd (play d.base y) 0) = _
        rw [rd_play_out _ _ _ (fun x hx => ?_)]
        · exact hh
        · obtain ⟨i, _, g2, _⟩ := hk x hx
          omega
      · obtain ⟨i', g1, g2, _⟩ := hk x hx
        have : a = 0 ∨ a = 1 := by omega
        rcases this with rfl | rfl <;> omega
      · rw [← ht k hk']
        show rd (play (play d.base y) (nat l0)) k = _
        have hin : ∀ x ∈ l0, 0 ≤ x.1 ∧ x.1 < (d.base.length : Int) := fun x hx => by have := recGood_poss hg x hx; rw [h1]; exact ⟨by omega, this.2.1⟩
        rw [rd_play l0 _ (fun x hx => by rw [play_length]; exact hin x hx), rd_play l0 _ hin]
        refine over_congr l0 _ _ (fun m hm => rd_play_out _ _ _ fun x hx => ?_) k hk'
        obtain ⟨i, g1, g2, _⟩ := hk x hx
        have : (1 - a) * 72 ≤ 72 := by omega
        omega
    have new : ∀ y : List (Nat × Bt), (∀ x ∈ y, x ∈ nat l) → RJ N (over tgt l) (mk d (play b2 y, []) true 0) := fun y hy =>
      ⟨rfl, rfl, hro, RB.part (tgt := over tgt l) q1 q2 q3 q4 (fun k hk => by rw [q5 k hk]; exact hov k hk) y hy⟩
    have hsub : ∀ (m : List Wr) (x : Nat × Bt), x ∈ stay (nat (m.take j)) keep → x ∈ nat m := fun m x hx => by
      obtain ⟨z, hz, rfl⟩ := mem_nat (stay_mem _ _ _ hx)
      exact List.mem_map.2 ⟨z, List.mem_of_mem_take hz, rfl⟩
    have hnil : ∀ q : List (List Wr), q = [] → stay (nat (q.flatten.take j)) keep = [] := fun q hq => by subst hq; simp [nat, stay]
    show RJ N tgt (mk d (play (play d.base (nat pre.flatten)) (stay (nat (q.flatten.take j)) keep), []) true 0) ∨ RJ N (over tgt l) (mk d (play (play d.base (nat pre.flatten)) (stay (nat (q.flatten.take j)) keep), []) true 0)
    unfold batches at e1
    match pre, e1 with
    | [], e1 =>
      left
      have hq' : q = [] ∨ q = [lay (1 - a) (secs (recT l))] := by
        rcases hq with hq | ⟨y, rfl⟩
        · exact .inl hq
        · simp at e1
          exact .inr (by rw [e1.1])
      refine old _ fun x hx => ?_
      rcases hq' with rfl | rfl
      · rw [hnil [] rfl] at hx; cases hx
      · have := hsub _ x hx
        simpa using this
    | [p1], e1 =>
      have hp1 : p1 = lay (1 - a) (secs (recT l)) := by simp at e1; exact e1.1.symm
      subst hp1
      have hq' : q = [] ∨ q = [[(0, hdB (1 - a) (secs (recT l)).length)]] := by
        rcases hq with hq | ⟨y, rfl⟩
        · exact .inl hq
        · simp at e1
          exact .inr (by rw [e1.1])
      have hst : stay (nat (q.flatten.take j)) keep = [] ∨ stay (nat (q.flatten.take j)) keep = nat [(0, hdB (1 - a) (secs (recT l)).length)] := by
        rcases hq' with rfl | rfl
        · exact .inl (hnil [] rfl)
        · match j with
          | 0 => exact .inl (by simp [nat, stay])
          | j + 1 =>
            match keep with
            | [] => exact .inl (stay_nil _)
            | true :: _ => exact .inr (by simp [nat, stay])
            | false :: _ => exact .inl (by simp [nat, stay])
      rcases hst with hst | hst
      · left
        rw [hst]
        have := old (nat (lay (1 - a) (secs (recT l)))) (fun x hx => hx)
        simpa [play] using this
      · right
        rw [hst]
        have := new [] (fun x hx => by cases hx)
        rw [e2, show nat (lay (1 - a) (secs (recT l)) ++ [(0, hdB (1 - a) (secs (recT l)).length)]) = nat (lay (1 - a) (secs (recT l))) ++ nat [(0, hdB (1 - a) (secs (recT l)).length)] from List.map_append, play_append] at this
        simpa [play] using this
    | [p1, p2], e1 =>
      right
      have hp1 : p1 = lay (1 - a) (secs (recT l)) ∧ p2 = [(0, hdB (1 - a) (secs (recT l)).length)] := by simp at e1; exact ⟨e1.1.symm, e1.2.1.symm⟩
      obtain ⟨rfl, rfl⟩ := hp1
      have hq' : q = [] ∨ q = [l] := by
        rcases hq with hq | ⟨y, rfl⟩
        · exact .inl hq
        · simp at e1
          exact .inr (by rw [e1.1])
      have e5 : play d.base (nat [lay (1 - a) (secs (recT l)), [(0, hdB (1 - a) (secs (recT l)).length)]].flatten) = b2 := by rw [e2]; simp
      rw [e5]
      refine new _ fun x hx => ?_
      rcases hq' with rfl | rfl
      · rw [hnil [] rfl] at hx; cases hx
      · have := hsub _ x hx
        simpa using this
    | [p1, p2, p3], e1 =>
      right
      have hp1 : p1 = lay (1 - a) (secs (recT l)) ∧ p2 = [(0, hdB (1 - a) (secs (recT l)).length)] ∧ p3 = l ∧ q = [] := by
        simp at e1
        exact ⟨e1.1.symm, e1.2.1.symm, e1.2.2.1.symm, e1.2.2.2.1⟩
      obtain ⟨rfl, rfl, rfl, rfl⟩ := hp1
      rw [hnil [] rfl]
      have e5 : play d.base (nat [lay (1 - a) (secs (recT p3)), [(0, hdB (1 - a) (secs (recT p3)).length)], p3].flatten) = play b2 (nat p3) := by rw [e2, ← play_append]; simp [nat]
      rw [e5]
      have := new (nat p3) (fun x hx => hx)
      simpa [play] using this
    | p1 :: p2 :: p3 :: p4 :: r, e1 => simp at e1
end

end Go.Proofs.YtjllpbckmioiiaaDoor.jr


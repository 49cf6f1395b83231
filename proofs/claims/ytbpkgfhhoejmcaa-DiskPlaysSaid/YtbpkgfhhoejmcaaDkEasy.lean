/- The small methods of a disk. -/
import Derived.Test.YtbpkgfhhoejmcaaDkOps
namespace Go.Proofs.Ytbpkgfhhoejmcaa.dk
open Go Go.RowKit

section
variable {w : World} {p m : Nat} {v : Value} {d : DD} {own : Nat → Prop}

theorem blk6 {t : TypeId} {a b c e f g : Value} (h : Blk w p t #[a, b, c, e, f, g]) :
    w.cell? ⟨p, 0, none⟩ = some a ∧ w.cell? ⟨p, 1, none⟩ = some b ∧ w.cell? ⟨p, 2, none⟩ = some c ∧ w.cell? ⟨p, 3, none⟩ = some e ∧ w.cell? ⟨p, 4, none⟩ = some f ∧ w.cell? ⟨p, 5, none⟩ = some g :=
  ⟨h.cell 0, h.cell 1, h.cell 2, h.cell 3, h.cell 4, h.cell 5⟩

theorem len_any (h : DkAt w own p m v d) :
    Calls Try.prog 36 #[.pointer (some ⟨p, 0, none⟩)] w fun e w' => e = .returned (.int .i64 (d.n : Int)) ∧ w = w' := by
  obtain ⟨c0, c1, c2, c3, c4, c5⟩ := blk6 h.1
  clear h c1 c2 c3 c4 c5
  go_enter Try.func36, Try.ntmps36
  go_wp2
  go_ret
  exact ⟨rfl, rfl⟩

theorem on_any (h : DkAt w own p m v d) :
    Calls Try.prog 21 #[.pointer (some ⟨p, 0, none⟩)] w fun e w' => e = .returned (.bool d.on) ∧ w = w' := by
  obtain ⟨c0, c1, c2, c3, c4, c5⟩ := blk6 h.1
  clear h c1 c2 c3 c0 c5
  go_enter Try.func21, Try.ntmps21
  go_wp2
  go_ret
  exact ⟨rfl, rfl⟩

theorem has_any (h : DkAt w own p m v d) (k : Int) :
    Calls Try.prog 26 #[.pointer (some ⟨p, 0, none⟩), .int .i64 k] w fun e w' => e = .returned (.bool (d.has k)) ∧ w = w' := by
  obtain ⟨c0, c1, c2, c3, c4, c5⟩ := blk6 h.1
  clear h c1 c2 c3 c4 c5
  have H : Hid (d.has k = (decide (0 ≤ k) && decide (k < (d.n : Int)))) := rfl
  generalize d.has k = q at *
  generalize (d.n : Int) = n at *
  by_cases h0 : 0 ≤ k
  · by_cases h1 : k < n
    · have hq : q = true := by rw [H.out]; simp [h0, h1]
      clear H
      subst hq
      go_enter Try.func26, Try.ntmps26
      go_wp2
      go_ret
      exact ⟨rfl, rfl⟩
    · have hq : q = false := by rw [H.out]; simp [h1]
      have h1' : n ≤ k := by omega
      clear H
      subst hq
      go_enter Try.func26, Try.ntmps26
      go_wp2
      go_ret
      exact ⟨rfl, rfl⟩
  · have hq : q = false := by rw [H.out]; simp [h0]
    have h0' : k < 0 := by omega
    clear H
    subst hq
    go_enter Try.func26, Try.ntmps26
    go_wp2
    go_ret
    exact ⟨rfl, rfl⟩

theorem used_any (h : DkAt w own p m v d) :
    Calls Try.prog 16 #[.pointer (some ⟨p, 0, none⟩)] w fun e w' => e = .returned (.int .i64 (d.used : Int)) ∧ w = w' := by
  obtain ⟨c0, c1, c2, c3, c4, c5⟩ := blk6 h.1
  have HM := Lib.hid h.2.1
  clear h c1 c4 c3 c0 c5
  go_enter Try.func16, Try.ntmps16
  go_wp2_with (at_len; refine wpList_value rfl (exec_len _ rfl rfl HM.out) ?_)
  go_ret
  exact ⟨rfl, rfl⟩

/-- .. behind stores into the struct alone. -/
theorem DkAt.turn {w' : World} {d' : DD} (h : DkAt w own p m v d) (hb : d'.base = d.base) (hm : d'.more = d.more)
    (hk : Blk w' p 45 #[.int .i64 (d'.n : Int), .int .i64 d'.room, .map (some m), v, .bool d'.on, .int .i64 d'.fuse]) (hs : w.heap.size ≤ w'.heap.size) (hr : ∀ k, k < w.heap.size → k ≠ p → w'.heap[k]? = w.heap[k]?) : DkAt w' own p m v d' := by
  obtain ⟨hpm, hv⟩ := h.ne
  obtain ⟨h1, h2, h3, hp, hm', hvo, hl⟩ := h
  refine ⟨hk, ?_, ?_, hp, hm', hvo, fun k hk => Nat.lt_of_lt_of_le (hl k hk) hs⟩
  · have : d'.now = d.now := by unfold DD.now; rw [hb, hm]
    rw [this]
    exact h2.of_block (hr _ (hl _ hm') (fun e => hpm e.symm))
  · rw [hb, hm]
    exact own_of_block h3 (fun k hk => hr k (hl k (hvo k hk)) (hv k hk).1)

theorem set_other (w : World) (p i : Nat) (u : Value) (k : Nat) (h : k ≠ p) : (w.setCell ⟨p, i, none⟩ u).heap[k]? = w.heap[k]? := Below.heap_setCell _ _ _ _ h
theorem size_set (w : World) (p : Addr) (u : Value) : (w.setCell p u).heap.size = w.heap.size := by simp [World.setCell]

theorem off_any {most : Nat} (h : DkIs most w own p d) :
    Calls Try.prog 8 #[.pointer (some ⟨p, 0, none⟩)] w (DkPost most own p d.off (.tuple #[]) w) := by
  obtain ⟨h0, m, v, h1⟩ := h
  have H := Lib.hid h1
  have H0 := Lib.hid h0
  obtain ⟨c0, c1, c2, c3, c4, c5⟩ := blk6 h1.1
  have f4 := h1.1.frozen 4
  have f5 := h1.1.frozen 5
  clear h1 h0
  go_enter Try.func8, Try.ntmps8
  go_wp2
  go_end0
  refine ⟨rfl, own, ⟨{ H0.out with fuse0 := Int.le_refl _, fuse1 := (by show (0 : Int) ≤ _; omega) }, m, v, ?_⟩, ((But.refl _ _).setCell _ _ (.inl H.out.2.2.2.1)).setCell _ _ (.inl H.out.2.2.2.1), Grows.refl _ _⟩
  refine H.out.turn (d' := d.off) rfl rfl ((H.out.1.set_ 4 _).set_ 5 _) (by simp [size_set]) (fun k _ hk => ?_)
  rw [set_other _ _ _ _ _ hk, set_other _ _ _ _ _ hk]

theorem room_any {most : Nat} (h : DkIs most w own p d) (n : Int) (hn : n ≤ 9223372036854775807) :
    Calls Try.prog 12 #[.pointer (some ⟨p, 0, none⟩), .int .i64 n] w (DkPost most own p (d.setRoom n) (.tuple #[]) w) := by
  obtain ⟨h0, m, v, h1⟩ := h
  have H := Lib.hid h1
  have H0 := Lib.hid h0
  have f1 := h1.1.frozen 1
  obtain ⟨c0, c1, c2, c3, c4, c5⟩ := blk6 h1.1
  clear h1 h0
  go_enter Try.func12, Try.ntmps12
  go_wp2
  all_goals go_end0
  all_goals refine ⟨rfl, own, ⟨{ H0.out with room0 := by simp only [DD.setRoom]; omega, room1 := by simp only [DD.setRoom]; omega }, m, v, ?_⟩, (But.refl _ _).setCell _ _ (.inl H.out.2.2.2.1), Grows.refl _ _⟩
  all_goals
    refine H.out.turn (d' := d.setRoom n) rfl rfl ?_ (by simp [size_set]) (fun k _ hk => set_other _ _ _ _ _ hk)
    simp only [DD.setRoom, DD.n]
    first
    | (rw [show max n 0 = 0 from by omega]; exact H.out.1.set_ 1 _)
    | (rw [show max n 0 = n from by omega]; exact H.out.1.set_ 1 _)

theorem arm_any {most : Nat} (h : DkIs most w own p d) (n : Int) (hn : n ≤ 9223372036854775807) :
    Calls Try.prog 20 #[.pointer (some ⟨p, 0, none⟩), .int .i64 n] w (DkPost most own p (d.arm n) (.tuple #[]) w) := by
  obtain ⟨h0, m, v, h1⟩ := h
  have H := Lib.hid h1
  have H0 := Lib.hid h0
  have f1 := h1.1.frozen 5
  obtain ⟨c0, c1, c2, c3, c4, c5⟩ := blk6 h1.1
  clear h1 h0
  go_enter Try.func20, Try.ntmps20
  go_wp2
  all_goals go_end0
  all_goals refine ⟨rfl, own, ⟨{ H0.out with fuse0 := by simp only [DD.arm]; omega, fuse1 := by simp only [DD.arm]; omega }, m, v, ?_⟩, (But.refl _ _).setCell _ _ (.inl H.out.2.2.2.1), Grows.refl _ _⟩
  all_goals
    refine H.out.turn (d' := d.arm n) rfl rfl ?_ (by simp [size_set]) (fun k _ hk => set_other _ _ _ _ _ hk)
    simp only [DD.arm, DD.n]
    first
    | (rw [show max n 0 = 0 from by omega]; exact H.out.1.set_ 5 _)
    | (rw [show max n 0 = n from by omega]; exact H.out.1.set_ 5 _)

theorem oper_any {most : Nat} (h : DkIs most w own p d) (hon : d.on = true) :
    Calls Try.prog 27 #[.pointer (some ⟨p, 0, none⟩)] w (DkPost most own p d.oper (.bool d.oper.on) w) := by
  have hd0 := Lib.hid h
  obtain ⟨h0, m, v, h1⟩ := h
  have H := Lib.hid h1
  have H0 := Lib.hid h0
  have f5 := h1.1.frozen 5
  obtain ⟨c0, c1, c2, c3, c4, c5⟩ := blk6 h1.1
  have b0 := h0.fuse0
  have b1 := h0.fuse1
  rw [hon] at c4
  clear h1 h0
  by_cases e1 : d.fuse = 1
  · have hop : d.oper = d.off := by unfold DD.oper; rw [if_pos e1]
    rw [hop]
    rw [e1] at c5
    have hd1 : DkIs most (w.setCell ⟨p, 5, none⟩ (.int .i64 0)) own p { d with fuse := 0 } :=
      ⟨{ H0.out with fuse0 := Int.le_refl _, fuse1 := (by show (0 : Int) ≤ _; omega) }, m, v, H.out.turn (d' := { d with fuse := 0 }) rfl rfl (H.out.1.set_ 5 _) (by simp [size_set]) (fun k _ hk => set_other _ _ _ _ _ hk)⟩
    have hoff := Lib.hid (off_any hd1)
    have E1 := Lib.hid e1
    clear e1 hop hd1 b0 b1
    go_enter Try.func27, Try.ntmps27
    go_wp2_with (go_at_call 8; refine hoff.out.mono ?_)
    rintro e w2 ⟨rfl, own', hd2, hb2, hg2⟩
    obtain ⟨_, m2, v2, h2⟩ := hd2
    have HD2 : Hid (DkIs most w2 own' p d.off) := ⟨by assumption, m2, v2, h2⟩
    obtain ⟨g0, g1, g2, g3, g4, g5⟩ := blk6 h2.1
    clear h2 hoff
    go_wp2
    go_ret
    exact ⟨rfl, own', HD2.out, ((But.refl own w).setCell _ _ (.inl H.out.2.2.2.1)).trans hb2 (fun i h => .inl h), fun k hk => by
      rcases hg2 k hk with h | h
      · exact .inl h
      · rw [size_set] at h; exact .inr h⟩
  · by_cases e2 : 1 < d.fuse
    · have hop : d.oper = { d with fuse := d.fuse - 1 } := by unfold DD.oper; rw [if_neg e1, if_pos e2]
      rw [hop]
      have e0 : 0 < d.fuse := by omega
      have e3 : ((d.fuse - 1 : Int) == 0) = false := by rw [beq_eq_false_iff_ne]; omega
      clear e1
      go_enter Try.func27, Try.ntmps27
      go_wp2
      go_ret
      refine ⟨(by rw [hon]; rfl), own, ⟨{ H0.out with fuse0 := by simp only; omega, fuse1 := by simp only; omega }, m, v, ?_⟩, (But.refl _ _).setCell _ _ (.inl H.out.2.2.2.1), Grows.refl _ _⟩
      refine H.out.turn (d' := { d with fuse := d.fuse - 1 }) rfl rfl ?_ (by simp [size_set]) (fun k _ hk => set_other _ _ _ _ _ hk)
      exact H.out.1.set_ 5 _
    · have hop : d.oper = d := by unfold DD.oper; rw [if_neg e1, if_neg e2]
      rw [hop]
      have e0 : d.fuse = 0 := by omega
      rw [e0] at c5
      clear e1 e2
      have E0 := Lib.hid e0
      clear e0 b0 b1
      go_enter Try.func27, Try.ntmps27
      go_wp2
      go_ret
      exact ⟨(by rw [hon]; rfl), own, hd0.out, But.refl _ _, Grows.refl _ _⟩

end
end Go.Proofs.Ytbpkgfhhoejmcaa.dk

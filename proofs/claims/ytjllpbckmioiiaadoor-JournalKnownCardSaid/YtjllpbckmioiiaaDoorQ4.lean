/- DkApp, DkFit2, DkFit3. -/
import Derived.Test.YtjllpbckmioiiaaDoorQ2
import Derived.Test.YtjllpbckmioiiaaDoorQ3
import Derived.Maps.AppendAt
import Derived.Deep.RegionLaw
import Derived.Great.BuildSlice
import Derived.LoopTactic
/- append of one write to the list of the unflushed. -/
namespace Go.Proofs.YtjllpbckmioiiaaDoor.dk
open Go Go.RowKit
set_option maxRecDepth 100000

theorem wp_append_at {P : Program} {o : Oper} {a : Act} {w : World} {K : Act → World → Prop} {Q : Exit → Act → World → Prop} (s x : Operand) (t : TypeId)
    (ho : o.op = .call { callee := .builtin .append, args := #[s, x], argTypes := #[t, t] })
    (base : Nat) (e : TypeId) (i : TypeInfo) (z : Value) (size bytes : Nat) (ht : P.underlying t = some (.slice e)) (hi : P.info? e = some i) (hz : i.zero = some z)
    (hsize : i.size = size) (hby : i.bytes = bytes) (hzs : z.cells.size = size) (hsz : 0 < size)
    (v : Value) (n : Nat) (xs : List Value) (hs : a.eval s = v) (hown : w.ownsRow base e size v n xs)
    (ad : Addr) (m c : Nat) (news : List Value) (hx : a.eval x = .slice (some ad) m c) (hl : news.length = m * size) (hnews : ∀ j u, news[j]? = some u → w.cell? (ad.add j) = some u) (h1 : ∀ u ∈ news, u.oneCell' = true)
    (h63 : n + m ≤ maxLen) (hbytes : (n + m) * bytes ≤ 140737488355328) (hbase : base ≤ w.heap.size)
    (h : ∀ v' w', w'.ownsRow base e size v' (n + m) (xs ++ news) → w.grownBy w' v.ownBlock → (v'.ownBlock = v.ownBlock ∨ v'.ownBlock = some w.heap.size) → K (a.put o.dst v') w') : o.wp P a w K Q := by
  obtain ⟨v', w', hrun, h2, h3, _, h5⟩ := run_append_own_at (P := P) w base t o.type e i z size bytes ht hi hz hsize hby hzs hsz v n xs hown ad m c news hl hnews h1 h63 hbytes hbase
  unfold Oper.wp
  simp [execOp, ho, resolve, invoke, builtin, hs, hx, hrun, Result.andThen]
  exact h v' w' h2 h3 h5

theorem own_form {w : World} {base e size n : Nat} {v : Value} {xs : List Value} (h : w.ownsRow base e size v n xs) : ∃ A c, v = .slice A n c := by
  rcases h.2 with ⟨rfl, rfl⟩ | ⟨g, cap, cur, rfl, _⟩
  · exact ⟨none, 0, rfl⟩
  · exact ⟨_, cap, rfl⟩

theorem wrRow_length (l : List (Nat × Bt × Bt × Bool)) (h : ∀ x ∈ l, (wrCells x).length = 66) : (wrRow l).length = l.length * 66 := by
  induction l with
  | nil => rfl
  | cons x l ih =>
    have h1 := h x (by simp)
    have h2 := ih (fun y hy => h y (by simp [hy]))
    simp only [wrRow, List.flatMap_cons, List.length_append, List.length_cons] at h2 ⊢
    omega

theorem wrRow_snoc (l : List (Nat × Bt × Bt × Bool)) (x : Nat × Bt × Bt × Bool) : wrRow (l ++ [x]) = wrRow l ++ wrCells x := by simp [wrRow]

theorem fold_set : ∀ (l : List Value) (k : Nat) (acc : Array Value), k + l.length ≤ acc.size →
    (l.zipIdx k).foldl (fun a x => a.setIfInBounds (0 + x.2) x.1) acc = (acc.toList.take k ++ l ++ acc.toList.drop (k + l.length)).toArray
  | [], k, acc, _ => by simp
  | x :: l, k, acc, h => by
    have hk : k < acc.size := by simp at h; omega
    have hk' : k < acc.toList.length := by simpa using hk
    rw [List.zipIdx_cons, List.foldl_cons, fold_set l (k + 1) _ (by simp at h ⊢; omega)]
    congr 1
    simp only [Nat.zero_add, Array.toList_setIfInBounds, List.length_cons]
    rw [List.drop_set_of_lt (by omega), show k + 1 + l.length = k + (l.length + 1) by omega]
    have e : (acc.toList.set k x).take (k + 1) = acc.toList.take k ++ [x] := by
      rw [List.take_succ_eq_append_getElem (by simpa using hk)]
      simp only [List.getElem_set_self, List.take_set]
      rw [List.set_eq_of_length_le (by simp; omega)]
    rw [e]
    simp

theorem fill_one (size : Nat) (cs acc : Array Value) (h1 : cs.size = size) (h2 : acc.size = size) : Instr.fill (fun i => some (i * size, size)) acc [(0, .agg cs)] = some cs := by
  simp only [Instr.fill, Nat.zero_mul, Value.cells]
  rw [if_neg (by simp [h1, h2])]
  congr 1
  rw [← Array.foldl_toList, Array.toList_zipIdx, fold_set cs.toList 0 acc (by simp; omega)]
  simp
  rw [List.drop_eq_nil_of_le (by simp; omega)]
  simp

theorem exec_one70 {ρ : Operand → Value} {o : Oper} {w : World} (x : Operand) (cs : Array Value) (ho : o.op = .buildSlice 72 1 #[(0, x)]) (hx : ρ x = .agg cs) (hs : cs.size = 66) :
    (execOp ρ o).run Tryd.prog w = .ok (.value (.slice (some ⟨w.heap.size, 0, none⟩) 1 1)) (w.alloc (.cells cs 80)) := by
  obtain ⟨i0, hi, hz0, hz1, hz2⟩ := info_parts info70
  have hr := run_buildSlice (P := Tryd.prog) w 72 80 1 #[(0, .agg cs)] cs i0 _ Tryd.underlying72 hi hz0 (by rw [hz1]; decide) (by rw [hz1]; decide) (by
    rw [hz1]
    exact fill_one 66 cs _ hs (by simp))
  simp [execOp, ho, hx, hr, Result.andThen]

theorem exec_load70 {ρ : Operand → Value} {o : Oper} {w : World} (x : Operand) (ho : o.op = .load 80 x) (g : Nat) (hx : ρ x = .pointer (some ⟨g, 0, none⟩)) (cs : Array Value) (hg : Blk w g 80 cs) (hs : cs.size = 66) :
    (execOp ρ o).run Tryd.prog w = .ok (.value (.agg cs)) w := by
  have := exec_load_part (P := Tryd.prog) (w := w) 80 x ho g 0 hx 80 cs cs.toList (0, 0) _ hg Tryd.underlying80 rfl (by rw [size70]; simp [hs]) (fun j u hu => by rw [Nat.zero_add]; simpa using hu)
  simpa using this

theorem exec_load59 {ρ : Operand → Value} {o : Oper} {w : World} (x : Operand) (ho : o.op = .load 72 x) (b i : Nat) (hx : ρ x = .pointer (some ⟨b, i, none⟩)) (A : Option Addr) (n c : Nat) (hc : w.cell? ⟨b, i, none⟩ = some (.slice A n c)) :
    (execOp ρ o).run Tryd.prog w = .ok (.value (.slice A n c)) w := by
  unfold execOp
  simp only [ho, hx]
  go_simp

/-- Three operations, i beside j, l behind j: i and j only read, l makes memory. -/
theorem wpAny_diamond {P : Program} {md : Region.Mode} {ops : Array Oper} {Q : Exit → Act → World → Prop} {i j l : Nat} {oi oj ol : Oper} {di dj dl : Tmp} {vi vj vl : Value} {fuel : Nat} {listed : Array Bool} {a : Act} {w w2 : World}
    (hr : Region.ready md ops listed = [i, j]) (hri : Region.ready md ops (listed.setIfInBounds i true) = [j]) (hrij : Region.ready md ops ((listed.setIfInBounds i true).setIfInBounds j true) = [l])
    (hrj : Region.ready md ops (listed.setIfInBounds j true) = [i, l]) (hrjl : Region.ready md ops ((listed.setIfInBounds j true).setIfInBounds l true) = [i])
    (hij : i ≠ j) (hil : i ≠ l) (hoi : ops[i]? = some oi) (hoj : ops[j]? = some oj) (hol : ops[l]? = some ol) (hgi : oi.guard = none) (hgj : oj.guard = none) (hgl : ol.guard = none)
    (hdi : oi.dst = some di) (hdj : oj.dst = some dj) (hdl : ol.dst = some dl) (d1 : di ≠ dj) (d2 : di ≠ dl)
    (hi0 : (execOp a.eval oi).run P w = .ok (.value vi) w) (hi1 : (execOp (a.put (some dj) vj).eval oi).run P w = .ok (.value vi) w) (hi2 : (execOp ((a.put (some dj) vj).put (some dl) vl).eval oi).run P w2 = .ok (.value vi) w2)
    (hj0 : (execOp a.eval oj).run P w = .ok (.value vj) w) (hj1 : (execOp (a.put (some di) vi).eval oj).run P w = .ok (.value vj) w)
    (hl1 : (execOp ((a.put (some di) vi).put (some dj) vj).eval ol).run P w = .ok (.value vl) w2) (hl2 : (execOp (a.put (some dj) vj).eval ol).run P w = .ok (.value vl) w2)
    (h : wpAny P md ops Q fuel (((listed.setIfInBounds i true).setIfInBounds j true).setIfInBounds l true) (((a.put (some di) vi).put (some dj) vj).put (some dl) vl) w2) : wpAny P md ops Q (fuel + 3) listed a w := by
  have tail : ∀ (b : Act) (ls : Array Bool), b = (a.put (some di) vi).put (some dj) vj → ls = (listed.setIfInBounds i true).setIfInBounds j true → wpAny P md ops Q (fuel + 1) ls b w := by
    rintro b ls rfl rfl
    refine wpAny_one hrij hol hgl (wp_of_value hl1 ?_)
    rw [hdl]
    exact h
  have hwi : ∀ b : Act, Region.wanted oi (yielded ops b.tmps) = true := fun b => by simp [Region.wanted, hgi]
  have hwj : ∀ b : Act, Region.wanted oj (yielded ops b.tmps) = true := fun b => by simp [Region.wanted, hgj]
  have hwl : ∀ b : Act, Region.wanted ol (yielded ops b.tmps) = true := fun b => by simp [Region.wanted, hgl]
  refine wpAny_all hr (by simp) fun k hk => ?_
  rcases (show k = i ∨ k = j by simpa using hk) with rfl | rfl
  · unfold wpOp
    simp only [hoi, hwi, if_true]
    left
    refine wp_of_value hi0 ?_
    rw [hdi]
    refine wpAny_one hri hoj hgj (wp_of_value hj1 ?_)
    rw [hdj]
    exact tail _ _ rfl rfl
  · unfold wpOp
    simp only [hoj, hwj, if_true]
    left
    refine wp_of_value hj0 ?_
    rw [hdj]
    refine wpAny_all hrj (by simp) fun n hn => ?_
    rcases (show n = i ∨ n = l by simpa using hn) with rfl | rfl
    · unfold wpOp
      simp only [hoi, hwi, if_true]
      left
      refine wp_of_value hi1 ?_
      rw [hdi]
      exact tail _ _ (put_comm' a dj di vj vi (Ne.symm d1)) (Array.setIfInBounds_comm _ _ (Ne.symm hij))
    · unfold wpOp
      simp only [hol, hwl, if_true]
      left
      refine wp_of_value hl2 ?_
      rw [hdl]
      refine wpAny_one hrjl hoi hgi (wp_of_value hi2 ?_)
      rw [hdi, put_comm' _ dl di vl vi (Ne.symm d2), put_comm' a dj di vj vi (Ne.symm d1), Array.setIfInBounds_comm _ _ (Ne.symm hil), Array.setIfInBounds_comm (xs := listed) _ _ (Ne.symm hij)]
      exact h

end Go.Proofs.YtjllpbckmioiiaaDoor.dk

/- What fitter and Fits of package disk do. -/
namespace Go.Proofs.YtjllpbckmioiiaaDoor.dk
open Go Go.RowKit
set_option maxRecDepth 100000

/-- What the operations of 'free := d.room - len(d.written)' yield. -/
def FG (p m : Nat) (room used : Int) (B : Nat) : Nat → Value → World → Prop
  | 0, v, _ => v = .pointer (some ⟨p, 0, none⟩)
  | 1, v, _ => v = .pointer (some ⟨p, 0, none⟩)
  | 2, v, _ => v = .pointer (some ⟨p, 1, none⟩)
  | 3, v, _ => v = .int .i64 room
  | 4, v, _ => v = .pointer (some ⟨p, 0, none⟩)
  | 5, v, _ => v = .pointer (some ⟨p, 0, none⟩)
  | 6, v, _ => v = .pointer (some ⟨p, 2, none⟩)
  | 7, v, _ => v = .map (some m)
  | 8, v, _ => v = .int .i64 used
  | 9, v, _ => v = .int .i64 (room - used)
  | 10, v, w => ∃ b, v = .pointer (some ⟨b, 0, none⟩) ∧ B ≤ b ∧ Blk w b 3 #[.int .i64 0]
  | _, _, _ => True

theorem FG_mono (p m : Nat) (room used : Int) (B : Nat) (i : Nat) (v : Value) (w w' : World) (hi : i < 11) (h : FG p m room used B i v w) (hb : Below w.heap.size w w') : FG p m room used B i v w' := by
  match i, hi, h with
  | 0, _, h | 1, _, h | 2, _, h | 3, _, h | 4, _, h | 5, _, h | 6, _, h | 7, _, h | 8, _, h | 9, _, h => exact h
  | 10, _, ⟨b, h1, h2, h3⟩ => exact ⟨b, h1, h2, h3.of_block (hb.block b h3.lt)⟩

def MakePost (p : Nat) (free : Int) (w : World) (e : Ending) (w' : World) : Prop :=
  ∃ B4 B3 a, e = .returned (.func (.func 73) #[] #[.pointer (some ⟨w.heap.size, 0, none⟩), .pointer (some ⟨B4, 0, none⟩), .pointer (some ⟨B3, 0, none⟩)]) ∧
    Env w' p w.heap.size B4 B3 a free [] ∧ Below w.heap.size w w' ∧ w.heap.size ≤ a

section
variable {w : World} {p m : Nat} {v : Value} {d : DD} {own : Nat → Prop}

set_option maxRecDepth 100000 in
set_option maxHeartbeats 800000 in
theorem fitter_any {most : Nat} (h0 : d.ok most) (h : DkAt w own p m v d) :
    Calls Tryd.prog 53 #[.pointer (some ⟨p, 0, none⟩)] w (MakePost p (d.room - (d.used : Int)) w) := by
  have hmm := @run_makeMap Tryd.prog
  have HM := Lib.hid h.2.1
  have hp := h.1.lt
  have hml := h.2.1.lt
  obtain ⟨c0, c1, c2, c3, c4, c5⟩ := blk6 h.1
  have r0 := h0.room0
  have r1 := h0.room1
  have hu : d.used ≤ 1024 := by
    have := cnt_le d.now
    rw [d.now_length] at this
    have := h0.n1
    unfold DD.used
    omega
  have HU : Hid (cnt d.now = d.used) := rfl
  clear h h0 c0 c3 c4 c5
  generalize hroom : d.room = room at *
  generalize hused : d.used = used at *
  clear hroom hused
  go_enter Tryd.func53, Tryd.ntmps53
  go_wp2_with fail
  have hbx : (w.alloc (.cells #[.pointer (some ⟨p, 0, none⟩)] 28)).heap[w.heap.size]? = some (.cells #[.pointer (some ⟨p, 0, none⟩)] 28 (0, 0)) := heap_alloc_new w _
  have hold : ∀ k, k < w.heap.size → (w.alloc (.cells #[.pointer (some ⟨p, 0, none⟩)] 28)).heap[k]? = w.heap[k]? := fun k hk => Below.heap_alloc w _ k hk
  have hsz : (w.alloc (.cells #[.pointer (some ⟨p, 0, none⟩)] 28)).heap.size = w.heap.size + 1 := by simp
  have hB0 : Below w.heap.size w (w.alloc (.cells #[.pointer (some ⟨p, 0, none⟩)] 28)) := (Below.refl _ w).alloc (Nat.le_refl _) _
  generalize w.alloc (.cells #[.pointer (some ⟨p, 0, none⟩)] 28) = w1 at *
  refine wp_region_slots_r (by kernel_rfl) 11 [5, 6, 7, 8, 9, 10, 11, 12, 13, 14, 3] (by kernel_rfl) (FG p m room (used : Int) w1.heap.size) (FG_mono _ _ _ _ _) ?_ ?_
  · intro i o vs ρ W hi ho hρ hb hG
    have t5 := hρ.at_ 5 0 rfl
    have t6 := hρ.at_ 6 1 rfl
    have t7 := hρ.at_ 7 2 rfl
    have t8 := hρ.at_ 8 3 rfl
    have t9 := hρ.at_ 9 4 rfl
    have t10 := hρ.at_ 10 5 rfl
    have t11 := hρ.at_ 11 6 rfl
    have t12 := hρ.at_ 12 7 rfl
    have t13 := hρ.at_ 13 8 rfl
    have t1 : ρ (.tmp 1) = .pointer (some ⟨w.heap.size, 0, none⟩) := hρ.out 1 rfl
    have hc := hρ.const
    have k1 : W.cell? ⟨w.heap.size, 0, none⟩ = some (.pointer (some ⟨p, 0, none⟩)) := by rw [hb.cell (p := ⟨w.heap.size, 0, none⟩) (by simp [hsz]), cell_of_row _ _ _ _ _ _ hbx]; rfl
    have q1 : W.cell? ⟨p, 1, none⟩ = some (.int .i64 room) := by rw [hb.cell (p := ⟨p, 1, none⟩) (by simp [hsz]; omega), World.cell?_of_block (a := ⟨p, 1, none⟩) (hold p hp)]; exact c1
    have q2 : W.cell? ⟨p, 2, none⟩ = some (.map (some m)) := by rw [hb.cell (p := ⟨p, 2, none⟩) (by simp [hsz]; omega), World.cell?_of_block (a := ⟨p, 2, none⟩) (hold p hp)]; exact c2
    have hmW : MapIs W m d.now := HM.out.of_block ((hb.block m (by omega)).trans (hold m hml))
    rcases i with _ | _ | _ | _ | _ | _ | _ | _ | _ | _ | _ | i
    all_goals (first | omega | skip)
    all_goals simp only [List.getElem?_toArray, List.getElem?_cons_zero, List.getElem?_cons_succ, Option.some.injEq] at ho
    all_goals subst ho
    · exact stepTo_value (w' := W) (by unfold execOp; simp only [t1]; go_simp) ⟨Below.refl _ _, rfl⟩
    · have g : vs 0 = _ := hG 0 (by kernel_rfl)
      exact stepTo_value (w' := W) (by unfold execOp; simp only [t5, g]; go_simp) ⟨Below.refl _ _, rfl⟩
    · have g : vs 1 = _ := hG 1 (by kernel_rfl)
      exact stepTo_value (w' := W) (by unfold execOp; simp only [t6, g]; go_simp) ⟨Below.refl _ _, rfl⟩
    · have g : vs 2 = _ := hG 2 (by kernel_rfl)
      exact stepTo_value (w' := W) (by unfold execOp; simp only [t7, g]; go_simp) ⟨Below.refl _ _, rfl⟩
    · exact stepTo_value (w' := W) (by unfold execOp; simp only [t1]; go_simp) ⟨Below.refl _ _, rfl⟩
    · have g : vs 4 = _ := hG 4 (by kernel_rfl)
      exact stepTo_value (w' := W) (by unfold execOp; simp only [t9, g]; go_simp) ⟨Below.refl _ _, rfl⟩
    · have g : vs 5 = _ := hG 5 (by kernel_rfl)
      exact stepTo_value (w' := W) (by unfold execOp; simp only [t10, g]; go_simp) ⟨Below.refl _ _, rfl⟩
    · have g : vs 6 = _ := hG 6 (by kernel_rfl)
      exact stepTo_value (w' := W) (by unfold execOp; simp only [t11, g]; go_simp) ⟨Below.refl _ _, rfl⟩
    · have g : vs 7 = _ := hG 7 (by kernel_rfl)
      exact stepTo_value (w' := W) (exec_len (.tmp 12) rfl (t12.trans g) hmW) ⟨Below.refl _ _, by rw [HU.out]; rfl⟩
    · have g3 : vs 3 = _ := hG 3 (by kernel_rfl)
      have g8 : vs 8 = _ := hG 8 (by kernel_rfl)
      exact stepTo_value (w' := W) (by unfold execOp; simp only [t8, g3, t13, g8]; go_simp; exact IntWalk.i64_in _ (by omega)) ⟨Below.refl _ _, rfl⟩
    · exact stepTo_value (v := .pointer (some ⟨W.heap.size, 0, none⟩)) (w' := W.alloc (.cells #[.int .i64 0] 3)) (by unfold execOp; go_simp) ⟨(Below.refl _ _).alloc (Nat.le_refl _) _, W.heap.size, rfl, hb.size, Blk.new _ _ _⟩
  · intro vs W hb hG
    have g9 : vs 9 = _ := hG 9 (by decide)
    obtain ⟨b3, g10, hb3, hk3⟩ : ∃ b, vs 10 = .pointer (some ⟨b, 0, none⟩) ∧ w1.heap.size ≤ b ∧ Blk W b 3 #[.int .i64 0] := hG 10 (by decide)
    simp only [putList, putSel, if_true]
    rw [g9, g10]
    generalize vs 0 = x0
    generalize vs 1 = x1
    generalize vs 2 = x2
    generalize vs 3 = x3
    generalize vs 4 = x4
    generalize vs 5 = x5
    generalize vs 6 = x6
    generalize vs 7 = x7
    generalize vs 8 = x8
    clear hG g9 g10
    have k3 : W.cell? ⟨b3, 0, none⟩ = some (.int .i64 0) := hk3.cell 0
    have f3 := hk3.frozen 0
    have HK3 := Lib.hid hk3
    have hbW := hb.size
    have HB := Lib.hid (hB0.trans (hb.mono (by omega)))
    have HX := Lib.hid ((hb.block w.heap.size (by omega)).trans hbx)
    have hbsz := hk3.lt
    clear hk3 hb hB0 hold hbx c1 c2
    go_simp
    refine wpAny_one (i := 11) (by kernel_rfl) rfl rfl ?_
    go_simp
    refine ⟨by kernel_rfl, ?_⟩
    go_wp2
    go_ret
    generalize hW2 : W.setCell ⟨b3, 0, none⟩ (.int .i64 (room - (used : Int))) = W2
    have hs2 : W2.heap.size = W.heap.size := by rw [← hW2, size_set]
    have hk2 : Blk W2 b3 3 #[.int .i64 (room - (used : Int))] := by rw [← hW2]; exact HK3.out.set_ 0 _
    have hx2 : Blk W2 w.heap.size 28 #[.pointer (some ⟨p, 0, none⟩)] := by
      unfold Blk
      rw [← hW2, set_other _ _ _ _ _ (by omega)]
      exact HX.out
    have hB2 : Below w.heap.size w W2 := by rw [← hW2]; exact HB.out.setCell (by simp; omega) _
    refine ⟨W.heap.size + 1, b3, W.heap.size, rfl, ⟨?_, ?_, ?_, ?_⟩, ?_, ?_⟩
    · refine (hx2.of_block (Below.heap_alloc _ _ _ (by omega))).of_block (Below.heap_alloc _ _ _ (by simp; omega))
    · rw [← hs2]
      exact heap_alloc2_new _ _ _
    · refine (hk2.of_block (Below.heap_alloc _ _ _ (by omega))).of_block (Below.heap_alloc _ _ _ (by simp; omega))
    · rw [← hs2]
      exact (SetIs.made W2).of_block (Below.heap_alloc _ _ _ (by simp))
    · exact (hB2.alloc (by omega) _).alloc (by simp; omega) _
    · omega
end
end Go.Proofs.YtjllpbckmioiiaaDoor.dk

/- What Fits of package disk does: the loop. -/
namespace Go.Proofs.YtjllpbckmioiiaaDoor.dk
open Go Go.RowKit
set_option maxRecDepth 100000

/-- What a loop over the closure comes to. -/
def tell (d : DD) : List Int → List Int → Bool
  | _, [] => true
  | acc, x :: r => if (ask d acc x).1 then tell d (ask d acc x).2 r else false

theorem fresh_len (s : Sects) : ∀ (l acc : List Int), acc.length ≤ (fresh s acc l).length
  | [], _ => Nat.le_refl _
  | x :: r, acc => by
    unfold fresh
    split
    · exact fresh_len s r acc
    · exact Nat.le_trans (by simp) (fresh_len s r (acc ++ [x]))

theorem tell_eq (d : DD) : ∀ (l acc : List Int), (acc.length = 0 ∨ (acc.length : Int) ≤ d.room - (d.used : Int)) →
    tell d acc l = (l.all d.has && (decide ((fresh d.now acc l).length = 0) || decide (((fresh d.now acc l).length : Int) ≤ d.room - (d.used : Int))))
  | [], acc, h => by
    show true = _
    simp only [List.all_nil, fresh, Bool.true_and]
    rcases h with h | h <;> simp [h]
  | x :: r, acc, h => by
    unfold tell
    by_cases hh : d.has x = true
    · by_cases hs : (look d.now x).isSome = true
      · have e : ask d acc x = (true, acc) := by unfold ask; rw [if_neg (by rw [hh]; simp), if_pos hs]
        rw [e]
        simp only [if_true, List.all_cons, hh, Bool.true_and]
        rw [tell_eq d r acc h]
        conv => rhs; unfold fresh
        rw [hs]
        rfl
      · have e : ask d acc x = (decide (((addTo acc x).length : Int) ≤ d.room - (d.used : Int)), addTo acc x) := by unfold ask; rw [if_neg (by rw [hh]; simp), if_neg hs]
        have hf : fresh d.now acc (x :: r) = fresh d.now (addTo acc x) r := by
          conv => lhs; unfold fresh
          unfold addTo
          rw [show (look d.now x).isSome = false from by simpa using hs, Bool.false_or]
          split <;> rfl
        rw [e, hf]
        simp only [List.all_cons, hh, Bool.true_and]
        by_cases hle : ((addTo acc x).length : Int) ≤ d.room - (d.used : Int)
        · rw [decide_eq_true hle, if_pos rfl]
          exact tell_eq d r _ (.inr hle)
        · rw [decide_eq_false hle, if_neg (by simp)]
          have h1 := fresh_len d.now r (addTo acc x)
          have h2 : 0 < (addTo acc x).length := by
            unfold addTo
            split
            · rename_i hc
              cases acc with
              | nil => simp at hc
              | cons => simp
            · simp
          rw [decide_eq_false (by omega), decide_eq_false (by omega)]
          simp
    · have e : ask d acc x = (false, acc) := by unfold ask; rw [if_pos (by simpa using hh)]
      rw [e]
      simp [hh]

theorem fits_tell (d : DD) (l : List Int) : tell d [] l = d.fits l := tell_eq d l [] (.inl rfl)

/-- A slice of numbers. -/
def IntsAt (w : World) (a : Option Addr) (zs : List Int) : Prop :=
  ∀ i (h : i < zs.length), ∃ b o, a = some ⟨b, o, none⟩ ∧ b < w.heap.size ∧ w.cell? ⟨b, o + i, none⟩ = some (.int .i64 zs[i]) ∧ -9223372036854775808 ≤ zs[i] ∧ zs[i] ≤ 9223372036854775807

def okB (r : Bool) (w : World) (e : Ending) (w' : World) : Prop := e = .returned (.bool r) ∧ Below w.heap.size w w'

section
variable {w : World} {p m : Nat} {v : Value} {d : DD} {own : Nat → Prop} {B1 B4 B3 a : Nat} {acc : List Int}

theorem ask_any {most : Nat} (h0 : d.ok most) (h : DkAt w own p m v d) (he : Env w p B1 B4 B3 a (d.room - (d.used : Int)) acc) (x : Int) (hl : acc.length < maxLen) :
    Calls Tryd.prog 73 #[.int .i64 x, .pointer (some ⟨B1, 0, none⟩), .pointer (some ⟨B4, 0, none⟩), .pointer (some ⟨B3, 0, none⟩)] w (AskPost (ask d acc x) a w) := by
  unfold ask
  by_cases hh : d.has x = true
  · by_cases hs : (look d.now x).isSome = true
    · rw [if_neg (by rw [hh]; simp), if_pos hs]
      exact ask_old h0 h he x hh hs
    · rw [if_neg (by rw [hh]; simp), if_neg hs]
      exact ask_new h0 h he x hh (by simpa using hs) hl
  · rw [if_pos (by simpa using hh)]
    exact ask_not h he x (by simpa using hh)

theorem Env.step {w' : World} {free : Int} {acc' : List Int} (h : Env w p B1 B4 B3 a free acc) (hs : SetIs w' a acc') (hb : But (fun k => k = a) w w') : Env w' p B1 B4 B3 a free acc' := by
  have hne : ∀ {B t cs}, Blk w B t cs → B ≠ a := by
    rintro B t cs hB rfl
    obtain ⟨D, ⟨es, clock, q, _⟩, _⟩ := h.set_
    unfold Blk at hB
    rw [q] at hB
    cases hB
  exact ⟨h.b1.of_block (hb.block _ h.b1.lt (hne h.b1)), h.b4.of_block (hb.block _ h.b4.lt (hne h.b4)), h.b3.of_block (hb.block _ h.b3.lt (hne h.b3)), hs⟩

theorem ask_len (d : DD) (acc : List Int) (x : Int) : (ask d acc x).2.length ≤ acc.length + 1 := by
  unfold ask
  split
  · simp
  · split
    · simp
    · unfold addTo
      split <;> simp

/-- Between two rounds. -/
def FitRel (d : DD) (zs : List Int) (w : World) (p B1 B4 B3 a : Nat) (i : Value) (wr : World) : Prop :=
  ∃ k : Nat, k ≤ zs.length ∧ i = .int .i64 (k : Int) ∧ Below w.heap.size w wr ∧ ∃ acc, Env wr p B1 B4 B3 a (d.room - (d.used : Int)) acc ∧ acc.length ≤ k ∧ tell d acc (zs.drop k) = d.fits zs

set_option maxHeartbeats 800000 in
theorem fits_any {most : Nat} (h : DkIs most w own p d) (A : Option Addr) (c : Nat) (zs : List Int) (hz : IntsAt w A zs) (hzl : zs.length ≤ 1000000) :
    Calls Tryd.prog 33 #[.pointer (some ⟨p, 0, none⟩), .slice A zs.length c] w (okB (d.fits zs) w) := by
  obtain ⟨h0, m, v, h1⟩ := h
  have H0 := Lib.hid h0
  have H1 := Lib.hid h1
  have HZ := Lib.hid hz
  have HF := Lib.hid (fitter_any h0 h1)
  have hlow := h1.2.2.2.2.2.2
  have HL := Lib.hid hlow
  clear h0 h1 hz hlow
  go_enter Tryd.func33, Tryd.ntmps33
  go_wp2_with (go_at_call 53; refine HF.out.mono ?_)
  rintro e W1 ⟨B4, B3, a, rfl, hE, hb, ha⟩
  have HE := Lib.hid hE
  have HB := Lib.hid hb
  have HA := Lib.hid ha
  clear hE hb ha
  go_wp2_with fail
  go_loopw [14] (fun i wr => FitRel d zs w p w.heap.size B4 B3 a i wr) (fun i _ => zs.length - (intOf i).toNat)
  case atStart => exact ⟨0, Nat.zero_le _, rfl, HB.out, [], HE.out, Nat.le_refl _, fits_tell d zs⟩
  case round =>
    obtain ⟨k, hk, rfl, hB, acc, hEn, hac, htl⟩ := hrel
    have HBr := Lib.hid hB
    have HEr := Lib.hid hEn
    have HT := Lib.hid htl
    have HAc := Lib.hid hac
    by_cases hlt : k < zs.length
    · obtain ⟨b, o, rfl, hbw, hcell0, hx0, hx1⟩ := HZ.out k hlt
      have hcell : wr.cell? ⟨b, o + k, none⟩ = some (.int .i64 zs[k]) := by rw [hB.cell (p := ⟨b, o + k, none⟩) hbw]; exact hcell0
      have hkr : DkAt wr own p m v d := H1.out.keep hB.size (fun j hj => hB.block j (HL.out j hj))
      have hask := ask_any H0.out hkr hEn zs[k] (by unfold maxLen; omega)
      have hbs : b < wr.heap.size := Nat.lt_of_lt_of_le hbw hB.size
      have htl2 : d.fits zs = if (ask d acc zs[k]).1 then tell d (ask d acc zs[k]).2 (zs.drop (k + 1)) else false := by
        rw [← htl, List.drop_eq_getElem_cons hlt]
        rfl
      have hal := ask_len d acc zs[k]
      generalize zs[k] = x at *
      have HT2 := Lib.hid htl2
      have HAL := Lib.hid hal
      have HAsk := Lib.hid hask
      clear htl2 hal hask hB hEn htl hac hcell0 hbw hkr
      cases hq : (ask d acc x).1 with
      | true =>
        have HQ := Lib.hid hq
        rw [hq, if_pos rfl] at HT2
        clear hq
        go_wp2_with (go_at_call 73; refine HAsk.out.mono ?_)
        rintro e w2 ⟨rfl, hs2, hb2⟩
        rw [HQ.out]
        have HS2 := Lib.hid hs2
        have HB2 := Lib.hid hb2
        clear hs2 hb2
        go_wp2_with fail
        go_roundw
        case rel => exact ⟨k + 1, by omega, by go_num, HBr.out.trans (HB2.out.below (fun i e => by subst e; exact HA.out) HBr.out.size), _, HEr.out.step HS2.out HB2.out, (by have := HAc.out; have := HAL.out; omega), HT2.out.symm⟩
        case measure => simp [intOf]; omega
      | false =>
        have HQ := Lib.hid hq
        rw [hq, if_neg (by simp)] at HT2
        clear hq
        go_wp2_with (go_at_call 73; refine HAsk.out.mono ?_)
        rintro e w2 ⟨rfl, hs2, hb2⟩
        rw [HQ.out]
        have HB2 := Lib.hid hb2
        clear hs2 hb2
        go_wp2_with fail
        go_ret
        exact ⟨(by rw [HT2.out]; rfl), HBr.out.trans (HB2.out.below (fun i e => by subst e; exact HA.out) HBr.out.size)⟩
    · have hkn : k = zs.length := by omega
      subst hkn
      clear hB hEn htl hac
      go_wp2_with fail
      go_ret
      have := HT.out
      rw [List.drop_length] at this
      exact ⟨by rw [← this]; rfl, HBr.out⟩
end
end Go.Proofs.YtjllpbckmioiiaaDoor.dk


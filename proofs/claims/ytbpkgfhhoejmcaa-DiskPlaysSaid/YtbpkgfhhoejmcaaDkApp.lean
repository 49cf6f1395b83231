/- append of one write to the list of the unflushed. -/
import Derived.Test.YtbpkgfhhoejmcaaDkRow
import Derived.Test.YtbpkgfhhoejmcaaSlots
import Derived.Maps.AppendAt
import Derived.Deep.RegionLaw
import Derived.Great.BuildSlice
namespace Go.Proofs.Ytbpkgfhhoejmcaa.dk
open Go Go.RowKit

theorem wp_append_at {P : Program} {o : Oper} {a : Act} {w : World} {K : Act → World → Prop} {Q : Exit → Act → World → Prop} (s x : Operand) (t : TypeId)
    (ho : o.op = .call { callee := .builtin .append, args := #[s, x], argTypes := #[t, t] })
    (base : Nat) (e : TypeId) (i : TypeInfo) (z : Value) (size bytes : Nat) (ht : P.underlying t = some (.slice e)) (hi : P.info? e = some i) (hz : i.zero = some z)
    (hsize : i.size = size) (hby : i.bytes = bytes) (hzs : z.cells.size = size) (hsz : 0 < size)
    (v : Value) (n : Nat) (xs : List Value) (hs : a.eval s = v) (hown : w.ownsRow base e size v n xs)
    (ad : Addr) (m c : Nat) (news : List Value) (hx : a.eval x = .slice (some ad) m c) (hl : news.length = m * size) (hnews : ∀ j u, news[j]? = some u → w.cell? (ad.add j) = some u) (h1 : ∀ u ∈ news, u.oneCell' = true)
    (h63 : n + m ≤ maxLen) (hbytes : (n + m) * bytes ≤ 140737488355328) (hbase : base ≤ w.heap.size)
    (h : ∀ v' w', w'.ownsRow base e size v' (n + m) (xs ++ news) → w.grownBy w' v.ownBlock → (v'.ownBlock = v.ownBlock ∨ v'.ownBlock = some w.heap.size) → K (a.put o.dst v') w') : o.wp P a w K Q := by
  obtain ⟨v', w', hrun, h2, h3, _, h5⟩ := run_append_own_at (P := P) w base t o.type e i z size bytes ht hi hz hsize hby hzs hsz v n xs hown ad m c news hl hnews h1 h63 hbytes hbase
  unfold Oper.wp
  simp [execOp, ho, resolve, invoke, builtin, hs, hx, hrun, Result.andThen]
  exact h v' w' h2 h3 h5

theorem own_form {w : World} {base e size n : Nat} {v : Value} {xs : List Value} (h : w.ownsRow base e size v n xs) : ∃ A c, v = .slice A n c := by
  rcases h.2 with ⟨rfl, rfl⟩ | ⟨g, cap, cur, rfl, _⟩
  · exact ⟨none, 0, rfl⟩
  · exact ⟨_, cap, rfl⟩

theorem wrRow_length (l : List (Nat × Bt × Bt × Bool)) (h : ∀ x ∈ l, (wrCells x).length = 66) : (wrRow l).length = l.length * 66 := by
  induction l with
  | nil => rfl
  | cons x l ih =>
    have h1 := h x (by simp)
    have h2 := ih (fun y hy => h y (by simp [hy]))
    simp only [wrRow, List.flatMap_cons, List.length_append, List.length_cons] at h2 ⊢
    omega

theorem wrRow_snoc (l : List (Nat × Bt × Bt × Bool)) (x : Nat × Bt × Bt × Bool) : wrRow (l ++ [x]) = wrRow l ++ wrCells x := by simp [wrRow]

theorem fold_set : ∀ (l : List Value) (k : Nat) (acc : Array Value), k + l.length ≤ acc.size →
    (l.zipIdx k).foldl (fun a x => a.setIfInBounds (0 + x.2) x.1) acc = (acc.toList.take k ++ l ++ acc.toList.drop (k + l.length)).toArray
  | [], k, acc, _ => by simp
  | x :: l, k, acc, h => by
    have hk : k < acc.size := by simp at h; omega
    have hk' : k < acc.toList.length := by simpa using hk
    rw [List.zipIdx_cons, List.foldl_cons, fold_set l (k + 1) _ (by simp at h ⊢; omega)]
    congr 1
    simp only [Nat.zero_add, Array.toList_setIfInBounds, List.length_cons]
    rw [List.drop_set_of_lt (by omega), show k + 1 + l.length = k + (l.length + 1) by omega]
    have e : (acc.toList.set k x).take (k + 1) = acc.toList.take k ++ [x] := by
      rw [List.take_succ_eq_append_getElem (by simpa using hk)]
      simp only [List.getElem_set_self, List.take_set]
      rw [List.set_eq_of_length_le (by simp; omega)]
    rw [e]
    simp

theorem fill_one (size : Nat) (cs acc : Array Value) (h1 : cs.size = size) (h2 : acc.size = size) : Instr.fill (fun i => some (i * size, size)) acc [(0, .agg cs)] = some cs := by
  simp only [Instr.fill, Nat.zero_mul, Value.cells]
  rw [if_neg (by simp [h1, h2])]
  congr 1
  rw [← Array.foldl_toList, Array.toList_zipIdx, fold_set cs.toList 0 acc (by simp; omega)]
  simp
  rw [List.drop_eq_nil_of_le (by simp; omega)]
  simp

theorem exec_one70 {ρ : Operand → Value} {o : Oper} {w : World} (x : Operand) (cs : Array Value) (ho : o.op = .buildSlice 43 1 #[(0, x)]) (hx : ρ x = .agg cs) (hs : cs.size = 66) :
    (execOp ρ o).run Try.prog w = .ok (.value (.slice (some ⟨w.heap.size, 0, none⟩) 1 1)) (w.alloc (.cells cs 61)) := by
  obtain ⟨i0, hi, hz0, hz1, hz2⟩ := info_parts info70
  have hr := run_buildSlice (P := Try.prog) w 43 61 1 #[(0, .agg cs)] cs i0 _ Try.underlying43 hi hz0 (by rw [hz1]; decide) (by rw [hz1]; decide) (by
    rw [hz1]
    exact fill_one 66 cs _ hs (by simp))
  simp [execOp, ho, hx, hr, Result.andThen]

theorem exec_load70 {ρ : Operand → Value} {o : Oper} {w : World} (x : Operand) (ho : o.op = .load 61 x) (g : Nat) (hx : ρ x = .pointer (some ⟨g, 0, none⟩)) (cs : Array Value) (hg : Blk w g 61 cs) (hs : cs.size = 66) :
    (execOp ρ o).run Try.prog w = .ok (.value (.agg cs)) w := by
  have := exec_load_part (P := Try.prog) (w := w) 61 x ho g 0 hx 61 cs cs.toList (0, 0) _ hg Try.underlying61 rfl (by rw [size70]; simp [hs]) (fun j u hu => by rw [Nat.zero_add]; simpa using hu)
  simpa using this

theorem exec_load59 {ρ : Operand → Value} {o : Oper} {w : World} (x : Operand) (ho : o.op = .load 43 x) (b i : Nat) (hx : ρ x = .pointer (some ⟨b, i, none⟩)) (A : Option Addr) (n c : Nat) (hc : w.cell? ⟨b, i, none⟩ = some (.slice A n c)) :
    (execOp ρ o).run Try.prog w = .ok (.value (.slice A n c)) w := by
  unfold execOp
  simp only [ho, hx]
  go_simp

/-- Three operations, i beside j, l behind j: i and j only read, l makes memory. -/
theorem wpAny_diamond {P : Program} {md : Region.Mode} {ops : Array Oper} {Q : Exit → Act → World → Prop} {i j l : Nat} {oi oj ol : Oper} {di dj dl : Tmp} {vi vj vl : Value} {fuel : Nat} {listed : Array Bool} {a : Act} {w w2 : World}
    (hr : Region.ready md ops listed = [i, j]) (hri : Region.ready md ops (listed.setIfInBounds i true) = [j]) (hrij : Region.ready md ops ((listed.setIfInBounds i true).setIfInBounds j true) = [l])
    (hrj : Region.ready md ops (listed.setIfInBounds j true) = [i, l]) (hrjl : Region.ready md ops ((listed.setIfInBounds j true).setIfInBounds l true) = [i])
    (hij : i ≠ j) (hil : i ≠ l) (hoi : ops[i]? = some oi) (hoj : ops[j]? = some oj) (hol : ops[l]? = some ol) (hgi : oi.guard = none) (hgj : oj.guard = none) (hgl : ol.guard = none)
    (hdi : oi.dst = some di) (hdj : oj.dst = some dj) (hdl : ol.dst = some dl) (d1 : di ≠ dj) (d2 : di ≠ dl)
    (hi0 : (execOp a.eval oi).run P w = .ok (.value vi) w) (hi1 : (execOp (a.put (some dj) vj).eval oi).run P w = .ok (.value vi) w) (hi2 : (execOp ((a.put (some dj) vj).put (some dl) vl).eval oi).run P w2 = .ok (.value vi) w2)
    (hj0 : (execOp a.eval oj).run P w = .ok (.value vj) w) (hj1 : (execOp (a.put (some di) vi).eval oj).run P w = .ok (.value vj) w)
    (hl1 : (execOp ((a.put (some di) vi).put (some dj) vj).eval ol).run P w = .ok (.value vl) w2) (hl2 : (execOp (a.put (some dj) vj).eval ol).run P w = .ok (.value vl) w2)
    (h : wpAny P md ops Q fuel (((listed.setIfInBounds i true).setIfInBounds j true).setIfInBounds l true) (((a.put (some di) vi).put (some dj) vj).put (some dl) vl) w2) : wpAny P md ops Q (fuel + 3) listed a w := by
  have tail : ∀ (b : Act) (ls : Array Bool), b = (a.put (some di) vi).put (some dj) vj → ls = (listed.setIfInBounds i true).setIfInBounds j true → wpAny P md ops Q (fuel + 1) ls b w := by
    rintro b ls rfl rfl
    refine wpAny_one hrij hol hgl (wp_of_value hl1 ?_)
    rw [hdl]
    exact h
  have hwi : ∀ b : Act, Region.wanted oi (yielded ops b.tmps) = true := fun b => by simp [Region.wanted, hgi]
  have hwj : ∀ b : Act, Region.wanted oj (yielded ops b.tmps) = true := fun b => by simp [Region.wanted, hgj]
  have hwl : ∀ b : Act, Region.wanted ol (yielded ops b.tmps) = true := fun b => by simp [Region.wanted, hgl]
  refine wpAny_all hr (by simp) fun k hk => ?_
  rcases (show k = i ∨ k = j by simpa using hk) with rfl | rfl
  · unfold wpOp
    simp only [hoi, hwi, if_true]
    left
    refine wp_of_value hi0 ?_
    rw [hdi]
    refine wpAny_one hri hoj hgj (wp_of_value hj1 ?_)
    rw [hdj]
    exact tail _ _ rfl rfl
  · unfold wpOp
    simp only [hoj, hwj, if_true]
    left
    refine wp_of_value hj0 ?_
    rw [hdj]
    refine wpAny_all hrj (by simp) fun n hn => ?_
    rcases (show n = i ∨ n = l by simpa using hn) with rfl | rfl
    · unfold wpOp
      simp only [hoi, hwi, if_true]
      left
      refine wp_of_value hi1 ?_
      rw [hdi]
      exact tail _ _ (put_comm' a dj di vj vi (Ne.symm d1)) (Array.setIfInBounds_comm _ _ (Ne.symm hij))
    · unfold wpOp
      simp only [hol, hwl, if_true]
      left
      refine wp_of_value hl2 ?_
      rw [hdl]
      refine wpAny_one hrjl hoi hgi (wp_of_value hi2 ?_)
      rw [hdi, put_comm' _ dl di vl vi (Ne.symm d2), put_comm' a dj di vj vi (Ne.symm d1), Array.setIfInBounds_comm _ _ (Ne.symm hil), Array.setIfInBounds_comm (xs := listed) _ _ (Ne.symm hij)]
      exact h

end Go.Proofs.Ytbpkgfhhoejmcaa.dk

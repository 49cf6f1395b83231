/- The walk of SpaceOnce. -/
import Derived.Test.YtpeeoaogklkjlaaSpWSu
import Derived.Laws.AppendOwnNone
namespace Go.Proofs.Ytpeeoaogklkjlaa.sp
open Go Go.RowKit Go.ChangeShapes Go.WideShapes Go.Proofs.Ytpeeoaogklkjlaa.ib
set_option maxRecDepth 100000

/-! ### A slice of lists that the call makes -/
def SlV (w : World) (v : Value) (zs : List Int) : Prop := ∃ A c, v = .slice A zs.length c ∧ IntsAt w A zs ∧ zs.length ≤ 9223372036854775807
theorem SlV.below {w w' : World} {v : Value} {zs : List Int} (h : SlV w v zs) (hb : Below w.heap.size w w') : SlV w' v zs := by
  obtain ⟨A, c, h1, h2, h3⟩ := h
  exact ⟨A, c, h1, h2.below hb, h3⟩
def Vals (w : World) (vs : List Value) (zss : List (List Int)) : Prop := vs.length = zss.length ∧ ∀ i (h : i < zss.length), ∃ v, vs[i]? = some v ∧ SlV w v zss[i]
theorem Vals.below {w w' : World} {vs : List Value} {zss : List (List Int)} (h : Vals w vs zss) (hb : Below w.heap.size w w') : Vals w' vs zss :=
  ⟨h.1, fun i hi => by obtain ⟨v, h1, h2⟩ := h.2 i hi; exact ⟨v, h1, h2.below hb⟩⟩
theorem Vals.one {w : World} {vs : List Value} {zss : List (List Int)} (h : Vals w vs zss) : ∀ u ∈ vs, u.oneCell' = true := by
  intro u hu
  obtain ⟨i, hi, rfl⟩ := List.getElem_of_mem hu
  obtain ⟨v, h1, A, c, rfl, _⟩ := h.2 i (by rw [← h.1]; exact hi)
  rw [List.getElem?_eq_getElem hi] at h1
  rw [Option.some.inj h1]
  rfl
theorem Vals.snoc {w : World} {vs : List Value} {zss : List (List Int)} {v : Value} {zs : List Int} (h : Vals w vs zss) (hv : SlV w v zs) : Vals w (vs ++ [v]) (zss ++ [zs]) := by
  refine ⟨by simp [h.1], fun i hi => ?_⟩
  by_cases hl : i < zss.length
  · obtain ⟨u, h1, h2⟩ := h.2 i hl
    refine ⟨u, by rw [List.getElem?_append_left (by rw [h.1]; exact hl)]; exact h1, ?_⟩
    rw [List.getElem_append_left hl]
    exact h2
  · have e : i = zss.length := by simp at hi; omega
    subst e
    refine ⟨v, by rw [List.getElem?_append_right (by rw [h.1]; exact Nat.le_refl _), h.1, Nat.sub_self]; rfl, ?_⟩
    rw [List.getElem_append_right (Nat.le_refl _)]
    simpa using hv

/-- What came in, as the values that lie there. -/
theorem ImsAt.vals {w : World} {a : Option Addr} {zss : List (List Int)} (h : ImsAt w a zss) : ∃ vs, Vals w vs zss ∧ ∀ b o, a = some ⟨b, o, none⟩ → ∀ j u, vs[j]? = some u → w.cell? ⟨b, o + j, none⟩ = some u := by
  obtain ⟨vs, hl, hv⟩ := choose_list (p := fun i (v : Value) => ∀ (hi : i < zss.length), SlV w v zss[i] ∧ ∀ b o, a = some ⟨b, o, none⟩ → w.cell? ⟨b, o + i, none⟩ = some v) zss.length (fun i hi => by
    obtain ⟨b, o, A, c, h1, h2, h3, h4, h5⟩ := h i hi
    refine ⟨.slice A zss[i].length c, fun _ => ⟨⟨A, c, rfl, h4, h5⟩, fun b' o' e => ?_⟩⟩
    rw [h1] at e
    simp only [Option.some.injEq, Addr.mk.injEq, and_true] at e
    obtain ⟨rfl, rfl⟩ := e
    exact h3)
  refine ⟨vs, ⟨hl, fun i hi => ⟨vs[i], List.getElem?_eq_getElem _, (hv i (by omega) hi).1⟩⟩, fun b o e j u hu => ?_⟩
  obtain ⟨hj, rfl⟩ := List.getElem?_eq_some_iff.1 hu
  exact (hv j hj (by omega)).2 b o e

def OImgs (w : World) (B : Nat) (v : Value) (vs : List Value) : Prop := w.ownsRow B 23 1 v vs.length vs
theorem infoSl : (Try.prog.info? 23).map (fun i => (i.zero, i.size, i.bytes)) = some (some (.slice none 0 0), 1, 24) := by kernel_rfl
theorem OImgs.view {w : World} {B : Nat} {v : Value} {vs : List Value} {zss : List (List Int)} (h : OImgs w B v vs) (hv : Vals w vs zss) : ∃ a c, v = .slice a zss.length c ∧ ImsAt w a zss := by
  rcases h.2 with ⟨rfl, h0⟩ | ⟨g, cap, cur, rfl, hg, hh, hcc, hm, hcs, hcur⟩
  · have hz : zss.length = 0 := by rw [← hv.1]; exact h0
    exact ⟨none, 0, by rw [hz], fun i hi => by omega⟩
  · refine ⟨some ⟨g, 0, none⟩, cap, by rw [hv.1], fun i hi => ?_⟩
    obtain ⟨u, h1, A, c, rfl, h3, h4⟩ := hv.2 i hi
    refine ⟨g, 0, A, c, rfl, (Array.getElem?_eq_some_iff.1 hh).1, ?_, h3, h4⟩
    rw [Nat.zero_add, cell_of_row w g i cur 23 (0, 0) hh]
    have h5 : (cur.toList.take (vs.length * 1))[i]? = some (.slice A zss[i].length c) := by rw [hcur]; exact h1
    rw [List.getElem?_take] at h5
    split at h5
    · simpa using h5
    · cases h5

/-! ### What is taken of counts -/
theorem taken_at {cs : List Int} {m i : Nat} (h : i < ((frees cs cs.length).take m).length) : ∃ j : Nat, ((frees cs cs.length).take m)[i] = (j : Int) ∧ 193 ≤ j ∧ j < cs.length ∧ cs[j]? = some 0 := by
  obtain ⟨j, h1, h2, h3, h4⟩ := mem_frees.1 (List.mem_of_mem_take (List.getElem_mem h))
  refine ⟨j, h1, h3, h2, ?_⟩
  rw [List.getElem?_eq_getElem h2]
  have : cs.getD j 0 = cs[j] := by simp [List.getD, h2]
  rw [← this, h4]
theorem taken_rise {cs : List Int} {m i : Nat} (h : i + 1 < ((frees cs cs.length).take m).length) : ((frees cs cs.length).take m)[i]'(by omega) < ((frees cs cs.length).take m)[i + 1] :=
  List.pairwise_iff_getElem.1 ((frees_rise cs cs.length).take) i (i + 1) (by omega) h (by omega)
theorem taken_more {zss : List (List Int)} {cs : List Int} {m : Nat} (h : sCounts zss 400 = (cs, 0)) (hl : cs.length = 400) (hm : m ≤ sFree cs) :
    ∃ ds, sCounts (zss ++ [(frees cs cs.length).take m]) 400 = (ds, 0) ∧ (sFree ds : Int) = (sFree cs : Int) - (m : Int) := by
  have hc : cnts 400 (List.replicate 400 0) zss.flatten = some cs := by
    unfold sCounts at h
    rw [if_neg (by omega)] at h
    cases hx : cnts 400 (List.replicate (400 : Int).toNat 0) zss.flatten with
    | none => rw [hx] at h; cases h
    | some c => rw [hx] at h; simp at h; rw [← h]; exact hx
  obtain ⟨ds, d1, d2, d3⟩ := cnts_free (n := 400) ((frees cs cs.length).take m) cs ((frees_rise cs cs.length).take) (fun z hz => by
    obtain ⟨j, h1, h2, h3, h4⟩ := mem_frees.1 (List.mem_of_mem_take hz)
    exact ⟨j, h1, h2, h3, h4⟩) (by omega)
  refine ⟨ds, ?_, ?_⟩
  · unfold sCounts
    have : (zss ++ [(frees cs cs.length).take m]).flatten = zss.flatten ++ (frees cs cs.length).take m := by simp
    have e : cnts 400 (List.replicate (400 : Int).toNat 0) (zss.flatten ++ (frees cs cs.length).take m) = some ds := by
      rw [cnts_append]
      show (cnts 400 (List.replicate 400 0) zss.flatten).bind _ = _
      rw [hc]
      exact d1
    rw [if_neg (by omega), this, e]
  · have hlen : ((frees cs cs.length).take m).length = m := by
      rw [List.length_take]
      unfold sFree at hm
      omega
    rw [hlen] at d3
    omega
def OnRel1 (w0 : World) (m : Nat) (i : Value) (wr : World) : Prop := ∃ k : Nat, k ≤ m ∧ i = .int .i64 (k : Int) ∧ Below w0.heap.size w0 wr
def OnRel2 (cs : List Int) (w0 : World) (f i : Value) (wr : World) : Prop := ∃ k : Nat, 193 ≤ k ∧ k ≤ 400 ∧ i = .int .i64 (k : Int) ∧ f = .int .i64 ((frees cs k).length : Int) ∧ Below w0.heap.size w0 wr
end Go.Proofs.Ytpeeoaogklkjlaa.sp

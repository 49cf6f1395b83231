/- A list of one's own, 60 places at most; the document's own Diff and With. -/
import Derived.Test.YtadobhfmhcaofaaImRef
namespace Go.Proofs.Ytadobhfmhcaofaa.im
open Go Go.RowKit Go.Proofs.Ytadobhfmhcaofaa.ib
set_option maxRecDepth 100000

/-- A list that the call made, and may append to. -/
def okO (r : List Int) (w : World) (e : Ending) (w' : World) : Prop := ∃ v, e = .returned v ∧ OInts w' w.heap.size v r ∧ Below w.heap.size w w'
theorem nums_row {w : World} {ad : Addr} {zs : List Int} (h : IntsAt w (some ad) zs) (m : Nat) : ∀ (j : Nat) (u : Value), ((zs.take m).map (Value.int .i64))[j]? = some u → w.cell? (ad.add j) = some u := by
  intro j u hu
  rw [List.getElem?_map] at hu
  cases hz : (zs.take m)[j]? with
  | none => rw [hz] at hu; cases hu
  | some z =>
    rw [hz] at hu
    injection hu with hu
    subst hu
    obtain ⟨hj, rfl⟩ := List.getElem?_eq_some_iff.1 hz
    have hj' : j < zs.length := by simp at hj; omega
    obtain ⟨b, o, h1, _, h3, _⟩ := h j hj'
    injection h1 with h1
    subst h1
    rw [addr_add, h3, List.getElem_take]
theorem nums_one (zs : List Int) : ∀ u ∈ zs.map (Value.int .i64), u.oneCell' = true := by
  intro u hu
  obtain ⟨z, _, rfl⟩ := List.mem_map.1 hu
  rfl

set_option maxHeartbeats 1600000 in
theorem own_any (A : Option Addr) (c : Nat) (l : List Int) (w : World) (hp : IntsAt w A l) (hl : l.length ≤ 9223372036854775807) (hc : l.length ≤ c) (hn : A = none → l.length = 0 ∧ c = 0) :
    Calls Try.prog 9 #[.slice A l.length c] w (okO (l.take 60) w) := by
  obtain ⟨i0, hi, hz0, hz1, hz2⟩ := info_parts infoInt
  have H0 : Hid (w.ownsRow w.heap.size 3 1 (.slice none 0 0) 0 []) := World.ownsRow_nil _ _ _ _
  cases A with
  | none =>
    obtain ⟨h1, rfl⟩ := hn rfl
    obtain rfl : l = [] := List.length_eq_zero_iff.1 h1
    clear hn hp
    go_enter Try.func9, Try.ntmps9
    go_wp2_with (at_builtin; refine wpList_append_own_none rfl (.tmp 4) (.tmp 9) 22 rfl w.heap.size 3 i0 1 Try.underlying22 hi _ 0 [] rfl H0.out rfl ?_)
    go_ret
    exact ⟨_, rfl, H0.out, Below.refl _ _⟩
  | some ad =>
    have hci : (l.length : Int) ≤ (c : Int) := by omega
    have HNEWS := Lib.hid (nums_row hp 60)
    have HONE := Lib.hid (nums_one (l.take 60))
    clear hp hn
    by_cases h60 : l.length ≤ 60
    · have h60i : (l.length : Int) ≤ 60 := by omega
      have HT : Hid (l.take 60 = l) := List.take_of_length_le h60
      rw [HT.out] at HNEWS HONE ⊢
      go_enter Try.func9, Try.ntmps9
      go_wp2_with (at_builtin; refine wpList_append_own _ rfl (.tmp 4) (.tmp 9) 22 rfl w.heap.size 3 i0 (.int .i64 0) 1 8 Try.underlying22 hi hz0 hz1 hz2 rfl (by decide) _ 0 [] rfl H0.out ad l.length c (l.map (Value.int .i64)) rfl (by rw [List.length_map, Nat.mul_one]) HNEWS.out HONE.out ?_ ?_ (Nat.le_refl _) ?_)
      · unfold maxLen; omega
      · omega
      · intro v' w1 hown hgrow _
        have hb1 := (Below.refl w.heap.size w).grown hgrow (Nat.le_refl _) (fun j hj => (H0.out.lt j hj).1)
        go_wp2_with fail
        go_ret
        exact ⟨_, rfl, hown, hb1⟩
    · have h60i : ¬ (l.length : Int) ≤ 60 := by omega
      have HT : Hid ((l.take 60).length = 60) := by unfold Hid; rw [List.length_take]; omega
      have h60c : (60 : Int) ≤ (c : Int) := by omega
      go_enter Try.func9, Try.ntmps9
      go_wp2_with (at_builtin; refine wpList_append_own _ rfl (.tmp 4) (.tmp 9) 22 rfl w.heap.size 3 i0 (.int .i64 0) 1 8 Try.underlying22 hi hz0 hz1 hz2 rfl (by decide) _ 0 [] rfl H0.out ad 60 c ((l.take 60).map (Value.int .i64)) rfl (by rw [List.length_map, HT.out]) HNEWS.out HONE.out ?_ ?_ (Nat.le_refl _) ?_)
      · unfold maxLen; omega
      · intro v' w1 hown hgrow _
        have hb1 := (Below.refl w.heap.size w).grown hgrow (Nat.le_refl _) (fun j hj => (H0.out.lt j hj).1)
        have hown2 : OInts w1 w.heap.size v' (l.take 60) := by unfold OInts; rw [HT.out, List.map_take]; exact hown
        go_wp2_with fail
        go_ret
        exact ⟨_, rfl, hown2, hb1⟩
end Go.Proofs.Ytadobhfmhcaofaa.im

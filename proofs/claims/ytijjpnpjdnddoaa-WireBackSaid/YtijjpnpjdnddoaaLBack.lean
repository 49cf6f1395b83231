/- WireBack: what is put one behind the other is read back just so, for every input. -/
import Derived.Test.YtijjpnpjdnddoaaRows
import Derived.Test.YtijjpnpjdnddoaaBackW
import Derived.WalkKit
import Derived.ProofKit
import Derived.OpenShut
import Derived.ShutString
import Derived.ChangeOld
import Derived.Below
import Derived.SliceStrings
namespace Go.Proofs.Ytijjpnpjdnddoaa.wireBack
open Go.ChangeShapes Go.WideShapes Go.ChangeAt Go.RowKit

theorem own : ownKnob Try.prog.godebug = none := by kernel_rfl
theorem laidOut : laidOutB Try.prog = true := by kernel_rfl

/-- A list of numbers that came in, cut to its first k. -/
theorem nums_at (w : World) (a : Addr) (zs : List Int) (k : Nat) (hc : ∀ i, i < zs.length → w.cell? (a.add i) = some (.int .u64 (zs.getD i 0))) (hw : ∀ n ∈ zs, (Lit.int .u64 n).wf = true) :
    NumsAt w (some a) ((zs.take k).map Int.toNat) := by
  intro i h
  have h1 : i < zs.length := by simp at h; omega
  have hci := hc i h1
  have hs := World.cell?_spot (hc 0 (by omega))
  have hwi := bounds_u64 (hw zs[i] (List.getElem_mem h1))
  obtain ⟨b, o, s⟩ := a
  have hs0 : s = none := by simpa [Addr.add] using hs
  subst hs0
  rw [addr_add] at hci
  have e : ((zs.take k).map Int.toNat)[i] = zs[i].toNat := by simp
  have g : zs.getD i 0 = zs[i] := by simp [List.getD, h1]
  rw [e]
  refine ⟨by omega, b, o, rfl, World.block_lt_of_cell? w _ hci, ?_⟩
  rw [hci, g]
  have : ((zs[i].toNat : Nat) : Int) = zs[i] := by omega
  rw [this]

/-- A list of texts that came in, cut to its first k. -/
theorem texts_at (w : World) (a : Addr) (ss : List ByteArray) (k : Nat) (hc : ∀ i, i < ss.length → w.cell? (a.add i) = some (.string (ss.getD i ByteArray.empty))) (hw : ∀ s ∈ ss, s.size ≤ maxLen) :
    TextsAt w (some a) (ss.take k) := by
  intro i h
  have h1 : i < ss.length := by simp at h; omega
  have hci := hc i h1
  have hs := World.cell?_spot (hc 0 (by omega))
  have hwi := hw ss[i] (List.getElem_mem h1)
  obtain ⟨b, o, s⟩ := a
  have hs0 : s = none := by simpa [Addr.add] using hs
  subst hs0
  rw [addr_add] at hci
  have e : (ss.take k)[i] = ss[i] := by simp
  have g : ss.getD i ByteArray.empty = ss[i] := by simp [List.getD, h1]
  rw [e]
  refine ⟨by unfold maxLen at hwi; omega, b, o, rfl, World.block_lt_of_cell? w _ hci, ?_⟩
  rw [hci, g]

set_option maxRecDepth 100000 in
theorem lifted (os : Os) (started : os.Started) (H : Type) (enc : TypeId × Value → H) :
    ReturnsInHanded {} Try.checked os 5 .any (Rows.wireBackSpec.pre6 enc Try.prog Try.f5 Rows.wireBackRow.domain false) (Rows.wireBackSpec.post enc Try.prog Try.f5 false true false false) := by
  refine returnsInHanded_of_change (C := Try.checked) own started (by kernel_rfl) Try.func5
    (ChangeSpec.witness6 (enc := enc) (C := Try.checked) false ⟨#[], #[.slice none 0 0, .slice none 0 0], []⟩ 8 (by kernel_rfl) (by kernel_rfl) (by kernel_rfl) (by kernel_rfl)) ?_
  intro W base args ds gs before hval0 hW _ _
  have hval : ∀ (j : Nat) t v, Try.f5.params[j]? = some t → args[j]? = some v → Value.okWide Try.prog W .any base t v := hval0
  have hW' := hW
  obtain ⟨p, q, hA0, hV, rfl, hfz, hnd⟩ := hW
  have hA : DataW.TrodAll enc Try.prog W 0 (fun _ => true) true Try.f5.params.toList args.toList ds p := hA0
  rw [Try.params5] at hA hval
  obtain ⟨v0, vs0, d0, ds0, p0, q0, hargs, rfl, rfl, h0, r0⟩ := trodAll_cons hA
  obtain ⟨v1, vs1, d1, ds1, p1, q1, rfl, rfl, rfl, h1, r1⟩ := trodAll_cons r0
  obtain ⟨rfl, rfl, rfl⟩ := trodAll_nil r1
  obtain rfl : args = #[v0, v1] := by cases args; simp_all
  obtain ⟨rfl, rfl⟩ := trodVars_none hV
  obtain ⟨a0, l0, c0, rfl⟩ := okWide_slice Try.underlying36 (hval 0 36 v0 rfl rfl)
  obtain ⟨a1, l1, c1, rfl⟩ := okWide_slice Try.underlying37 (hval 1 37 v1 rfl rfl)
  have k0 := h0
  have k1 := h1
  have lt0 : ∀ x ∈ p0, x.block < W.heap.size := by obtain ⟨m, hm⟩ := k0; exact DataW.trod_lt m _ _ _ hm
  have lt1 : ∀ x ∈ p1, x.block < W.heap.size := by obtain ⟨m, hm⟩ := k1; exact DataW.trod_lt m _ _ _ hm
  obtain ⟨zs, hz1, hz2, hz3, hz4⟩ : ∃ zs : List Nat, l0 ≤ c0 ∧ c0 ≤ 9223372036854775807 ∧ zs.length = (min (l0 : Int) 30).toNat ∧ NumsAt W a0 zs := by
    obtain ⟨fuel, hf⟩ := h0
    rcases open_ints Try.underlying36 Try.underlying22 (by kernel_rfl) hf with ⟨hcs, _⟩ | ⟨x, l, c, zs, hcs, _, hl, hm, hz, _, hcell, hwz⟩
    · simp [Value.cells] at hcs
      obtain ⟨rfl, rfl, rfl⟩ := hcs
      exact ⟨[], by omega, by omega, rfl, fun i h => absurd h (by simp)⟩
    · simp [Value.cells] at hcs
      obtain ⟨rfl, rfl, rfl⟩ := hcs
      have hzc : zs.length = c0 := by simpa using hz
      refine ⟨(zs.take (min (l0 : Int) 30).toNat).map Int.toNat, hl, by unfold maxLen at hm; omega, by simp; omega, nums_at W x zs _ hcell hwz⟩
  obtain ⟨ts, ht1, ht2, ht3, ht4⟩ : ∃ ts : List ByteArray, l1 ≤ c1 ∧ c1 ≤ 9223372036854775807 ∧ ts.length = (min (l1 : Int) 30).toNat ∧ TextsAt W a1 ts := by
    obtain ⟨fuel, hf⟩ := h1
    rcases open_strings Try.underlying37 Try.underlying9 (by kernel_rfl) hf with ⟨hcs, _⟩ | ⟨x, l, c, ss, hcs, _, hl, hm, hz, _, hcell, hwz⟩
    · simp [Value.cells] at hcs
      obtain ⟨rfl, rfl, rfl⟩ := hcs
      exact ⟨[], by omega, by omega, rfl, fun i h => absurd h (by simp)⟩
    · simp [Value.cells] at hcs
      obtain ⟨rfl, rfl, rfl⟩ := hcs
      have hzc : ss.length = c1 := by simpa using hz
      refine ⟨ss.take (min (l1 : Int) 30).toNat, hl, by unfold maxLen at hm; omega, by simp; omega, texts_at W x ss _ hcell hwz⟩
  clear hA0 hval0
  refine (back_walk a0 a1 l0 l1 c0 c1 zs ts W hz1 ht1 hz2 ht2 hz3 ht3 hz4 ht4).mono fun e W' ⟨he, bel⟩ => ?_
  subst he
  exact ⟨_, rfl, _, _, _, [], _, [], hW', trodAll_mk1 (shut_bool Try.underlying4 _), (trodAll_cons_mk (Below.trod laidOut (by kernel_rfl) (of_decide_eq_true (by kernel_rfl)) k0 bel lt0) (trodAll_cons_mk (Below.trod laidOut (by kernel_rfl) (of_decide_eq_true (by kernel_rfl)) k1 bel lt1) trodAll_mk0)), rfl, bel.frame _, fun h => by cases h⟩

theorem over : Rows.wireBackRow.holds Try.pinned (OpenSpec.ofChange Rows.wireBackSpec) :=
  OpenClaim.holds_of_wide 5 Try.f5 rfl rfl rfl rfl rfl rfl rfl ⟨rfl, rfl, rfl, rfl, rfl⟩ rfl rfl rfl rfl rfl (by kernel_rfl) Try.func5 (by kernel_rfl)
    (of_decide_eq_true (by kernel_rfl)) (by unfold Func.isWrapper; first | (rw [if_pos (by decide +kernel)]; kernel_rfl) | (rw [if_neg (by decide +kernel)]; exact ⟨rfl, rfl⟩))
    (fun os started H enc _ => lifted os started H enc)

theorem proved : Rows.WireBackSaid := over
#print axioms proved
end Go.Proofs.Ytijjpnpjdnddoaa.wireBack

/- What the document's own Pack does. -/
import Derived.Test.YtpjjmaknajjimaaDoorFRef
import Derived.Test.YtpjjmaknajjimaaDoorFPack
namespace Go.Proofs.YtpjjmaknajjimaaDoor
open Go.RowKit

def RPackRel (f : List UInt8) (n : Nat) (w : World) (v i : Value) (wr : World) : Prop :=
  ∃ k : Nat, i = .int .i64 ((32 * k : Nat) : Int) ∧ k ≤ n ∧ OwnsStrs wr w.heap.size v (chunks k f) ∧ Below w.heap.size w wr

theorem own_one {wr : World} {B : Nat} {v : Value} {ps : List (List UInt8)} (h : OwnsStrs wr B v ps) (p : List UInt8) :
    (wr.alloc (.cells #[.string (str p)] 9)).ownsRow B 9 1 v ps.length (strVals ps) :=
  World.ownsRow.alloc h (.cells #[.string (str p)] 9)

theorem one_news (w : World) (p : List UInt8) :
    ∀ j u, ([Value.string (str p)] : List Value)[j]? = some u → (w.alloc (.cells #[.string (str p)] 9)).cell? ((⟨w.heap.size, 0, none⟩ : Addr).add j) = some u := by
  intro j u hj
  match j, hj with
  | 0, hj =>
    simp at hj
    subst hj
    obtain ⟨b, q, he, _, hc⟩ := strsAt_new [p] w 0 (by simp)
    rw [addr_add]
    simp only [Option.some.injEq, Addr.mk.injEq, and_true] at he
    obtain ⟨h1, h2⟩ := he
    rw [← h1, ← h2] at hc
    exact hc

theorem one_cell (p : List UInt8) : ∀ u ∈ ([Value.string (str p)] : List Value), u.oneCell' = true := by
  intro u hu
  simp at hu
  subst hu
  rfl

theorem rpack_long (s : ByteArray) (w : World) (hs : 8192 < s.size) :
    Calls Tryd.prog 9 #[.string s] w fun e w' => e = .returned (.tuple #[.slice none 0 0, .int .i64 3]) ∧ Below w.heap.size w w' := by
  have hc : (8192 : Int) < (s.size : Int) := by omega
  go_enter Tryd.func9, Tryd.ntmps9
  go_wp2
  go_ret2
  exact ⟨rfl, Below.refl _ _⟩

set_option maxHeartbeats 1600000 in
theorem rpack_any (s : ByteArray) (w : World) (hs : s.size ≤ 8192) :
    Calls Tryd.prog 9 #[.string s] w (okPack s w) := by
  obtain ⟨i0, hi, hz0, hz1, hz2⟩ := info_parts Tryd.info9
  have hsec := secs_chunks (bl s)
  have hwl := wholeB_length (bl s)
  rw [bl_len] at hsec hwl
  have hns : nsec s.size ≤ 1000 := by unfold nsec; omega
  have hwh := whole_any s w (by omega)
  have hfs := str_size (wholeB (bl s))
  rw [hwl] at hfs
  have hext : ∀ k, (str (wholeB (bl s))).extract (32 * k) (32 * k + 32) = str (secAt (wholeB (bl s)) k) := by
    intro k
    rw [← str_bl (ByteArray.extract _ _ _), bl_extract, bl_str]
    simp [secAt]
  have Hext := Lib.hid hext
  have Hsec := Lib.hid hsec
  have Hwh := Lib.hid hwh
  clear hext hsec hwl hwh
  generalize wholeB (bl s) = f at *
  generalize nsec s.size = n at *
  generalize str f = x at *
  go_enter Tryd.func9, Tryd.ntmps9
  go_wp2_with (go_at_call 20; refine Hwh.out.mono ?_)
  rintro e W1 ⟨rfl, b1⟩
  clear Hwh
  go_wp2
  go_loopw [5, 6] (fun v i wr => RPackRel f n w v i wr) (fun _ i _ => 32 * n - (intOf i).toNat)
  case atStart => exact ⟨0, rfl, Nat.zero_le _, World.ownsRow_nil _ _ _ _, b1⟩
  case round =>
    clear b1
    obtain ⟨k, rfl, hk, hown, hB⟩ := hrel
    by_cases hlt : k < n
    · have hci : ((32 * k : Nat) : Int) < (x.size : Int) := by omega
      have hlen := chunks_length k f
      have hsnoc := chunks_snoc k f
      have hown2 := own_one hown (secAt f k)
      rw [hlen] at hown2
      have hnews := one_news wr (secAt f k)
      have h1c := one_cell (secAt f k)
      have hx1 := Hext.out k
      have hB2 := below_new hB (.cells #[.string (str (secAt f k))] 9)
      have hb2s := hB2.size
      have Hown2 := Lib.hid hown2
      have Hnews := Lib.hid hnews
      have H1c := Lib.hid h1c
      have Hsnoc := Lib.hid hsnoc
      clear hown2 hnews h1c hsnoc hown hB
      generalize secAt f k = p at *
      go_wp2_with (at_builtin; refine wpList_append_own _ rfl (.tmp 18) (.tmp 24) 22 rfl w.heap.size 9 i0 (.string ByteArray.empty) 1 16 Tryd.underlying22 hi hz0 hz1 hz2 rfl (by decide) _ k _ rfl Hown2.out ⟨wr.heap.size, 0, none⟩ 1 1 [.string (str p)] rfl rfl Hnews.out H1c.out ?_ ?_ hb2s ?_)
      · unfold maxLen; omega
      · omega
      · intro v' w1 hown1 hgrow _
        have hn1 := owns_snoc hlen hown1
        have hb1 := hB2.grown hgrow hb2s (fun j hj => (Hown2.out.lt j hj).1)
        rw [← Hsnoc.out] at hn1
        clear hown1 hgrow hB2
        go_wp2
        go_roundw
        case rel => exact ⟨k + 1, by go_num, by omega, hn1, hb1⟩
        case measure => simp [intOf]; omega
    · have hk' : k = n := by omega
      subst hk'
      have hci : ¬ ((32 * k : Nat) : Int) < (x.size : Int) := by omega
      rw [← Hsec.out] at hown
      go_wp2
      go_ret2
      exact ⟨_, rfl, hown, hB⟩

end Go.Proofs.YtpjjmaknajjimaaDoor

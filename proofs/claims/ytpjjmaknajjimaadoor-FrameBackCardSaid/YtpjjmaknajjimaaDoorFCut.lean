/- What cut of package frame does. -/
import Derived.Test.YtpjjmaknajjimaaDoorFCopy
namespace Go.Proofs.YtpjjmaknajjimaaDoor
open Go.RowKit

def FCutRel (f : List UInt8) (w : World) (v left : Value) (wr : World) : Prop :=
  ∃ k : Nat, left = .string (str (f.drop (32 * k))) ∧ 32 * k < f.length + 32 ∧ OwnsStrs wr w.heap.size v (cutsB k f) ∧ Below w.heap.size w wr

def okOwns (ps : List (List UInt8)) (w : World) (e : Ending) (w' : World) : Prop :=
  ∃ v, e = .returned v ∧ OwnsStrs w' w.heap.size v ps ∧ Below w.heap.size w w'

theorem convert32 (w : World) (P : List UInt8) (h : P.length = 32) :
    (convert 33 9 (.slice (some ⟨w.heap.size, 0, none⟩) 32 32)).run Tryd.prog (w.alloc (.cells (Lib.byteCells P).toArray 48)) = .ok (.string (str P)) (w.alloc (.cells (Lib.byteCells P).toArray 48)) := by
  have := run_convert_bytes_back (P := Tryd.prog) (w.alloc (.cells (Lib.byteCells P).toArray 48)) 33 9 5 ⟨w.heap.size, 0, none⟩ 32 P Tryd.underlying33 Tryd.underlying5 Tryd.underlying9 (by
    intro j hj
    rw [addr_add, Nat.zero_add]
    simp [World.cell?, World.alloc, -World.alloc_eq, Lib.byteCells, hj])
  rw [h] at this
  exact this

theorem own_two {wr : World} {B : Nat} {v : Value} {ps : List (List UInt8)} (h : OwnsStrs wr B v ps) (A : Array Value) (p : List UInt8) :
    ((wr.alloc (.cells A 48)).alloc (.cells #[.string (str p)] 9)).ownsRow B 9 1 v ps.length (strVals ps) :=
  World.ownsRow.alloc (World.ownsRow.alloc h (.cells A 48)) (.cells #[.string (str p)] 9)

theorem last_news (w : World) (o : Obj) (p : List UInt8) :
    ∀ j u, ([Value.string (str p)] : List Value)[j]? = some u → ((w.alloc o).alloc (.cells #[.string (str p)] 9)).cell? ((⟨w.heap.size + 1, 0, none⟩ : Addr).add j) = some u := by
  intro j u hj
  match j, hj with
  | 0, hj =>
    simp at hj
    subst hj
    obtain ⟨b, q, he, _, hc⟩ := strsAt_new [p] (w.alloc o) 0 (by simp)
    rw [addr_add]
    simp only [Option.some.injEq, Addr.mk.injEq, and_true] at he
    obtain ⟨h1, h2⟩ := he
    have hsz : (w.alloc o).heap.size = w.heap.size + 1 := by simp
    rw [← h1, ← h2, hsz] at hc
    exact hc

theorem owns_snoc {w : World} {B : Nat} {v : Value} {ps : List (List UInt8)} {p : List UInt8} {k : Nat} (hl : ps.length = k) (h : w.ownsRow B 9 1 v (k + 1) (strVals ps ++ [.string (str p)])) : OwnsStrs w B v (ps ++ [p]) := by
  unfold OwnsStrs
  rw [strVals_snoc, List.length_append, hl]
  exact h

set_option maxHeartbeats 800000 in
theorem cut_any (f : List UInt8) (w : World) (hs : f.length ≤ 1000000) :
    Calls Tryd.prog 18 #[.string (str f)] w (okOwns (cutsB ((f.length + 31) / 32) f) w) := by
  obtain ⟨i0, hi, hz0, hz1, hz2⟩ := info_parts Tryd.info9
  have hd0 : str (f.drop (32 * 0)) = str f := by simp
  have Hd0 := Lib.hid hd0
  clear hd0
  go_enter Tryd.func18, Tryd.ntmps18
  go_wp2
  go_loopw [3, 4] (fun v left wr => FCutRel f w v left wr) (fun _ left _ => match left with | .string x => x.size | _ => 0)
  case atStart => exact ⟨0, by rw [Hd0.out], by omega, World.ownsRow_nil _ _ _ _, Below.refl _ _⟩
  case round =>
    obtain ⟨k, rfl, hk, hown, hB⟩ := hrel
    by_cases hlt : 32 * k < f.length
    · have hz := str_size (f.drop (32 * k))
      rw [List.length_drop] at hz
      have hq : (str (f.drop (32 * k))).toList.isEmpty = false := by
        rw [toList_bl, bl_str, List.isEmpty_eq_false_iff]
        intro h
        have := congrArg List.length h
        simp at this
        omega
      have hcp := run_copy32 wr (str (f.drop (32 * k)))
      have hcv := convert32 wr (pad (secAt f k)) (pad_length _ (secAt_length_le _ _))
      have hsec : (bl (str (f.drop (32 * k)))).take 32 = secAt f k := by rw [bl_str]; rfl
      rw [hsec] at hcp
      have hleft : (str (f.drop (32 * k))).extract (min (str (f.drop (32 * k))).size 32) (str (f.drop (32 * k))).size = str (f.drop (32 * (k + 1))) := by
        rw [← str_bl (ByteArray.extract _ _ _), bl_from, bl_str, List.drop_drop, hz]
        congr 1
        by_cases h : f.length - 32 * k ≤ 32
        · rw [Nat.min_eq_left h, List.drop_of_length_le (by omega), List.drop_of_length_le (by omega)]
        · rw [Nat.min_eq_right (by omega)]
          rw [show 32 * (k + 1) = 32 * k + 32 from by omega]
      have hsnoc := cutsB_snoc k f
      have hlen := cutsB_length k f
      have hvl := strVals_length (cutsB k f)
      have hmeas : (str (f.drop (32 * (k + 1)))).size < (str (f.drop (32 * k))).size := by rw [hz, str_size, List.length_drop]; omega
      have hxs : 0 < (str (f.drop (32 * k))).size := by omega
      have Hz := Lib.hid hz
      clear hz
      have Hleft := Lib.hid hleft
      have Hsnoc := Lib.hid hsnoc
      have Hmeas := Lib.hid hmeas
      clear hleft hsnoc hmeas hsec
      generalize str (f.drop (32 * k)) = x at *
      generalize pad (secAt f k) = p at *
      generalize (Lib.byteCells p).toArray = A at *
      have hown2 := own_two hown A p
      rw [hlen] at hown2
      have hB2 := below_new (below_new hB (.cells A 48)) (.cells #[.string (str p)] 9)
      have Hown2 := Lib.hid hown2
      have hnews := last_news wr (.cells A 48) p
      have h1c : ∀ u ∈ ([Value.string (str p)] : List Value), u.oneCell' = true := by
        intro u hu
        simp at hu
        subst hu
        rfl
      have Hnews := Lib.hid hnews
      have H1c := Lib.hid h1c
      have hb2s := hB2.size
      clear hnews h1c hown2 hown hB
      go_wp2_with (at_builtin; refine wpList_append_own _ rfl (.tmp 13) (.tmp 16) 22 rfl w.heap.size 9 i0 (.string ByteArray.empty) 1 16 Tryd.underlying22 hi hz0 hz1 hz2 rfl (by decide) _ k _ rfl Hown2.out ⟨wr.heap.size + 1, 0, none⟩ 1 1 [.string (str p)] rfl rfl Hnews.out H1c.out ?_ ?_ hb2s ?_)
      · unfold maxLen; omega
      · omega
      · intro v' w1 hown1 hgrow _
        have hn1 := owns_snoc hlen hown1
        have hb1 := hB2.grown hgrow hb2s (fun j hj => (Hown2.out.lt j hj).1)
        rw [← Hsnoc.out] at hn1
        clear hown1 hgrow hB2 hcp hcv
        go_wp2
        go_roundw
        case rel => exact ⟨k + 1, by rw [← Hleft.out], by omega, hn1, hb1⟩
        case measure => have := Hmeas.out; rw [← Hleft.out] at this; simpa using this
    · have hk' : (f.length + 31) / 32 = k := by omega
      have hq : (str (f.drop (32 * k))).toList.isEmpty = true := by
        rw [toList_bl, bl_str, List.drop_of_length_le (by omega)]; rfl
      have Hk := Lib.hid hk'
      clear hk'
      generalize str (f.drop (32 * k)) = x at *
      go_wp2
      go_ret
      exact ⟨_, rfl, by rw [Hk.out]; exact hown, hB⟩

end Go.Proofs.YtpjjmaknajjimaaDoor

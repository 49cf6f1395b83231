/- WiNumR, WiRefR0, WiRefN, WiRefG, WiRefQ, MtRd, MtSns, MgRd, WiText, SlotsI, SlotsP. -/
import Derived.Test.YtdpbdkacngaemaaDoorQ1
import Derived.Test.YtdpbdkacngaemaaDoorQ5
import Derived.Test.YtdpbdkacngaemaaDoorQ7
import Derived.Deep.QuietTactic
import Derived.BigQuiet
import Derived.LoopTactic
import Derived.Laws.AppendOwn
set_option linter.unusedVariables false
set_option linter.unusedSimpArgs false
/- What reading a number off a reader does: read, Num of package wire. -/
namespace Go.Proofs.YtdpbdkacngaemaaDoor.wi
open Go.RowKit
set_option maxRecDepth 100000

theorem RdAt.flag {b : Nat} {l : List UInt8} {x : Bool} {w : World} (h : RdAt b l x w) (y : Bool) : RdAt b l y (w.setCell ⟨b, 1, none⟩ (.bool y)) := by
  obtain ⟨g, o, cap, hb, hr, h1, h2⟩ := h
  have hgb : g ≠ b := by
    intro e
    subst e
    obtain ⟨cs, fr, hg', _⟩ := hr
    rw [hb] at hg'
    simp at hg'
  have hw := heap_setCell_same w b 1 _ 91 (.bool y) hb
  exact ⟨g, o, cap, by rw [hw]; simp, hr.keep (Below.heap_setCell w _ _ g hgb), h1, h2⟩

theorem RdAt.flagGrown (b : Nat) (w : World) (v : Value) : w.grownBy (w.setCell ⟨b, 1, none⟩ v) (some b) :=
  ⟨rfl, rfl, rfl, by simp [World.setCell], fun k _ hk => Below.heap_setCell _ _ _ _ (fun e => hk (by simp [e]))⟩

theorem RdAt.cell1 {b : Nat} {l : List UInt8} {x : Bool} {w : World} (h : RdAt b l x w) : w.cell? ⟨b, 1, none⟩ = some (.bool x) ∧ w.frozen? ⟨b, 1, none⟩ = false := by
  obtain ⟨g, o, cap, hb, _⟩ := h
  exact ⟨by simp [World.cell?, hb], by simp [World.frozen?, hb]⟩

def okRdNum (b : Nat) (l : List UInt8) (w : World) (e : Ending) (w' : World) : Prop :=
  w.grownBy w' (some b) ∧
    ((∃ n r, rdNum l = some (n, r) ∧ e = .returned (.int .u64 (n : Int)) ∧ RdAt b r false w') ∨
     (rdNum l = none ∧ e = .returned (.int .u64 0) ∧ ∃ m, RdAt b m true w'))

set_option maxHeartbeats 400000 in
theorem readNum_any (b : Nat) (l : List UInt8) (w : World) (h : RdAt b l false w) :
    Calls Tryd.prog 62 #[.pointer (some ⟨b, 0, none⟩), .func (.func 63) #[] #[]] w (okRdNum b l w) := by
  go_enter Tryd.func62, Tryd.ntmps62
  go_wp2_with (go_at_call 54; refine (ok_yes b l _ h).mono ?_; rintro e w' ⟨rfl, rfl⟩)
  go_wp2_with (go_at_call 63; refine (num_any b l false _ h).mono ?_)
  rintro e w1 ⟨hg, ⟨n, r, hn, rfl, hr⟩ | ⟨hn, rfl, m, hm⟩⟩
  · have Hn := Lib.hid hn
    have Hg := Lib.hid hg
    obtain ⟨hc, hf⟩ := hr.cell1
    have Hr := Lib.hid (hr.flag false)
    clear hn hg hr
    go_wp2
    go_ret
    exact ⟨grown_trans Hg.out (RdAt.flagGrown _ _ _), .inl ⟨n, r, Hn.out, rfl, Hr.out⟩⟩
  · have Hn := Lib.hid hn
    have Hg := Lib.hid hg
    obtain ⟨hc, hf⟩ := hm.cell1
    have Hr := Lib.hid (hm.flag true)
    clear hn hg hm
    go_wp2
    go_ret
    exact ⟨grown_trans Hg.out (RdAt.flagGrown _ _ _), .inr ⟨Hn.out, rfl, m, Hr.out⟩⟩

theorem readNum_bad (b : Nat) (l : List UInt8) (w : World) (h : RdAt b l true w) :
    Calls Tryd.prog 62 #[.pointer (some ⟨b, 0, none⟩), .func (.func 63) #[] #[]] w fun e w' => e = .returned (.int .u64 0) ∧ w = w' := by
  go_enter Tryd.func62, Tryd.ntmps62
  go_wp2_with (go_at_call 54; refine (ok_no b l _ h).mono ?_; rintro e w' ⟨rfl, rfl⟩)
  go_ret
  exact ⟨rfl, rfl⟩

theorem readNum_nil (w : World) :
    Calls Tryd.prog 62 #[.pointer none, .func (.func 63) #[] #[]] w fun e w' => e = .returned (.int .u64 0) ∧ w = w' := by
  go_enter Tryd.func62, Tryd.ntmps62
  go_wp2_with (go_at_call 54; refine (ok_nil _).mono ?_; rintro e w' ⟨rfl, rfl⟩)
  go_ret
  exact ⟨rfl, rfl⟩

theorem num_good1 (b : Nat) (l : List UInt8) (w : World) (h : RdAt b l false w) : Calls Tryd.prog 59 #[.pointer (some ⟨b, 0, none⟩)] w (okRdNum b l w) := by
  go_enter Tryd.func59, Tryd.ntmps59
  go_wp2_with (go_at_call 62; refine (readNum_any b l _ h).mono ?_)
  rintro e w1 ⟨hg, ⟨n, r, hn, rfl, hr⟩ | ⟨hn, rfl, hm⟩⟩
  · have H : Hid (okRdNum b l w (.returned (.int .u64 (n : Int))) w1) := ⟨hg, .inl ⟨n, r, hn, rfl, hr⟩⟩
    clear hg hn hr
    go_wp2
    go_ret
    exact H.out
  · have H : Hid (okRdNum b l w (.returned (.int .u64 0)) w1) := ⟨hg, .inr ⟨hn, rfl, hm⟩⟩
    clear hg hn hm
    go_wp2
    go_ret
    exact H.out

theorem num_bad1 (b : Nat) (l : List UInt8) (w : World) (h : RdAt b l true w) : Calls Tryd.prog 59 #[.pointer (some ⟨b, 0, none⟩)] w fun e w' => e = .returned (.int .u64 0) ∧ w = w' := by
  go_enter Tryd.func59, Tryd.ntmps59
  go_wp2_with (go_at_call 62; refine (readNum_bad b l _ h).mono ?_; rintro e w' ⟨rfl, rfl⟩)
  go_ret
  exact ⟨rfl, rfl⟩

theorem num_nil1 (w : World) : Calls Tryd.prog 59 #[.pointer none] w fun e w' => e = .returned (.int .u64 0) ∧ w = w' := by
  go_enter Tryd.func59, Tryd.ntmps59
  go_wp2_with (go_at_call 62; refine (readNum_nil _).mono ?_; rintro e w' ⟨rfl, rfl⟩)
  go_ret
  exact ⟨rfl, rfl⟩

end Go.Proofs.YtdpbdkacngaemaaDoor.wi

/- What the document's own reader does: Num, Text, OK, End of package stemmaref01. -/
namespace Go.Proofs.YtdpbdkacngaemaaDoor.wi
open Go.RowKit
set_option maxRecDepth 100000

theorem grown_set (c o : Nat) (w : World) (v : Value) : w.grownBy (w.setCell ⟨c, o, none⟩ v) (some c) :=
  ⟨rfl, rfl, rfl, by simp [World.setCell], fun k _ hk => Below.heap_setCell _ _ _ _ (fun e => hk (by simp [e]))⟩

theorem grown_drewN {w w' : World} {r : Option Nat} (h : w.grownBy w' r) (n : Nat) : w.grownBy (w'.drewN n) r := ⟨h.os, h.tape, h.output, h.size, h.block⟩

theorem grown_past {w w' : World} {r : Option Nat} {n : Nat} (h : (w.drewN n).grownBy w' r) : w.grownBy w' r := ⟨h.os, h.tape, h.output, h.size, h.block⟩

end Go.Proofs.YtdpbdkacngaemaaDoor.wi

/- What reading a number off the document's own reader does: Num of package stemmaref01. -/
namespace Go.Proofs.YtdpbdkacngaemaaDoor.wi
open Go.RowKit
set_option maxRecDepth 100000

theorem get_bl (s : ByteArray) (i : Nat) (h : i < s.size) : (bl s)[i]'(by rw [bl_len]; exact h) = s[i] := rfl

theorem bl_cons (s : ByteArray) (h : 0 < s.size) : bl s = s[0] :: (bl s).drop 1 := by
  have hl : 0 < (bl s).length := by rw [bl_len]; exact h
  have := List.drop_eq_getElem_cons hl
  rw [List.drop_zero] at this
  rw [this]
  rfl

end Go.Proofs.YtdpbdkacngaemaaDoor.wi

/- What reading a good number off the document's own reader does: Num of package stemmaref01. -/
namespace Go.Proofs.YtdpbdkacngaemaaDoor.wi
open Go.RowKit
set_option maxRecDepth 100000

theorem bl_extract (s : ByteArray) (k : Nat) : bl (s.extract k s.size) = (bl s).drop k := by
  obtain ⟨⟨l⟩⟩ := s
  simp only [bl, ByteArray.size]
  simp
  exact List.take_of_length_le (by simp)

/-- What stands behind the first byte. -/
def restB (s : ByteArray) : List UInt8 := (bl s).drop 1
theorem restB_len (s : ByteArray) : (restB s).length = s.size - 1 := by unfold restB; rw [List.length_drop, bl_len]
theorem restB_get (s : ByteArray) (j : Nat) (h : j + 1 < s.size) : (restB s)[j]'(by rw [restB_len]; omega) = s[j + 1] := by
  unfold restB
  rw [List.getElem_drop]
  have := get_bl s (j + 1) h
  rw [← this]
  congr 1
  omega

def QRel (d : List UInt8) (k : Nat) (n i : Value) : Prop := ∃ j : Nat, j ≤ k ∧ i = .int .i64 ((j : Int) + 1) ∧ n = .int .u64 ((val (d.take j) : Nat) : Int)

end Go.Proofs.YtdpbdkacngaemaaDoor.wi

/- What reading a number whose count is 0, and any number, off the document's own reader does; and a text. -/
namespace Go.Proofs.YtdpbdkacngaemaaDoor.wi
open Go.RowKit
set_option maxRecDepth 100000

theorem rdNum_cons (k : UInt8) (r : List UInt8) : rdNum (k :: r) =
    if 8 < k.toNat then none else if r.length < k.toNat then none else if (r.take k.toNat).head? = some 0 then none else some (val (r.take k.toNat), r.drop k.toNat) := rfl

theorem restB_drop (s : ByteArray) (k : Nat) : (bl s).drop (1 + k) = (restB s).drop k := by
  unfold restB; rw [List.drop_drop]

end Go.Proofs.YtdpbdkacngaemaaDoor.wi

/- The document's own reader of a table: a number that is not too great, an image, a guid. -/
namespace Go.Proofs.YtdpbdkacngaemaaDoor.mt
open Go Go.RowKit Go.Proofs.YtdpbdkacngaemaaDoor.ib Go.Proofs.YtdpbdkacngaemaaDoor.wi
set_option maxRecDepth 100000

def Tc (c : Nat) (j : Nat) : Prop := j = c
theorem but_grown {w w' : World} {c : Nat} (h : w.grownBy w' (some c)) : But (Tc c) w w' := ⟨h.os, h.tape, h.output, h.size, fun k hk hn => h.block k hk (fun e => hn (by simpa [Tc] using e))⟩
theorem intsS_len : ∀ (n : Nat) (s : St), (intsS n s).1.length = n
  | 0, _ => rfl
  | n + 1, s => by simp [intsS, intsS_len n]
theorem intsS_snoc : ∀ (n : Nat) (s : St), intsS (n + 1) s = ((intsS n s).1 ++ [((smallS (intsS n s).2).1 : Int)], (smallS (intsS n s).2).2)
  | 0, s => rfl
  | n + 1, s => by
    have ih := intsS_snoc n (smallS s).2
    show ((((smallS s).1 : Int) :: (intsS (n + 1) (smallS s).2).1, (intsS (n + 1) (smallS s).2).2) : List Int × St) = _
    rw [ih]
    rfl
theorem smallS_le (s : St) : (smallS s).1 ≤ 1048576 := by unfold smallS; dsimp only; omega
theorem intsS_ok : ∀ (n : Nat) (s : St), okInts (intsS n s).1
  | 0, _ => fun z hz => absurd hz (by simp [intsS])
  | n + 1, s => fun z hz => by
    have h := smallS_le s
    simp only [intsS, List.mem_cons] at hz
    rcases hz with rfl | hz
    · omega
    · exact intsS_ok n _ z hz
theorem but_own {S : Nat → Prop} {a w w' : World} {r : Option Nat} (h : But S a w) (hg : w.grownBy w' r) (hr : ∀ j, r = some j → a.heap.size ≤ j) : But S a w' :=
  h.trans (S' := fun j => r = some j) ⟨hg.os, hg.tape, hg.output, hg.size, fun k hk hn => hg.block k hk (fun e => hn e.symm)⟩ fun i hi => .inr (hr i hi)
theorem oints_but {w w' : World} {B c : Nat} {v : Value} {zs : List Int} (h : OInts w B v zs) (hc : c < B) (hb : But (Tc c) w w') : OInts w' B v zs := by
  refine ⟨h.1, h.2.imp id ?_⟩
  rintro ⟨g, cap, cur, h1, h2, h3, h4⟩
  exact ⟨g, cap, cur, h1, h2, (hb.block g (Array.getElem?_eq_some_iff.1 h3).1 (fun e => by unfold Tc at e; omega)).trans h3, h4⟩

end Go.Proofs.YtdpbdkacngaemaaDoor.mt

/- Snapshots of a table in a row that the call owns. -/
namespace Go.Proofs.YtdpbdkacngaemaaDoor.mt
open Go Go.RowKit Go.Proofs.YtdpbdkacngaemaaDoor.ib Go.Proofs.YtdpbdkacngaemaaDoor.wi
set_option maxRecDepth 100000

abbrev OSn := Sp × Value
def spV (x : OSn) : List Value := [.int .u64 (x.1.g.1 : Int), .int .u64 (x.1.g.2 : Int), x.2, .bool x.1.hid]
def spRow : List OSn → List Value
  | [] => []
  | x :: r => spV x ++ spRow r
theorem spRow_append : ∀ (l r : List OSn), spRow (l ++ r) = spRow l ++ spRow r
  | [], _ => rfl
  | x :: l, r => by
    show spV x ++ spRow (l ++ r) = spV x ++ spRow l ++ spRow r
    rw [spRow_append l r, List.append_assoc]
theorem spRow_one (x : OSn) : spRow [x] = spV x := by simp [spRow]
theorem spRow_len : ∀ l : List OSn, (spRow l).length = l.length * 4
  | [] => rfl
  | x :: l => by simp [spRow, spV, spRow_len l]; omega
theorem spRow_get : ∀ (l : List OSn) (i : Nat) (h : i < l.length) (j : Nat), j < 4 → (spRow l)[i * 4 + j]? = (spV l[i])[j]?
  | x :: l, 0, _, j, hj => by
    show (spV x ++ spRow l)[0 * 4 + j]? = _
    rw [List.getElem?_append_left (by simp [spV]; omega), Nat.zero_mul, Nat.zero_add]
    rfl
  | x :: l, i + 1, h, j, hj => by
    have := spRow_get l i (by simpa using h) j hj
    show (spV x ++ spRow l)[(i + 1) * 4 + j]? = _
    rw [List.getElem?_append_right (by simp [spV]; omega)]
    rw [show (i + 1) * 4 + j - (spV x).length = i * 4 + j from by simp [spV]; omega]
    exact this
theorem spV_ones {x : OSn} {w : World} {B : Nat} {zs : List Int} (h : OInts w B x.2 zs) : ∀ u ∈ spV x, u.oneCell' = true := by
  intro u hu
  obtain ⟨A, c, hv⟩ := own_form h
  simp only [spV, List.mem_cons, List.not_mem_nil, or_false] at hu
  rcases hu with rfl | rfl | rfl | rfl
  · rfl
  · rfl
  · rw [hv]; rfl
  · rfl
theorem news4 {w : World} {b : Nat} {t : TypeId} {x y z u : Value} (h : Blk w b t #[x, y, z, u]) : ∀ (j : Nat) (v : Value), ([x, y, z, u] : List Value)[j]? = some v → w.cell? ((⟨b, 0, none⟩ : Addr).add j) = some v := by
  intro j v hj
  rw [addr_add, Nat.zero_add, h.cell j]
  simpa using hj
theorem oi_nil (w : World) (B : Nat) : OInts w B (.slice none 0 0) [] := World.ownsRow_nil _ _ _ _

section
variable {w w' : World} {B : Nat} {v : Value} {xs : List OSn} {r : TypeId}
theorem oi_kp {zs : List Int} (h : OInts w B v zs) (hk : Kp r w w') (h1 : 3 ≠ r) : OInts w' B v zs := hk.row h1 h
theorem oi_below {zs : List Int} (h : OInts w B v zs) (hb : Below w.heap.size w w') : OInts w' B v zs := oi_kp (r := 1000000) h (Kp.of_below hb) (by decide)
theorem oi_sl {zs : List Int} (h : OInts w B v zs) (hz : ∀ z ∈ zs, i64B z) : ∃ A c, v = .slice A zs.length c ∧ SlAt w A zs c := by
  rcases h.2 with ⟨rfl, h0⟩ | ⟨g, cap, cur, rfl, hg, hh, hcc, hm, hcs, hcur⟩
  · obtain rfl : zs = [] := List.length_eq_zero_iff.1 h0
    exact ⟨none, 0, rfl, SlAt.none _⟩
  · obtain ⟨A, cc, hv, hi, hb⟩ := OInts.view h hz
    simp only [Value.slice.injEq] at hv
    obtain ⟨rfl, _, rfl⟩ := hv
    exact ⟨_, _, rfl, hi, by omega, fun h => by cases h⟩
end
end Go.Proofs.YtdpbdkacngaemaaDoor.mt

/- The program's reader of a table: a number that is not too great, places, a guid. -/
namespace Go.Proofs.YtdpbdkacngaemaaDoor.mt.pg
open Go Go.RowKit Go.Proofs.YtdpbdkacngaemaaDoor.ib Go.Proofs.YtdpbdkacngaemaaDoor.wi Go.Proofs.YtdpbdkacngaemaaDoor.im Go.Proofs.YtdpbdkacngaemaaDoor.mt
set_option maxRecDepth 100000

/-- What the reader in block c has left. -/
def PS (w : World) (c : Nat) (s : St) : Prop := match s with
  | none => ∃ l, RdAt c l true w
  | some l => RdAt c l false w
theorem PS.blk {w : World} {c : Nat} {s : St} (h : PS w c s) : ∃ x, Blk w c 91 x := by
  unfold PS at h
  split at h
  · obtain ⟨l, g, o, cap, h1, _⟩ := h
    exact ⟨_, h1⟩
  · obtain ⟨g, o, cap, h1, _⟩ := h
    exact ⟨_, h1⟩
theorem PS.lt {w : World} {c : Nat} {s : St} (h : PS w c s) : c < w.heap.size := by
  obtain ⟨x, hx⟩ := h.blk
  exact hx.lt
theorem PS.below {w w' : World} {c : Nat} {s : St} (h : PS w c s) (hb : Below w.heap.size w w') : PS w' c s := by
  unfold PS at h ⊢
  split at h
  · obtain ⟨l, h⟩ := h
    exact ⟨l, h.below hb⟩
  · exact h.below hb
theorem rd_set {w : World} {c x : Nat} {l : List UInt8} {bad : Bool} {t : TypeId} {cs : Array Value} (h : RdAt c l bad w) (hx : Blk w x t cs) (h1 : t ≠ 91) (h2 : t ≠ 5) (k : Nat) (v : Value) : RdAt c l bad (w.setCell ⟨x, k, none⟩ v) := by
  obtain ⟨g, o, cap, hb, hr, h3, h4⟩ := h
  have hc : c ≠ x := fun e => by
    subst e
    unfold Blk at hx
    rw [hb] at hx
    simp only [Option.some.injEq, Obj.cells.injEq] at hx
    exact h1 hx.2.1.symm
  have hg : g ≠ x := fun e => by
    subst e
    obtain ⟨cs', fr, hg, _⟩ := hr
    unfold Blk at hx
    rw [hg] at hx
    simp only [Option.some.injEq, Obj.cells.injEq] at hx
    exact h2 hx.2.1.symm
  exact ⟨g, o, cap, (Below.heap_setCell _ _ _ _ hc).trans hb, hr.keep (Below.heap_setCell _ _ _ _ hg), h3, h4⟩
theorem PS.set {w : World} {c x : Nat} {s : St} {t : TypeId} {cs : Array Value} (h : PS w c s) (hx : Blk w x t cs) (h1 : t ≠ 91) (h2 : t ≠ 5) (k : Nat) (v : Value) : PS (w.setCell ⟨x, k, none⟩ v) c s := by
  unfold PS at h ⊢
  split at h
  · obtain ⟨l, h⟩ := h
    exact ⟨l, rd_set h hx h1 h2 k v⟩
  · exact rd_set h hx h1 h2 k v

/-- Of what was there block c alone has turned; the reader has that left. -/
structure Rd (w : World) (c : Nat) (s : St) (w' : World) : Prop where
  but : But (Tc c) w w'
  ps : PS w' c s
theorem Rd.kp {w w' : World} {c : Nat} {s s' : St} (h : PS w c s) (hr : Rd w c s' w') : Kp 91 w w' := by
  obtain ⟨x, hx⟩ := h.blk
  exact Kp.of_but hr.but hx
theorem Rd.trans {a w w' : World} {c : Nat} {s s' : St} (h : Rd a c s w) (k : Rd w c s' w') : Rd a c s' w' := ⟨h.but.trans k.but fun i hi => .inl hi, k.ps⟩
theorem Rd.new {a w w' : World} {c : Nat} {s : St} (h : Rd a c s w) (hb : Below w.heap.size w w') : Rd a c s w' := ⟨h.but.trans (But.of_below (S := Tc c) hb) fun i hi => .inl hi, h.ps.below hb⟩
theorem Rd.set {a w : World} {c x : Nat} {s : St} {t : TypeId} {cs : Array Value} (h : Rd a c s w) (hx : Blk w x t cs) (hn : a.heap.size ≤ x) (h1 : t ≠ 91) (h2 : t ≠ 5) (k : Nat) (v : Value) : Rd a c s (w.setCell ⟨x, k, none⟩ v) :=
  ⟨h.but.setCell _ _ (.inr hn), h.ps.set hx h1 h2 k v⟩
theorem Rd.blk {w w' : World} {c x : Nat} {s : St} {t : TypeId} {cs : Array Value} (h : Rd w c s w') (hx : Blk w x t cs) (hp : ∃ y, Blk w c 91 y) (hn : t ≠ 91) : Blk w' x t cs := by
  obtain ⟨y, hy⟩ := hp
  exact hx.of_block (h.but.block _ hx.lt (blk_type hx hy hn))

def endN (c : Nat) (s : St) (w : World) (e : Ending) (w' : World) : Prop := e = .returned (.int .u64 ((numS s).1 : Int)) ∧ Rd w c (numS s).2 w'
theorem pnum_any {w : World} {c : Nat} {s : St} (h : PS w c s) : Calls Tryd.prog 59 #[.pointer (some ⟨c, 0, none⟩)] w (endN c s w) := by
  unfold PS at h
  split at h
  · obtain ⟨l, h1⟩ := h
    refine (num_bad1 c l w h1).mono ?_
    rintro e w' ⟨rfl, rfl⟩
    exact ⟨rfl, But.refl _ _, l, h1⟩
  · rename_i l
    refine (num_good1 c l w h).mono ?_
    rintro e w' ⟨hg, ⟨n, r, hn, rfl, hr⟩ | ⟨hn, rfl, m, hm⟩⟩
    · have hq : numS (some l) = (n, some r) := by unfold numS; simp only [hn]
      unfold endN
      rw [hq]
      exact ⟨rfl, but_grown hg, hr⟩
    · have hq : numS (some l) = (0, none) := by unfold numS; simp only [hn]
      unfold endN
      rw [hq]
      exact ⟨rfl, but_grown hg, m, hm⟩

def endU (k c : Nat) (s : St) (w : World) (e : Ending) (w' : World) : Prop := e = .returned (.int .i64 ((upS k s).1 : Int)) ∧ Rd w c (upS k s).2 w'
end Go.Proofs.YtdpbdkacngaemaaDoor.mt.pg

/- What reading a number and a text off a reader does: text, read, Num and Text of package wire. -/
namespace Go.Proofs.YtdpbdkacngaemaaDoor.wi
open Go.RowKit
set_option maxRecDepth 100000

def okText (b : Nat) (l : List UInt8) (x : Bool) (w : World) (e : Ending) (w' : World) : Prop :=
  w.grownBy w' (some b) ∧
    ((∃ t r, rdText l = some (t, r) ∧ e = .returned (.tuple #[.string (str t), .bool true]) ∧ RdAt b r x w') ∨
     (rdText l = none ∧ e = .returned (.tuple #[.string (str []), .bool false]) ∧ ∃ m, RdAt b m x w'))

set_option maxHeartbeats 400000 in
theorem text_any (b : Nat) (l : List UInt8) (x : Bool) (w : World) (h : RdAt b l x w) :
    Calls Tryd.prog 61 #[.func (.func 64) #[.pointer (some ⟨b, 0, none⟩)] #[]] w (okText b l x w) := by
  go_enter Tryd.func61, Tryd.ntmps61
  go_wp2_with (go_at_call 63; refine (num_any b l x _ h).mono ?_)
  rintro e w1 ⟨hg, ⟨n, r, hn, rfl, hr⟩ | ⟨hn, rfl, m, hm⟩⟩
  · have hn64 := (rdNum_is l n r hn).2
    have Hn := Lib.hid hn
    have Hg := Lib.hid hg
    obtain ⟨g, o, cap, hR⟩ := hr
    by_cases hlt : r.length < n
    · have hT : rdText l = none := by unfold rdText; rw [Hn.out]; simp [hlt]
      have HT := Lib.hid hT
      clear hT hg hn
      go_wp2_with (go_at_call 64; refine (take_no b g o cap r x (n : Int) _ hR (by omega)).mono ?_; rintro e w' ⟨rfl, rfl⟩)
      go_ret2
      exact ⟨Hg.out, .inr ⟨HT.out, rfl, r, g, o, cap, hR⟩⟩
    · have hT : rdText l = some (r.take n, r.drop n) := by unfold rdText; rw [Hn.out]; simp [hlt]
      have HT := Lib.hid hT
      have hln : (r.take n).length = n := by simp; omega
      have Hln := Lib.hid hln
      clear hT hg hn hln
      go_wp2_with (go_at_call 64; refine (take_yes b g o cap r x (n : Int) _ hR (by omega) (by omega)).mono ?_)
      rintro e w2 ⟨rfl, h1, h2, h3⟩
      rw [Int.toNat_natCast] at h1 h3
      have hcv := run_convert_bytes_back (P := Tryd.prog) w2 60 9 5 ⟨g, o, none⟩ n (r.take n) Tryd.underlying60 Tryd.underlying5 Tryd.underlying9 (by
        intro j hj
        rw [addr_add]
        exact h3.cell j hj)
      rw [Hln.out] at hcv
      have hcv' : (convert 60 9 (.slice (some ⟨g, o, none⟩) n n)).run Tryd.prog w2 = .ok (.string (str (r.take n))) w2 := hcv
      have H1 := Lib.hid h1
      have H2 := Lib.hid h2
      clear h1 h2 h3 hcv
      go_wp2
      go_ret2
      exact ⟨grown_trans Hg.out H2.out, .inl ⟨_, _, HT.out, rfl, _, _, _, H1.out⟩⟩
  · have hT : rdText l = none := by unfold rdText; rw [hn]
    have HT := Lib.hid hT
    have Hg := Lib.hid hg
    clear hT hg hn
    go_wp2
    go_ret2
    exact ⟨Hg.out, .inr ⟨HT.out, rfl, m, hm⟩⟩

def okRdText (b : Nat) (l : List UInt8) (w : World) (e : Ending) (w' : World) : Prop :=
  w.grownBy w' (some b) ∧
    ((∃ t r, rdText l = some (t, r) ∧ e = .returned (.string (str t)) ∧ RdAt b r false w') ∨
     (rdText l = none ∧ e = .returned (.string (str [])) ∧ ∃ m, RdAt b m true w'))

set_option maxHeartbeats 400000 in
theorem readText_any (b : Nat) (l : List UInt8) (w : World) (h : RdAt b l false w) :
    Calls Tryd.prog 60 #[.pointer (some ⟨b, 0, none⟩), .func (.func 61) #[] #[]] w (okRdText b l w) := by
  go_enter Tryd.func60, Tryd.ntmps60
  go_wp2_with (go_at_call 54; refine (ok_yes b l _ h).mono ?_; rintro e w' ⟨rfl, rfl⟩)
  go_wp2_with (go_at_call 61; refine (text_any b l false _ h).mono ?_)
  rintro e w1 ⟨hg, ⟨n, r, hn, rfl, hr⟩ | ⟨hn, rfl, m, hm⟩⟩
  · have Hn := Lib.hid hn
    have Hg := Lib.hid hg
    obtain ⟨hc, hf⟩ := hr.cell1
    have Hr := Lib.hid (hr.flag false)
    clear hn hg hr
    go_wp2
    go_ret
    exact ⟨grown_trans Hg.out (RdAt.flagGrown _ _ _), .inl ⟨n, r, Hn.out, rfl, Hr.out⟩⟩
  · have Hn := Lib.hid hn
    have Hg := Lib.hid hg
    obtain ⟨hc, hf⟩ := hm.cell1
    have Hr := Lib.hid (hm.flag true)
    clear hn hg hm
    go_wp2
    go_ret
    exact ⟨grown_trans Hg.out (RdAt.flagGrown _ _ _), .inr ⟨Hn.out, rfl, m, Hr.out⟩⟩

theorem readText_bad (b : Nat) (l : List UInt8) (w : World) (h : RdAt b l true w) :
    Calls Tryd.prog 60 #[.pointer (some ⟨b, 0, none⟩), .func (.func 61) #[] #[]] w fun e w' => e = .returned (.string (str [])) ∧ w = w' := by
  go_enter Tryd.func60, Tryd.ntmps60
  go_wp2_with (go_at_call 54; refine (ok_no b l _ h).mono ?_; rintro e w' ⟨rfl, rfl⟩)
  go_ret
  exact ⟨rfl, rfl⟩

theorem readText_nil (w : World) :
    Calls Tryd.prog 60 #[.pointer none, .func (.func 61) #[] #[]] w fun e w' => e = .returned (.string (str [])) ∧ w = w' := by
  go_enter Tryd.func60, Tryd.ntmps60
  go_wp2_with (go_at_call 54; refine (ok_nil _).mono ?_; rintro e w' ⟨rfl, rfl⟩)
  go_ret
  exact ⟨rfl, rfl⟩

theorem text_good1 (b : Nat) (l : List UInt8) (w : World) (h : RdAt b l false w) : Calls Tryd.prog 53 #[.pointer (some ⟨b, 0, none⟩)] w (okRdText b l w) := by
  go_enter Tryd.func53, Tryd.ntmps53
  go_wp2_with (go_at_call 60; refine (readText_any b l _ h).mono ?_)
  rintro e w1 ⟨hg, ⟨n, r, hn, rfl, hr⟩ | ⟨hn, rfl, hm⟩⟩
  · have H : Hid (okRdText b l w (.returned (.string (str n))) w1) := ⟨hg, .inl ⟨n, r, hn, rfl, hr⟩⟩
    clear hg hn hr
    go_wp2
    go_ret
    exact H.out
  · have H : Hid (okRdText b l w (.returned (.string (str []))) w1) := ⟨hg, .inr ⟨hn, rfl, hm⟩⟩
    clear hg hn hm
    go_wp2
    go_ret
    exact H.out

theorem text_bad1 (b : Nat) (l : List UInt8) (w : World) (h : RdAt b l true w) : Calls Tryd.prog 53 #[.pointer (some ⟨b, 0, none⟩)] w fun e w' => e = .returned (.string (str [])) ∧ w = w' := by
  go_enter Tryd.func53, Tryd.ntmps53
  go_wp2_with (go_at_call 60; refine (readText_bad b l _ h).mono ?_; rintro e w' ⟨rfl, rfl⟩)
  go_ret
  exact ⟨rfl, rfl⟩

theorem text_nil1 (w : World) : Calls Tryd.prog 53 #[.pointer none] w fun e w' => e = .returned (.string (str [])) ∧ w = w' := by
  go_enter Tryd.func53, Tryd.ntmps53
  go_wp2_with (go_at_call 60; refine (readText_nil _).mono ?_; rintro e w' ⟨rfl, rfl⟩)
  go_ret
  exact ⟨rfl, rfl⟩

end Go.Proofs.YtdpbdkacngaemaaDoor.wi

/- A region that draws its order, told by one word on what is listed, the values and the world; guarded operations too. One step an operation, whatever the order. Nothing here speaks of the program. -/
namespace Go.Proofs.YtdpbdkacngaemaaDoor
open Go Go.RowKit
set_option maxRecDepth 100000

section
variable {P : Program} {ops : Array Oper} {Q : Exit → Act → World → Prop}

def slotsGB (ops : Array Oper) (ds : List Tmp) (size : Nat) : Bool :=
  decide (ds.length = ops.size) && decide ds.Nodup && ds.all (fun d => decide (d < size)) &&
  (List.range ops.size).all (fun i => match ops[i]? with
    | some o => o.dst == ds[i]? && (match o.op with | .select .. => false | _ => true) &&
      o.after.all (fun e => !Region.binds .any e || decide (e.on < i)) &&
      (match o.guard with | none => true | some g => afterB ops i g.1) &&
      o.op.operands.toList.all (fun x => match x with
        | .tmp t => match ds.idxOf? t with
          | some j => afterB ops i j
          | none => true
        | _ => true)
    | none => false)

structure SlotsG (ops : Array Oper) (ds : List Tmp) (size : Nat) : Prop where
  len : ds.length = ops.size
  nodup : ds.Nodup
  small : ∀ d ∈ ds, d < size
  each : ∀ i, i < ops.size → ∃ o, ops[i]? = some o ∧ o.dst = ds[i]? ∧ (∀ cs b, o.op ≠ .select cs b) ∧ (∀ e ∈ o.after, Region.binds .any e = true → e.on < i) ∧
    (∀ j want, o.guard = some (j, want) → afterB ops i j = true) ∧ (∀ t j, Operand.tmp t ∈ o.op.operands → ds.idxOf? t = some j → afterB ops i j = true)

theorem slotsG_ok {ds : List Tmp} {size : Nat} (h : slotsGB ops ds size = true) : SlotsG ops ds size := by
  unfold slotsGB at h
  simp only [Bool.and_eq_true, decide_eq_true_eq, List.all_eq_true, List.mem_range] at h
  obtain ⟨⟨⟨h2, h3⟩, h4⟩, h5⟩ := h
  refine ⟨h2, h3, h4, fun i hi => ?_⟩
  have h := h5 i hi
  cases ho : ops[i]? with
  | none => simp [ho] at h
  | some o =>
    simp only [ho, Bool.and_eq_true] at h
    obtain ⟨⟨⟨⟨g2, g3⟩, g4⟩, g1⟩, g5⟩ := h
    refine ⟨o, rfl, by simpa using g2, fun cs b hs => by simp [hs] at g3, fun e he hb => ?_, fun j want hg => ?_, fun t j ht hj => ?_⟩
    · have := Array.all_eq_true_iff_forall_mem.1 g4 e he
      simpa [hb] using this
    · simpa [hg] using g1
    · have := List.all_eq_true.1 g5 (.tmp t) (by simpa using ht)
      simpa [hj] using this

/-- What an operation's reader is known to read, a function's name too. -/
structure ReadsF (a : Act) (ds : List Tmp) (vs : Nat → Value) (ρ : Operand → Value) : Prop where
  at_ : ∀ t j, ds.idxOf? t = some j → ρ (.tmp t) = vs j
  out : ∀ t, ds.idxOf? t = none → ρ (.tmp t) = a.eval (.tmp t)
  const : ∀ v, ρ (.const v) = v
  fn : ∀ f, ρ (.func f) = a.eval (.func f)

structure IInv (ops : Array Oper) (a0 : Act) (ds : List Tmp) (I : (Nat → Bool) → (Nat → Value) → World → Prop) (listed : Array Bool) (vs : Nat → Value) (a : Act) (w : World) : Prop where
  size : listed.size = ops.size
  act : a = putSel (fun i => listed.getD i false) vs ds 0 a0
  inv : I (fun i => listed.getD i false) vs w

variable {a0 : Act} {ds : List Tmp} {I : (Nat → Bool) → (Nat → Value) → World → Prop}

theorem idx_get {t : Tmp} {j : Nat} (hj : ds.idxOf? t = some j) : ds[j]? = some t := by
  have := List.of_findIdx?_eq_some (p := (· == t)) (xs := ds) (i := j) (by simpa [List.idxOf?] using hj)
  cases hd : ds[j]? with
  | none => simp [hd] at this
  | some d => simp [hd] at this; rw [this]

theorem inv_go (ok : SlotsG ops ds a0.tmps.size)
    (step : ∀ i o L vs ρ w, ops[i]? = some o → L i = false → (∀ j, afterB ops i j = true → L j = true) → ReadsF a0 ds vs ρ → (∀ j want, o.guard = some (j, want) → vs j = .bool want) → I L vs w →
      stepTo P (fun v w' => I (updB L i) (updV vs i v) w') ((execOp ρ o).run P w))
    (skip : ∀ i o L vs w j want, ops[i]? = some o → L i = false → (∀ j, afterB ops i j = true → L j = true) → o.guard = some (j, want) → vs j ≠ .bool want → I L vs w → I (updB L i) (updV vs i undef) w)
    (fin : ∀ vs w', I (fun j => decide (j < ops.size)) vs w' → Q .normal (putList vs ds a0) w') :
    ∀ (r : Nat) (listed : Array Bool) (vs : Nat → Value) (a : Act) (w : World), IInv ops a0 ds I listed vs a w → toCome ops.size listed = r → wpAny P .any ops Q r listed a w
  | 0, listed, vs, a, w, hI, hr => by
    have hall := toCome_zero hr
    have hn : Region.ready .any ops listed = [] := by
      apply List.eq_nil_iff_forall_not_mem.2
      intro i hi
      obtain ⟨hun, o, ho, _⟩ := mem_ready.1 hi
      have hio : i < ops.size := (Array.getElem?_eq_some_iff.1 ho).1
      have := hall i hio
      rw [getD_false_true (by rw [hI.size]; exact hio)] at hun
      rw [this] at hun
      cases hun
    have ha : a = putList vs ds a0 := by
      rw [hI.act]
      exact putSel_congr _ _ _ _ ds 0 a0 fun j _ hj => ⟨hall j (by rw [← ok.len]; omega), fun _ => rfl⟩
    have hL : (fun i => listed.getD i false) = fun j => decide (j < ops.size) := by
      funext j
      by_cases hj : j < ops.size
      · rw [hall j hj, decide_eq_true hj]
      · rw [decide_eq_false hj]
        simp [Array.getD, hI.size, hj]
    rw [ha]
    have h2 := hI.inv
    rw [hL] at h2
    exact wpAny_done hn (fin vs w h2) 0
  | r + 1, listed, vs, a, w, hI, hr => by
    refine ⟨fun h0 => ?_, fun i hi => ?_⟩
    · exfalso
      have hex : ∃ i, i < ops.size ∧ listed.getD i false = false := by
        apply Classical.byContradiction
        intro hn
        have : toCome ops.size listed = 0 := by
          unfold toCome
          rw [List.countP_eq_zero]
          intro i hi
          have hi' := List.mem_range.1 hi
          cases hb : listed.getD i false
          · exact absurd ⟨i, hi', hb⟩ hn
          · simp
        omega
      have key : ∀ n i, i < n → i < ops.size → listed.getD i false = false → False := by
        intro n
        induction n with
        | zero => intro i h; omega
        | succ n ih =>
          intro i hin him hf
          obtain ⟨o, ho, _, _, hlow, _⟩ := ok.each i him
          have hs : i < listed.size := by rw [hI.size]; exact him
          have : i ∈ Region.ready .any ops listed := by
            rw [mem_ready]
            refine ⟨by rw [getD_false_true hs]; exact hf, o, ho, fun e he hb => ?_⟩
            cases hb' : listed.getD e.on false
            · exact (ih e.on (by have := hlow e he hb; omega) (by have := hlow e he hb; omega) hb').elim
            · rfl
          rw [h0] at this
          cases this
      obtain ⟨i, him, hf⟩ := hex
      exact key (i + 1) i (by omega) him hf
    · obtain ⟨hun, o, ho, hall⟩ := mem_ready.1 hi
      have him : i < ops.size := (Array.getElem?_eq_some_iff.1 ho).1
      have hs : i < listed.size := by rw [hI.size]; exact him
      have hf : listed.getD i false = false := by rw [← getD_false_true hs]; exact hun
      obtain ⟨o', ho', hdst, hsel, hlow, hgrd, hopn⟩ := ok.each i him
      obtain rfl : o = o' := Option.some.inj (ho.symm.trans ho')
      have hdi : ∃ d, ds[i]? = some d := ⟨ds[i]'(by rw [ok.len]; exact him), List.getElem?_eq_getElem _⟩
      obtain ⟨d, hd⟩ := hdi
      have haft : ∀ j, afterB ops i j = true → listed.getD j false = true := fun j hj => by
        obtain ⟨e, he, hb, rfl⟩ := afterB_iff ho hj
        exact hall e he hb
      have hread : ∀ t j, ds[j]? = some t → listed.getD j false = true → a.eval (.tmp t) = vs j := fun t j hdj hl => by
        rw [hI.act]
        have := putSel_in (fun i => listed.getD i false) vs t ds 0 j a0 ok.nodup hdj (by simpa using hl) (ok.small t (List.mem_of_getElem? hdj))
        simpa using this
      have hnext : ∀ v w', I (updB (fun i => listed.getD i false) i) (updV vs i v) w' → wpAny P .any ops Q r (listed.setIfInBounds i true) (a.put o.dst v) w' := by
        intro v w' h
        refine inv_go ok step skip fin r (listed.setIfInBounds i true) (updV vs i v) (a.put o.dst v) w' ⟨by simp [hI.size], ?_, ?_⟩ ?_
        · rw [hdst, hd, hI.act]
          have := putSel_set (fun i => listed.getD i false) vs i v ds 0 a0 d ok.nodup (Nat.zero_le _) (by simpa using hd) hf
          rw [this, updB_listed hs]
        · rw [← updB_listed hs]
          exact h
        · have := toCome_set him hs hf
          omega
      have hyield : ∀ j want, o.guard = some (j, want) → yielded ops a.tmps j = (match vs j with | .bool b => some b | _ => none) := by
        intro j want hg
        have hj := hgrd j want hg
        obtain ⟨e, he, hb, he2⟩ := afterB_iff ho hj
        have hji : j < i := by rw [← he2]; exact hlow e he hb
        obtain ⟨oj, hoj, hdj, _⟩ := ok.each j (by omega)
        have hdj2 : ds[j]? = some (ds[j]'(by rw [ok.len]; omega)) := List.getElem?_eq_getElem _
        generalize ds[j]'(by rw [ok.len]; omega) = t at hdj2
        have hr := hread t j hdj2 (haft j hj)
        unfold yielded
        rw [hoj]
        simp only [Option.bind_some, hdj, hdj2]
        have he : a.eval (.tmp t) = a.tmps.getD t undef := rfl
        rw [he] at hr
        cases hx : a.tmps[t]? with
        | none =>
          have : a.tmps.getD t undef = undef := by simp [Array.getD_eq_getD_getElem?, hx]
          rw [← hr, this]
          rfl
        | some x =>
          have : a.tmps.getD t undef = x := by simp [Array.getD_eq_getD_getElem?, hx]
          rw [← hr, this]
          cases x <;> rfl
      unfold wpOp
      simp only [ho]
      by_cases hw : Region.wanted o (yielded ops a.tmps) = true
      · rw [if_pos hw]
        left
        have hρ : execOp a.eval o = execOp (valOf a0 ds vs) o := by
          refine execOp_congr o hsel fun x hx => ?_
          cases x with
          | tmp t =>
            cases hj : ds.idxOf? t with
            | none =>
              rw [valOf_none hj, hI.act]
              exact putSel_out _ _ t ds 0 a0 (by rw [List.idxOf?_eq_none_iff] at hj; exact hj)
            | some j =>
              rw [valOf_some hj]
              exact hread t j (idx_get hj) (haft j (hopn t j hx hj))
          | const v => simp only [valOf]; rfl
          | global g => simp only [valOf]; rfl
          | func f => simp only [valOf]; rfl
        have hst := step i o (fun i => listed.getD i false) vs (valOf a0 ds vs) w ho hf haft ⟨fun _ _ h => valOf_some h, fun _ h => valOf_none h, fun _ => rfl, fun _ => rfl⟩ (fun j want hg => by
          have hy := hyield j want hg
          unfold Region.wanted at hw
          rw [hg] at hw
          simp only [hy] at hw
          cases hv : vs j <;> rw [hv] at hw <;> simp at hw
          rw [hw]) hI.inv
        rw [← hρ] at hst
        exact wp_of_stepTo hst fun v w' h => hnext v w' h
      · rw [if_neg hw]
        cases hg : o.guard with
        | none => exact absurd (by simp [Region.wanted, hg]) hw
        | some g =>
          obtain ⟨j, want⟩ := g
          refine hnext undef w (skip i o _ vs w j want ho hf haft hg (fun hv => hw ?_) hI.inv)
          have hy := hyield j want hg
          unfold Region.wanted
          rw [hg]
          simp only [hy, hv]
          simp

/-- THE RULE. -/
theorem wp_region_inv {id : Nat} {a : Act} {w : World} (hm : P.follows .mixedOrders = true) (ds : List Tmp) (hok : slotsGB ops ds a.tmps.size = true) (I : (Nat → Bool) → (Nat → Value) → World → Prop)
    (start : I (fun _ => false) (fun _ => undef) w.drew)
    (step : ∀ i o L vs ρ w, ops[i]? = some o → L i = false → (∀ j, afterB ops i j = true → L j = true) → ReadsF a ds vs ρ → (∀ j want, o.guard = some (j, want) → vs j = .bool want) → I L vs w →
      stepTo P (fun v w' => I (updB L i) (updV vs i v) w') ((execOp ρ o).run P w))
    (skip : ∀ i o L vs w j want, ops[i]? = some o → L i = false → (∀ j, afterB ops i j = true → L j = true) → o.guard = some (j, want) → vs j ≠ .bool want → I L vs w → I (updB L i) (updV vs i undef) w)
    (fin : ∀ vs w', I (fun j => decide (j < ops.size)) vs w' → Q .normal (putList vs ds a) w') :
    (Code.region id ops true).wp P Q a w := by
  have ok := slotsG_ok hok
  refine wp_region_any hm ?_
  have h0 : toCome ops.size (Array.replicate ops.size false) = ops.size := by
    have := List.countP_eq_length (l := List.range ops.size) (p := fun i => !(Array.replicate ops.size false).getD i false) |>.2 fun i _ => by rw [rep_false]; rfl
    unfold toCome
    rw [this, List.length_range]
  have hf : (fun i => (Array.replicate ops.size false).getD i false) = fun _ => false := by
    funext i
    exact rep_false _ i
  refine inv_go ok step skip fin ops.size (Array.replicate ops.size false) (fun _ => undef) a _ ⟨by simp, ?_, ?_⟩ h0
  · rw [hf]
    exact (putSel_none ds 0 a).symm
  · rw [hf]
    exact start
end

theorem putSel_defers (L : Nat → Bool) (vs : Nat → Value) : ∀ (ds : List Tmp) (k : Nat) (a : Act), (putSel L vs ds k a).defers = a.defers
  | [], _, _ => rfl
  | d :: ds, k, a => by
    simp only [putSel]
    rw [putSel_defers L vs ds]
    split <;> rfl

/-- The end of a body behind such a region: one slot is what is answered; the list of slots stays folded. -/
theorem bodyPost_slot {P : Program} {fn : Func} {R : Ending → World → Prop} {a : Act} {ds : List Tmp} {vs : Nat → Value} {w : World} {t : Tmp} {v : Value} (j : Nat) (hres : fn.results = #[.tmp t])
    (hB : (decide ds.Nodup && decide (ds[j]? = some t)) = true) (hs : decide (t < a.tmps.size) = true) (hd : a.defers = []) (hv : vs j = v) (hR : R (.returned v) w) : bodyPost P fn R .ret (putList vs ds a) w := by
  simp only [Bool.and_eq_true, decide_eq_true_eq] at hB hs
  refine bodyPost_ret (v := v) ?_ ((putSel_defers _ _ _ _ _).trans hd) hR
  rw [results_tmp hres]
  congr 1
  have := putSel_in (fun _ => true) vs t ds 0 j a hB.1 hB.2 rfl hs
  rw [Nat.zero_add, hv] at this
  exact this
end Go.Proofs.YtdpbdkacngaemaaDoor

/- A region that draws its order, told by one invariant over what is listed, the values and the world, as far as its first m operations go (those that all others come behind). Nothing here speaks of the program. -/
namespace Go.Proofs.YtdpbdkacngaemaaDoor
open Go Go.RowKit
set_option maxRecDepth 100000

section
variable {P : Program} {ops : Array Oper} {Q : Exit → Act → World → Prop} {a0 : Act} {m : Nat} {ds : List Tmp} {I : (Nat → Bool) → (Nat → Value) → World → Prop}

structure PInv (ops : Array Oper) (a0 : Act) (m : Nat) (ds : List Tmp) (I : (Nat → Bool) → (Nat → Value) → World → Prop) (listed : Array Bool) (vs : Nat → Value) (a : Act) (w : World) : Prop where
  size : listed.size = ops.size
  tail : ∀ j, m ≤ j → listed.getD j false = false
  closed : ∀ i o, ops[i]? = some o → listed.getD i false = true → ∀ e ∈ o.after, Region.binds .any e = true → listed.getD e.on false = true
  inv : I (fun i => listed.getD i false) vs w
  act : a = putSel (fun i => listed.getD i false) vs ds 0 a0

theorem pre_go (ok : SlotsOk ops m ds a0.tmps.size)
    (step : ∀ i o L vs w, i < m → ops[i]? = some o → L i = false → (∀ j, afterB ops i j = true → L j = true) → I L vs w →
      stepTo P (fun v w' => I (updB L i) (updV vs i v) w') ((execOp (valOf a0 ds vs) o).run P w))
    (fin : ∀ L vs w', (∀ i, i < m → L i = true) → I L vs w' → wpAny P .any ops Q (ops.size - m) (listedTo ops.size m) (putList vs ds a0) w') :
    ∀ (r : Nat) (listed : Array Bool) (vs : Nat → Value) (a : Act) (w : World), PInv ops a0 m ds I listed vs a w → toCome m listed = r → wpAny P .any ops Q (ops.size - m + r) listed a w
  | 0, listed, vs, a, w, hI, hr => by
    have hall := toCome_zero hr
    have hl : listed = listedTo ops.size m := by
      apply Array.ext
      · simp [listedTo, hI.size]
      · intro i h1 h2
        have e : listed.getD i false = listed[i] := by simp [h1]
        by_cases hi : i < m
        · have := hall i hi
          rw [e] at this
          simp [listedTo, this, hi]
        · have := hI.tail i (by omega)
          rw [e] at this
          simp [listedTo, this, hi]
    have ha : a = putList vs ds a0 := by
      rw [hI.act]
      exact putSel_congr _ _ _ _ ds 0 a0 fun j _ hj => ⟨hall j (by rw [← ok.len]; omega), fun _ => rfl⟩
    rw [hl, ha, Nat.add_zero]
    exact fin (fun i => listed.getD i false) vs w hall hI.inv
  | r + 1, listed, vs, a, w, hI, hr => by
    refine ⟨fun h0 => ?_, fun i hi => ?_⟩
    · -- the least one that is still to come may come
      exfalso
      have hex : ∃ i, i < m ∧ listed.getD i false = false := by
        apply Classical.byContradiction
        intro hn
        have : toCome m listed = 0 := by
          unfold toCome
          rw [List.countP_eq_zero]
          intro i hi
          have hi' := List.mem_range.1 hi
          cases hb : listed.getD i false
          · exact absurd ⟨i, hi', hb⟩ hn
          · simp
        omega
      have key : ∀ n i, i < n → i < m → listed.getD i false = false → False := by
        intro n
        induction n with
        | zero => intro i h; omega
        | succ n ih =>
          intro i hin him hf
          obtain ⟨o, ho, _, _, _, hlow, _⟩ := ok.each i him
          have hs : i < listed.size := by rw [hI.size]; exact Nat.lt_of_lt_of_le him ok.le
          have : i ∈ Region.ready .any ops listed := by
            rw [mem_ready]
            refine ⟨by rw [getD_false_true hs]; exact hf, o, ho, fun e he hb => ?_⟩
            cases hb' : listed.getD e.on false
            · exact (ih e.on (by have := hlow e he hb; omega) (by have := hlow e he hb; omega) hb').elim
            · rfl
          rw [h0] at this
          cases this
      obtain ⟨i, him, hf⟩ := hex
      exact key (i + 1) i (by omega) him hf
    · obtain ⟨hun, o, ho, hall⟩ := mem_ready.1 hi
      have hio : i < ops.size := (Array.getElem?_eq_some_iff.1 ho).1
      have hs : i < listed.size := by rw [hI.size]; exact hio
      have hf : listed.getD i false = false := by rw [← getD_false_true hs]; exact hun
      by_cases him : i < m
      · obtain ⟨o', ho', hgd, hdst, hsel, hlow, hopn⟩ := ok.each i him
        obtain rfl : o = o' := Option.some.inj (ho.symm.trans ho')
        unfold wpOp
        simp only [ho]
        have hw : Region.wanted o (yielded ops a.tmps) = true := by simp [Region.wanted, hgd]
        rw [if_pos hw]
        left
        have hρ : execOp a.eval o = execOp (valOf a0 ds vs) o := by
          refine execOp_congr o hsel fun x hx => ?_
          rw [hI.act]
          cases x with
          | tmp t =>
            cases hj : ds.idxOf? t with
            | none =>
              rw [valOf_none hj]
              exact putSel_out _ _ t ds 0 a0 (by rw [List.idxOf?_eq_none_iff] at hj; exact hj)
            | some j =>
              rw [valOf_some hj]
              have hdj : ds[j]? = some t := by
                have := List.of_findIdx?_eq_some (p := (· == t)) (xs := ds) (i := j) (by simpa [List.idxOf?] using hj)
                cases hd : ds[j]? with
                | none => simp [hd] at this
                | some d => simp [hd] at this; rw [this]
              obtain ⟨e, he, hb, rfl⟩ := afterB_iff ho (hopn t j hx hj)
              have := putSel_in (fun i => listed.getD i false) vs t ds 0 e.on a0 ok.nodup hdj (by simpa using hall e he hb) (ok.small t (List.mem_of_getElem? hdj))
              simpa using this
          | const v => simp only [valOf]; rfl
          | global g => simp only [valOf]; rfl
          | func f => simp only [valOf]; rfl
        have hst := step i o (fun i => listed.getD i false) vs w him ho hf (fun j hj => by
          obtain ⟨e, he, hb, rfl⟩ := afterB_iff ho hj
          exact hall e he hb) hI.inv
        rw [← hρ] at hst
        refine wp_of_stepTo hst fun v w' hG => ?_
        have hdi : ∃ d, ds[i]? = some d := ⟨ds[i]'(by rw [ok.len]; exact him), List.getElem?_eq_getElem _⟩
        obtain ⟨d, hd⟩ := hdi
        refine pre_go ok step fin r (listed.setIfInBounds i true) (updV vs i v) (a.put o.dst v) w' ⟨?_, ?_, ?_, ?_, ?_⟩ ?_
        · simp [hI.size]
        · intro j hj
          rw [getD_set_ne false (by omega)]
          exact hI.tail j hj
        · intro j oj hoj hl e he hb
          by_cases hji : j = i
          · subst hji
            obtain rfl : o = oj := Option.some.inj (ho.symm.trans hoj)
            exact getD_set_true (hall e he hb)
          · rw [getD_set_ne false (Ne.symm hji)] at hl
            exact getD_set_true (hI.closed j oj hoj hl e he hb)
        · rw [← updB_listed hs]
          exact hG
        · rw [hdst, hd, hI.act]
          have := putSel_set (fun i => listed.getD i false) vs i v ds 0 a0 d ok.nodup (Nat.zero_le _) (by simpa using hd) hf
          rw [this, updB_listed hs]
        · have := toCome_set him hs hf
          omega
      · exfalso
        have hex : ∃ k, k < m ∧ listed.getD k false = false := by
          apply Classical.byContradiction
          intro hn
          have : toCome m listed = 0 := by
            unfold toCome
            rw [List.countP_eq_zero]
            intro k hk
            cases hb : listed.getD k false
            · exact absurd ⟨k, List.mem_range.1 hk, hb⟩ hn
            · simp
          omega
        rcases ok.tail i o (by omega) ho with ⟨e, he, hb, hme⟩ | hcov
        · have h1 := hall e he hb
          rw [hI.tail e.on hme] at h1
          cases h1
        · have key : ∀ n k, m - k ≤ n → k < m → listed.getD k false = true := by
            intro n
            induction n with
            | zero => intro k h1 h2; omega
            | succ n ih =>
              intro k h1 h2
              rcases hcov k h2 with h | ⟨k', hk', h⟩
              · obtain ⟨e, he, hb, rfl⟩ := afterB_iff ho h
                exact hall e he hb
              · obtain ⟨ok', hok', _, _, _, hlow, _⟩ := ok.each k' hk'
                obtain ⟨e, he, hb, rfl⟩ := afterB_iff hok' h
                have hlt := hlow e he hb
                exact hI.closed k' ok' hok' (ih k' (by omega) hk') e he hb
          obtain ⟨k, hk, hkf⟩ := hex
          rw [key m k (by omega) hk] at hkf
          cases hkf

theorem wp_region_pre {id : Nat} {a : Act} {w : World} (hm : P.follows .mixedOrders = true) (m : Nat) (ds : List Tmp) (hok : slotsB ops m ds a.tmps.size = true) (I : (Nat → Bool) → (Nat → Value) → World → Prop)
    (start : I (fun _ => false) (fun _ => undef) w.drew)
    (step : ∀ i o L vs ρ w, i < m → ops[i]? = some o → L i = false → (∀ j, afterB ops i j = true → L j = true) → ReadsF a ds vs ρ → I L vs w →
      stepTo P (fun v w' => I (updB L i) (updV vs i v) w') ((execOp ρ o).run P w))
    (fin : ∀ L vs w', (∀ i, i < m → L i = true) → I L vs w' → wpAny P .any ops Q (ops.size - m) (listedTo ops.size m) (putList vs ds a) w') :
    (Code.region id ops true).wp P Q a w := by
  have ok := slots_ok hok
  refine wp_region_any hm ?_
  have h0 : toCome m (Array.replicate ops.size false) = m := by
    have := List.countP_eq_length (l := List.range m) (p := fun i => !(Array.replicate ops.size false).getD i false) |>.2 fun i _ => by rw [rep_false]; rfl
    unfold toCome
    rw [this, List.length_range]
  have ha : a = putSel (fun i => (Array.replicate ops.size false).getD i false) (fun _ => undef) ds 0 a := by
    have : putSel (fun i => (Array.replicate ops.size false).getD i false) (fun _ => undef) ds 0 a = putSel (fun _ => false) (fun _ => undef) ds 0 a := putSel_congr _ _ _ _ ds 0 a fun j _ _ => ⟨rep_false _ j, fun _ => rfl⟩
    rw [this]
    exact (putSel_none ds 0 a).symm
  have hI : PInv ops a m ds I (Array.replicate ops.size false) (fun _ => undef) a { w with drawn := w.drawn + 1 } := {
    size := by simp
    tail := fun j _ => rep_false _ j
    closed := fun i o _ h => by rw [rep_false] at h; cases h
    inv := by
      have : (fun i => (Array.replicate ops.size false).getD i false) = fun _ => false := by funext i; exact rep_false _ i
      rw [this]
      exact start
    act := ha }
  have h1 := pre_go (Q := Q) ok (fun i o L vs w hi ho hl haft hI => step i o L vs (valOf a ds vs) w hi ho hl haft ⟨fun _ _ h => valOf_some h, fun _ h => valOf_none h, fun _ => rfl, fun _ => rfl⟩ hI) fin m _ _ a _ hI h0
  have e : ops.size - m + m = ops.size := Nat.sub_add_cancel ok.le
  rw [e] at h1
  exact h1
end
end Go.Proofs.YtdpbdkacngaemaaDoor


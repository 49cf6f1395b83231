/- WiRead, WiNum, WiNumG, WiNumR, Ints, Blk. -/
import Derived.Test.YtklmgdiaianlbaaQ0
import Derived.Test.YtklmgdiaianlbaaQ1
import Derived.Lib.ConvBytes
import Derived.Test.YtklmgdiaianlbaaProg
import Derived.OpenShut
import Derived.Deep.Slices
import Derived.Deep.SlicePairs
import Derived.Deep.Fields
import Derived.ChangeSlices
import Derived.ChangeSame
import Derived.Maps.AppendAt
import Derived.WalkKit
import Derived.OwnWalk
import Derived.Deep.Draws
set_option linter.unusedVariables false
set_option linter.unusedSimpArgs false
/- What a reader of package wire is in memory, and what making one, asking it and cutting bytes off it does. -/
namespace Go.Proofs.Ytklmgdiaianlbaa.wi
open Go.RowKit
set_option maxRecDepth 100000

/-- Cells o, o + 1 .. of block g hold the bytes l. -/
def Row (w : World) (g o : Nat) (l : List UInt8) : Prop :=
  ∃ cs fr, w.heap[g]? = some (.cells cs 5 fr) ∧ ∀ i (h : i < l.length), cs[o + i]? = some (.int .u8 (l[i].toNat : Int))

/-- Block b is a reader that has l left, in block g from o on. -/
def RdOf (b g o cap : Nat) (l : List UInt8) (bad : Bool) (w : World) : Prop :=
  w.heap[b]? = some (.cells #[.slice (some ⟨g, o, none⟩) l.length cap, .bool bad] 101 (0, 0)) ∧ Row w g o l ∧ l.length ≤ cap ∧ l.length ≤ 140737488355328

/-- Block b is a reader that has l left. -/
def RdAt (b : Nat) (l : List UInt8) (bad : Bool) (w : World) : Prop := ∃ g o cap, RdOf b g o cap l bad w

theorem lt_of_some {w : World} {b : Nat} {o : Obj} (h : w.heap[b]? = some o) : b < w.heap.size := by
  rcases Nat.lt_or_ge b w.heap.size with h' | h'
  · exact h'
  · simp [Array.getElem?_eq_none h'] at h

theorem Row.cell {w : World} {g o : Nat} {l : List UInt8} (h : Row w g o l) (i : Nat) (hi : i < l.length) : w.cell? ⟨g, o + i, none⟩ = some (.int .u8 (l[i].toNat : Int)) := by
  obtain ⟨cs, fr, hg, hc⟩ := h
  simp [World.cell?, hg, hc i hi]

theorem Row.keep {w w' : World} {g o : Nat} {l : List UInt8} (h : Row w g o l) (hk : w'.heap[g]? = w.heap[g]?) : Row w' g o l := by
  obtain ⟨cs, fr, hg, hc⟩ := h
  exact ⟨cs, fr, hk.trans hg, hc⟩

theorem Row.drop {w : World} {g o : Nat} {l : List UInt8} (h : Row w g o l) (n : Nat) : Row w g (o + n) (l.drop n) := by
  obtain ⟨cs, fr, hg, hc⟩ := h
  refine ⟨cs, fr, hg, fun i hi => ?_⟩
  have := hc (n + i) (by simp at hi; omega)
  rw [Nat.add_assoc, this]
  simp

theorem Row.take {w : World} {g o : Nat} {l : List UInt8} (h : Row w g o l) (n : Nat) : Row w g o (l.take n) := by
  obtain ⟨cs, fr, hg, hc⟩ := h
  refine ⟨cs, fr, hg, fun i hi => ?_⟩
  have := hc i (by simp at hi; omega)
  rw [this]
  simp

theorem Row.nil0 {w : World} {g o : Nat} {l : List UInt8} (h : Row w g o l) (o' : Nat) : Row w g o' [] := by
  obtain ⟨cs, fr, hg, _⟩ := h
  exact ⟨cs, fr, hg, fun i hi => by simp at hi⟩

/-- A reader stays as it is where no block that was there has turned but one of another reader. -/
theorem RdAt.keep {b c : Nat} {l m : List UInt8} {x y : Bool} {w w' : World} (h : RdAt b l x w) (k : RdAt c m y w) (hne : b ≠ c) (hg : w.grownBy w' (some c)) : RdAt b l x w' := by
  obtain ⟨g, o, cap, hb, hr, h1, h2⟩ := h
  obtain ⟨_, _, _, hc, _⟩ := k
  have hgc : g ≠ c := by
    intro e
    subst e
    obtain ⟨cs, fr, hg', _⟩ := hr
    rw [hc] at hg'
    simp at hg'
  have hgl : g < w.heap.size := by obtain ⟨cs, fr, hg', _⟩ := hr; exact lt_of_some hg'
  exact ⟨g, o, cap, (hg.block b (lt_of_some hb) (by simpa using hne)).trans hb, hr.keep (hg.block g hgl (by simpa using hgc)), h1, h2⟩

theorem RdAt.below {b : Nat} {l : List UInt8} {x : Bool} {w w' : World} (h : RdAt b l x w) (hg : Below w.heap.size w w') : RdAt b l x w' := by
  obtain ⟨g, o, cap, hb, hr, h1, h2⟩ := h
  have hgl : g < w.heap.size := by obtain ⟨cs, fr, hg', _⟩ := hr; exact lt_of_some hg'
  exact ⟨g, o, cap, (hg.block b (lt_of_some hb)).trans hb, hr.keep (hg.block g hgl), h1, h2⟩

theorem RdAt.lt {b : Nat} {l : List UInt8} {x : Bool} {w : World} (h : RdAt b l x w) : b < w.heap.size := by
  obtain ⟨_, _, _, hb, _⟩ := h
  exact lt_of_some hb

def okNew (s : ByteArray) (w : World) (e : Ending) (w' : World) : Prop :=
  ∃ b, e = .returned (.pointer (some ⟨b, 0, none⟩)) ∧ w.heap.size ≤ b ∧ RdAt b (bl s) false w' ∧ Below w.heap.size w w'

set_option maxHeartbeats 400000 in
theorem new_any (s : ByteArray) (w : World) (hs : s.size ≤ 140737488355328) :
    Calls Try.prog 57 #[.string s] w (okNew s w) := by
  have hcv := Lib.run_convert_string_bytes (P := Try.prog) w 9 44 5 s Try.underlying9 Try.underlying44 Try.underlying5
  have hsz := Lib.bytesWorld_size w 5 s
  have hnew := Lib.bytesWorld_at_new w 5 s
  have hold := Lib.bytesWorld_at_old w 5 s
  have hcap := grownCap_ge w s.size 0 5
  have hcell : ∀ i (h : i < (bl s).length), (Lib.bytesCells w 5 s)[0 + i]? = some (.int .u8 ((bl s)[i].toNat : Int)) := by
    intro i hi
    have hi' : i < s.size := by rw [← bl_len]; exact hi
    have := Lib.bytesWorld_cell w 5 s i hi'
    simp [World.cell?, hnew] at this
    rw [Nat.zero_add, this]
    simp [bl, hi']
  have hos : (Lib.bytesWorld w 5 s).os = w.os ∧ (Lib.bytesWorld w 5 s).tape = w.tape ∧ (Lib.bytesWorld w 5 s).output = w.output := ⟨rfl, rfl, rfl⟩
  have hbel : Below w.heap.size w (Lib.bytesWorld w 5 s) := ⟨hos.1, hos.2.1, hos.2.2, by omega, fun k hk => hold k hk⟩
  have hlen := bl_len s
  generalize Lib.bytesWorld w 5 s = W1 at *
  generalize grownCap w s.size 0 5 = cap at *
  have Hsz := Lib.hid hsz
  have Hnew := Lib.hid hnew
  have Hcell := Lib.hid hcell
  have Hlen := Lib.hid hlen
  clear hsz hnew hcell hold hos hlen
  go_enter Try.func57, Try.ntmps57
  go_wp2
  go_ret
  have Hl := Hlen.out
  have hW : (W1.alloc (.cells #[.slice (some ⟨w.heap.size, 0, none⟩) s.size cap, .bool false] 101)).heap[W1.heap.size]? = some (.cells #[.slice (some ⟨w.heap.size, 0, none⟩) s.size cap, .bool false] 101 (0, 0)) := by
    show (W1.heap.push _)[W1.heap.size]? = _
    simp
  have hO := Below.heap_alloc W1 (.cells #[.slice (some ⟨w.heap.size, 0, none⟩) s.size cap, .bool false] 101) w.heap.size (by have := Hsz.out; omega)
  refine ⟨W1.heap.size, rfl, by have := Hsz.out; omega, ⟨w.heap.size, 0, cap, by rw [Hl]; exact hW, ⟨_, _, hO.trans Hnew.out, Hcell.out⟩, by omega, by omega⟩, below_new hbel _⟩

/-! ### Asking -/

theorem ok_yes (b : Nat) (l : List UInt8) (w : World) (h : RdAt b l false w) :
    Calls Try.prog 91 #[.pointer (some ⟨b, 0, none⟩)] w fun e w' => e = .returned (.bool true) ∧ w = w' := by
  obtain ⟨g, o, cap, hb, _⟩ := h
  have h1 : w.cell? ⟨b, 1, none⟩ = some (.bool false) := by simp [World.cell?, hb]
  clear hb
  go_enter Try.func91, Try.ntmps91
  go_wp2
  go_ret
  exact ⟨rfl, rfl⟩

theorem ok_no (b : Nat) (l : List UInt8) (w : World) (h : RdAt b l true w) :
    Calls Try.prog 91 #[.pointer (some ⟨b, 0, none⟩)] w fun e w' => e = .returned (.bool false) ∧ w = w' := by
  obtain ⟨g, o, cap, hb, _⟩ := h
  have h1 : w.cell? ⟨b, 1, none⟩ = some (.bool true) := by simp [World.cell?, hb]
  clear hb
  go_enter Try.func91, Try.ntmps91
  go_wp2
  go_ret
  exact ⟨rfl, rfl⟩

theorem ok_nil (w : World) :
    Calls Try.prog 91 #[.pointer none] w fun e w' => e = .returned (.bool false) ∧ w = w' := by
  go_enter Try.func91, Try.ntmps91
  go_wp2
  go_ret
  exact ⟨rfl, rfl⟩

/-! ### Cutting -/

def tailOff (o len n : Nat) : Nat := if len = n then o else o + n

def okTake (b g o : Nat) (l : List UInt8) (n : Nat) (x : Bool) (w : World) (e : Ending) (w' : World) : Prop :=
  e = .returned (.tuple #[.slice (some ⟨g, o, none⟩) n n, .bool true]) ∧ RdOf b g (tailOff o l.length n) (l.length - n) (l.drop n) x w' ∧ w.grownBy w' (some b) ∧ Row w' g o (l.take n)

theorem slice_head (g o len cap : Nat) (n : Int) (h0 : 0 ≤ n) (hn : n.toNat ≤ cap) (w : World) :
    (Instr.slice 44 (.slice (some ⟨g, o, none⟩) len cap) none (some (.int .u64 n)) (some (.int .u64 n))).run Try.prog w = .ok (.slice (some ⟨g, o, none⟩) n.toNat n.toNat) w := by
  have h1 : n ≤ (cap : Int) := by omega
  rw [run_slice_any (P := Try.prog) w 44 (some ⟨g, o, none⟩) len cap Try.underlying44]
  simp [Instr.sliceBounds, run_sliceBound, h0, h1, go_sem]
  intro h
  omega


theorem slice_tail (g o len cap : Nat) (n : Int) (h0 : 0 ≤ n) (hn : n.toNat ≤ len) (hc : len ≤ cap) (w : World) :
    (Instr.slice 44 (.slice (some ⟨g, o, none⟩) len cap) (some (.int .u64 n)) (some (.int .i64 (len : Int))) (some (.int .i64 (len : Int)))).run Try.prog w = .ok (.slice (some ⟨g, tailOff o len n.toNat, none⟩) (len - n.toNat) (len - n.toNat)) w := by
  have h1 : n ≤ (len : Int) := by omega
  have h2 : (len : Int) ≤ (cap : Int) := by omega
  rw [run_slice_any (P := Try.prog) w 44 (some ⟨g, o, none⟩) len cap Try.underlying44]
  unfold tailOff
  by_cases hl : len = n.toNat
  · simp [Instr.sliceBounds, run_sliceBound, h0, h1, hc, go_sem]
    rw [if_pos hl, if_pos hl]
  · simp [Instr.sliceBounds, run_sliceBound, h0, h1, hc, hl, go_sem]

theorem row_tail {w : World} {g o : Nat} {l : List UInt8} (h : Row w g o l) (n : Nat) : Row w g (tailOff o l.length n) (l.drop n) := by
  unfold tailOff
  split
  · have e : l.drop n = [] := by simp; omega
    rw [e]
    exact h.nil0 o
  · exact h.drop n

set_option maxHeartbeats 400000 in
theorem take_yes (b g o cap : Nat) (l : List UInt8) (x : Bool) (n : Int) (w : World) (hR : RdOf b g o cap l x w) (h0 : 0 ≤ n) (hn : n.toNat ≤ l.length) :
    Calls Try.prog 92 #[.pointer (some ⟨b, 0, none⟩), .int .u64 n] w (okTake b g o l n.toNat x w) := by
  obtain ⟨hb, hr, hc, hl⟩ := hR
  have h1 : w.cell? ⟨b, 0, none⟩ = some (.slice (some ⟨g, o, none⟩) l.length cap) := by simp [World.cell?, hb]
  have h2 : w.frozen? ⟨b, 0, none⟩ = false := by simp [World.frozen?, hb]
  have hs1 := slice_head g o l.length cap n h0 (by omega) w
  have hs2 := slice_tail g o l.length cap n h0 hn hc w
  have ht : ¬ ((l.length : Int) < n) := by omega
  have hw := heap_setCell_same w b 0 _ 101 (.slice (some ⟨g, tailOff o l.length n.toNat, none⟩) (l.length - n.toNat) (l.length - n.toNat)) hb
  have hgr : w.grownBy (w.setCell ⟨b, 0, none⟩ (.slice (some ⟨g, tailOff o l.length n.toNat, none⟩) (l.length - n.toNat) (l.length - n.toNat))) (some b) :=
    ⟨rfl, rfl, rfl, by simp [World.setCell], fun k _ hk => Below.heap_setCell _ _ _ _ (fun e => hk (by simp [e]))⟩
  have hgb : g ≠ b := by
    intro e
    subst e
    obtain ⟨cs, fr, hg', _⟩ := hr
    rw [hb] at hg'
    simp at hg'
  have hgk := Below.heap_setCell w ⟨b, 0, none⟩ (.slice (some ⟨g, tailOff o l.length n.toNat, none⟩) (l.length - n.toNat) (l.length - n.toNat)) g hgb
  have hr1 := (row_tail hr n.toNat).keep hgk
  have hr2 := (hr.take n.toNat).keep hgk
  have hfin : RdOf b g (tailOff o l.length n.toNat) (l.length - n.toNat) (l.drop n.toNat) x (w.setCell ⟨b, 0, none⟩ (.slice (some ⟨g, tailOff o l.length n.toNat, none⟩) (l.length - n.toNat) (l.length - n.toNat))) := by
    refine ⟨?_, hr1, by simp, by simp; omega⟩
    rw [hw]
    simp
  have Hf := Lib.hid hfin
  have Hg := Lib.hid hgr
  have Hr2 := Lib.hid hr2
  clear hfin hgr hr1 hr2 hgk hw hb
  go_enter Try.func92, Try.ntmps92
  go_wp2
  go_ret2
  exact ⟨rfl, Hf.out, Hg.out, Hr2.out⟩

def okTakeNo (w : World) (e : Ending) (w' : World) : Prop := e = .returned (.tuple #[.slice none 0 0, .bool false]) ∧ w = w'

set_option maxHeartbeats 400000 in
theorem take_no (b g o cap : Nat) (l : List UInt8) (x : Bool) (n : Int) (w : World) (hR : RdOf b g o cap l x w) (hn : (l.length : Int) < n) :
    Calls Try.prog 92 #[.pointer (some ⟨b, 0, none⟩), .int .u64 n] w (okTakeNo w) := by
  obtain ⟨hb, _, _, hl⟩ := hR
  have h1 : w.cell? ⟨b, 0, none⟩ = some (.slice (some ⟨g, o, none⟩) l.length cap) := by simp [World.cell?, hb]
  clear hb
  go_enter Try.func92, Try.ntmps92
  go_wp2
  go_ret2
  exact ⟨rfl, rfl⟩

end Go.Proofs.Ytklmgdiaianlbaa.wi

/- What reading a number and a text off a reader does: num, text, read, Num and Text of package wire. -/
namespace Go.Proofs.Ytklmgdiaianlbaa.wi
open Go.RowKit
set_option maxRecDepth 100000

def okNum (b : Nat) (l : List UInt8) (x : Bool) (w : World) (e : Ending) (w' : World) : Prop :=
  w.grownBy w' (some b) ∧
    ((∃ n r, rdNum l = some (n, r) ∧ e = .returned (.tuple #[.int .u64 (n : Int), .bool true]) ∧ RdAt b r x w') ∨
     (rdNum l = none ∧ e = .returned (.tuple #[.int .u64 0, .bool false]) ∧ ∃ m, RdAt b m x w'))

set_option maxHeartbeats 400000 in
theorem num_empty (b : Nat) (x : Bool) (w : World) (h : RdAt b [] x w) :
    Calls Try.prog 86 #[.func (.func 92) #[.pointer (some ⟨b, 0, none⟩)] #[]] w (okNum b [] x w) := by
  obtain ⟨g, o, cap, hR⟩ := h
  have hR' : RdAt b [] x w := ⟨g, o, cap, hR⟩
  go_enter Try.func86, Try.ntmps86
  go_wp2_with (go_at_call 92; refine (take_no b g o cap [] x 1 _ hR (by simp)).mono ?_; rintro e w' ⟨rfl, rfl⟩)
  go_ret2
  exact ⟨grown_refl _ _, .inr ⟨rfl, rfl, [], hR'⟩⟩

theorem Row.cell0 {w : World} {g o : Nat} {k : UInt8} {r : List UInt8} (h : Row w g o (k :: r)) : w.cell? ⟨g, o, none⟩ = some (.int .u8 (k.toNat : Int)) := by
  have := h.cell 0 (by simp)
  simpa using this

set_option maxHeartbeats 400000 in
theorem num_big (b : Nat) (k : UInt8) (r : List UInt8) (x : Bool) (w : World) (h : RdAt b (k :: r) x w) (hk : 8 < k.toNat) :
    Calls Try.prog 86 #[.func (.func 92) #[.pointer (some ⟨b, 0, none⟩)] #[]] w (okNum b (k :: r) x w) := by
  obtain ⟨g, o, cap, hR⟩ := h
  have hki : (8 : Int) < (k.toNat : Int) := by omega
  have hnone : rdNum (k :: r) = none := by simp [rdNum, hk]
  have Hn := Lib.hid hnone
  clear hnone
  go_enter Try.func86, Try.ntmps86
  go_wp2_with (go_at_call 92; refine (take_yes b g o cap (k :: r) x 1 _ hR (by decide) (by simp)).mono ?_)
  rintro e w1 ⟨rfl, h1, h2, h3⟩
  have hc : w1.cell? ⟨g, o, none⟩ = some (.int .u8 (k.toNat : Int)) := Row.cell0 (r := []) h3
  have H1 := Lib.hid h1
  have H2 := Lib.hid h2
  clear h1 h2 h3
  go_wp2
  go_ret2
  exact ⟨H2.out, .inr ⟨Hn.out, rfl, r, ⟨_, _, _, H1.out⟩⟩⟩

set_option maxHeartbeats 400000 in
theorem num_short (b : Nat) (k : UInt8) (r : List UInt8) (x : Bool) (w : World) (h : RdAt b (k :: r) x w) (hk : k.toNat ≤ 8) (hr : r.length < k.toNat) :
    Calls Try.prog 86 #[.func (.func 92) #[.pointer (some ⟨b, 0, none⟩)] #[]] w (okNum b (k :: r) x w) := by
  obtain ⟨g, o, cap, hR⟩ := h
  have hki : ¬ (8 : Int) < (k.toNat : Int) := by omega
  have hnone : rdNum (k :: r) = none := by simp [rdNum, Nat.not_lt.2 hk, hr]
  have Hn := Lib.hid hnone
  clear hnone
  go_enter Try.func86, Try.ntmps86
  go_wp2_with (go_at_call 92; refine (take_yes b g o cap (k :: r) x 1 _ hR (by decide) (by simp)).mono ?_)
  rintro e w1 ⟨rfl, h1, h2, h3⟩
  have hc : w1.cell? ⟨g, o, none⟩ = some (.int .u8 (k.toNat : Int)) := Row.cell0 (r := []) h3
  have H1 := Lib.hid h1
  have H2 := Lib.hid h2
  clear h1 h2 h3
  go_wp2_with (go_at_call 92; refine (take_no b g _ _ r x _ _ H1.out (by omega)).mono ?_; rintro e w' ⟨rfl, rfl⟩)
  go_ret2
  exact ⟨H2.out, .inr ⟨Hn.out, rfl, r, ⟨_, _, _, H1.out⟩⟩⟩

set_option maxHeartbeats 400000 in
theorem num_zero (b : Nat) (k : UInt8) (r : List UInt8) (x : Bool) (w : World) (h : RdAt b (k :: r) x w) (hk : k.toNat ≤ 8) (hr : k.toNat ≤ r.length) (h0 : (r.take k.toNat).head? = some 0) :
    Calls Try.prog 86 #[.func (.func 92) #[.pointer (some ⟨b, 0, none⟩)] #[]] w (okNum b (k :: r) x w) := by
  obtain ⟨g, o, cap, hR⟩ := h
  have hki : ¬ (8 : Int) < (k.toNat : Int) := by omega
  have hnone : rdNum (k :: r) = none := by simp [rdNum, Nat.not_lt.2 hk, Nat.not_lt.2 hr]; exact h0
  have Hn := Lib.hid hnone
  have hkp : (0 : Int) < (k.toNat : Int) := by
    have : k.toNat ≠ 0 := by
      intro e
      rw [e] at h0
      simp at h0
    omega
  have H0 := Lib.hid h0
  clear hnone h0
  go_enter Try.func86, Try.ntmps86
  go_wp2_with (go_at_call 92; refine (take_yes b g o cap (k :: r) x 1 _ hR (by decide) (by simp)).mono ?_)
  rintro e w1 ⟨rfl, h1, h2, h3⟩
  have hc : w1.cell? ⟨g, o, none⟩ = some (.int .u8 (k.toNat : Int)) := Row.cell0 (r := []) h3
  obtain ⟨o1, c1, h1⟩ : ∃ o1 c1, RdOf b g o1 c1 r x w1 := ⟨_, _, h1⟩
  have H1 := Lib.hid h1
  have H2 := Lib.hid h2
  clear h1 h2 h3
  go_wp2_with (go_at_call 92; refine (take_yes b g o1 c1 r x (k.toNat : Int) _ H1.out (by omega) (by omega)).mono ?_)
  rintro e w2 ⟨rfl, h1, h2, h3⟩
  rw [Int.toNat_natCast] at h1 h3
  have hc0 : w2.cell? ⟨g, o1, none⟩ = some (.int .u8 0) := by
    have e0 := H0.out
    cases hd : r.take k.toNat with
    | nil => rw [hd] at e0; simp at e0
    | cons y q =>
      rw [hd] at e0 h3
      simp at e0
      subst e0
      exact Row.cell0 h3
  have H3 := Lib.hid h1
  have H4 := Lib.hid h2
  clear h1 h2 h3 hc
  go_wp2
  go_ret2
  exact ⟨grown_trans H2.out H4.out, .inr ⟨Hn.out, rfl, _, ⟨_, _, _, H3.out⟩⟩⟩

end Go.Proofs.Ytklmgdiaianlbaa.wi

/- Reading a number's bytes that are good ones. -/
namespace Go.Proofs.Ytklmgdiaianlbaa.wi
open Go.RowKit
set_option maxRecDepth 100000


theorem or_byte (v z : Nat) (hv : v < 72057594037927936) (hz : z < 256) : bits BinOp.or IntKind.u64 ((v : Int) * 256) (z : Int) = ((v * 256 + z : Nat) : Int) := by
  have e : (v : Int) * 256 = ((v * 256 : Nat) : Int) := by omega
  rw [e, u64_or_nat _ _ (by omega) (by omega)]
  have := Nat.shiftLeft_add_eq_or_of_lt (i := 8) (b := z) (by omega) v
  rw [Nat.shiftLeft_eq, show (2 : Nat) ^ 8 = 256 from rfl] at this
  rw [← this]

def NumRel (d : List UInt8) (n i : Value) : Prop := ∃ j : Nat, j ≤ d.length ∧ i = .int .i64 (j : Int) ∧ n = .int .u64 (val (d.take j) : Int)

set_option maxHeartbeats 800000 in
theorem num_good (b : Nat) (k : UInt8) (r : List UInt8) (x : Bool) (w : World) (h : RdAt b (k :: r) x w) (hk : k.toNat ≤ 8) (hr : k.toNat ≤ r.length) (h0 : ¬ (r.take k.toNat).head? = some 0) :
    Calls Try.prog 86 #[.func (.func 92) #[.pointer (some ⟨b, 0, none⟩)] #[]] w (okNum b (k :: r) x w) := by
  obtain ⟨g, o, cap, hR⟩ := h
  have hki : ¬ (8 : Int) < (k.toNat : Int) := by omega
  have hsome : rdNum (k :: r) = some (val (r.take k.toNat), r.drop k.toNat) := by simp [rdNum, Nat.not_lt.2 hk, Nat.not_lt.2 hr, h0]
  have Hn := Lib.hid hsome
  have H0 := Lib.hid h0
  clear hsome h0
  go_enter Try.func86, Try.ntmps86
  go_wp2_with (go_at_call 92; refine (take_yes b g o cap (k :: r) x 1 _ hR (by decide) (by simp)).mono ?_)
  rintro e w1 ⟨rfl, h1, h2, h3⟩
  have hc : w1.cell? ⟨g, o, none⟩ = some (.int .u8 (k.toNat : Int)) := Row.cell0 (r := []) h3
  obtain ⟨o1, c1, h1⟩ : ∃ o1 c1, RdOf b g o1 c1 r x w1 := ⟨_, _, h1⟩
  have H1 := Lib.hid h1
  have H2 := Lib.hid h2
  clear h1 h2 h3
  go_wp2_with (go_at_call 92; refine (take_yes b g o1 c1 r x (k.toNat : Int) _ H1.out (by omega) (by omega)).mono ?_)
  rintro e w2 ⟨rfl, h1, h2, h3⟩
  rw [Int.toNat_natCast] at h1 h3
  have H3 := Lib.hid h1
  have H4 := Lib.hid h2
  have hlen : (r.take k.toNat).length = k.toNat := by simp; omega
  obtain ⟨d, hd⟩ : ∃ d, d = r.take k.toNat := ⟨_, rfl⟩
  have hE : Hid (rdNum (k :: r) = some (val d, r.drop k.toNat)) := by rw [hd]; exact Hn
  have hZ : Hid (¬ d.head? = some 0) := by rw [hd]; exact H0
  rw [← hd] at hlen h3
  clear hd Hn H0 h1 h2 hc hR
  have hkb : k.toNat ≤ 8 := hk
  cases d with
  | nil =>
    have hk0 : ¬ (0 : Int) < (k.toNat : Int) := by simp at hlen; omega
    have Hl := Lib.hid hlen
    have H5 := Lib.hid h3
    clear hlen h3 hZ
    go_wp2
    go_loop [7, 47] (fun n i => NumRel [] n i) (fun _ i => k.toNat - (intOf i).toNat)
    case atStart => exact ⟨0, Nat.zero_le _, rfl, rfl⟩
    case round =>
      obtain ⟨j, hj, rfl, rfl⟩ := hrel
      have hlt : ¬ j < k.toNat := by omega
      go_wp2
      go_ret2
      exact ⟨grown_trans H2.out H4.out, .inl ⟨val [], _, hE.out, by simp, _, _, _, H3.out⟩⟩
  | cons y q =>
    have hk0 : (0 : Int) < (k.toNat : Int) := by simp at hlen; omega
    have hc := Row.cell0 h3
    have hy : ((y.toNat : Int) == 0) = false := by
      have hz := hZ.out
      simp at hz
      have : y.toNat ≠ 0 := fun e => hz (by apply UInt8.toNat_inj.1; simpa using e)
      simp; omega
    have Hl := Lib.hid hlen
    have H5 := Lib.hid h3
    clear hlen h3 hZ
    go_wp2
    go_loop [7, 47] (fun n i => NumRel (y :: q) n i) (fun _ i => k.toNat - (intOf i).toNat)
    case atStart => exact ⟨0, Nat.zero_le _, rfl, rfl⟩
    case round =>
      obtain ⟨j, hj, rfl, rfl⟩ := hrel
      by_cases hlt : j < k.toNat
      · have hl := Hl.out
        have hc := H5.out.cell j (by omega)
        have hb : val ((y :: q).take j) < 72057594037927936 := by
          have a := val_lt ((y :: q).take j)
          have b : 256 ^ ((y :: q).take j).length ≤ 256 ^ 7 := Nat.pow_le_pow_right (by omega) (by rw [List.length_take]; omega)
          have e : (256 : Nat) ^ 7 = 72057594037927936 := by decide
          omega
        have hs := val_step (y :: q) j (by omega)
        have Hs := Lib.hid hs
        generalize val ((y :: q).take j) = v at *
        generalize (y :: q)[j] = z at *
        have hzb : z.toNat < 256 := z.toNat_lt
        clear hs
        go_wp2
        rw [or_byte v z.toNat hb hzb]
        exact ⟨⟨j + 1, by omega, by go_num, by rw [Hs.out]⟩, by simp [intOf]; omega⟩
      · have hl := Hl.out
        have hjl : j = (y :: q).length := by omega
        have ht : val ((y :: q).take j) = val (y :: q) := by rw [hjl, List.take_length]
        have Ht := Lib.hid ht
        clear ht hjl hl
        go_wp2
        go_ret2
        exact ⟨grown_trans H2.out H4.out, .inl ⟨val (y :: q), _, hE.out, by rw [← Ht.out]; rfl, _, _, _, H3.out⟩⟩

theorem num_any (b : Nat) (l : List UInt8) (x : Bool) (w : World) (h : RdAt b l x w) :
    Calls Try.prog 86 #[.func (.func 92) #[.pointer (some ⟨b, 0, none⟩)] #[]] w (okNum b l x w) := by
  cases l with
  | nil => exact num_empty b x w h
  | cons k r =>
    by_cases hk : k.toNat ≤ 8
    · by_cases hr : k.toNat ≤ r.length
      · by_cases h0 : (r.take k.toNat).head? = some 0
        · exact num_zero b k r x w h hk hr h0
        · exact num_good b k r x w h hk hr h0
      · exact num_short b k r x w h hk (by omega)
    · exact num_big b k r x w h (by omega)

end Go.Proofs.Ytklmgdiaianlbaa.wi

/- What reading a number off a reader does: read, Num of package wire. -/
namespace Go.Proofs.Ytklmgdiaianlbaa.wi
open Go.RowKit
set_option maxRecDepth 100000

theorem RdAt.flag {b : Nat} {l : List UInt8} {x : Bool} {w : World} (h : RdAt b l x w) (y : Bool) : RdAt b l y (w.setCell ⟨b, 1, none⟩ (.bool y)) := by
  obtain ⟨g, o, cap, hb, hr, h1, h2⟩ := h
  have hgb : g ≠ b := by
    intro e
    subst e
    obtain ⟨cs, fr, hg', _⟩ := hr
    rw [hb] at hg'
    simp at hg'
  have hw := heap_setCell_same w b 1 _ 101 (.bool y) hb
  exact ⟨g, o, cap, by rw [hw]; simp, hr.keep (Below.heap_setCell w _ _ g hgb), h1, h2⟩

theorem RdAt.flagGrown (b : Nat) (w : World) (v : Value) : w.grownBy (w.setCell ⟨b, 1, none⟩ v) (some b) :=
  ⟨rfl, rfl, rfl, by simp [World.setCell], fun k _ hk => Below.heap_setCell _ _ _ _ (fun e => hk (by simp [e]))⟩

theorem RdAt.cell1 {b : Nat} {l : List UInt8} {x : Bool} {w : World} (h : RdAt b l x w) : w.cell? ⟨b, 1, none⟩ = some (.bool x) ∧ w.frozen? ⟨b, 1, none⟩ = false := by
  obtain ⟨g, o, cap, hb, _⟩ := h
  exact ⟨by simp [World.cell?, hb], by simp [World.frozen?, hb]⟩

def okRdNum (b : Nat) (l : List UInt8) (w : World) (e : Ending) (w' : World) : Prop :=
  w.grownBy w' (some b) ∧
    ((∃ n r, rdNum l = some (n, r) ∧ e = .returned (.int .u64 (n : Int)) ∧ RdAt b r false w') ∨
     (rdNum l = none ∧ e = .returned (.int .u64 0) ∧ ∃ m, RdAt b m true w'))

set_option maxHeartbeats 400000 in
theorem readNum_any (b : Nat) (l : List UInt8) (w : World) (h : RdAt b l false w) :
    Calls Try.prog 85 #[.pointer (some ⟨b, 0, none⟩), .func (.func 86) #[] #[]] w (okRdNum b l w) := by
  go_enter Try.func85, Try.ntmps85
  go_wp2_with (go_at_call 91; refine (ok_yes b l _ h).mono ?_; rintro e w' ⟨rfl, rfl⟩)
  go_wp2_with (go_at_call 86; refine (num_any b l false _ h).mono ?_)
  rintro e w1 ⟨hg, ⟨n, r, hn, rfl, hr⟩ | ⟨hn, rfl, m, hm⟩⟩
  · have Hn := Lib.hid hn
    have Hg := Lib.hid hg
    obtain ⟨hc, hf⟩ := hr.cell1
    have Hr := Lib.hid (hr.flag false)
    clear hn hg hr
    go_wp2
    go_ret
    exact ⟨grown_trans Hg.out (RdAt.flagGrown _ _ _), .inl ⟨n, r, Hn.out, rfl, Hr.out⟩⟩
  · have Hn := Lib.hid hn
    have Hg := Lib.hid hg
    obtain ⟨hc, hf⟩ := hm.cell1
    have Hr := Lib.hid (hm.flag true)
    clear hn hg hm
    go_wp2
    go_ret
    exact ⟨grown_trans Hg.out (RdAt.flagGrown _ _ _), .inr ⟨Hn.out, rfl, m, Hr.out⟩⟩

theorem readNum_bad (b : Nat) (l : List UInt8) (w : World) (h : RdAt b l true w) :
    Calls Try.prog 85 #[.pointer (some ⟨b, 0, none⟩), .func (.func 86) #[] #[]] w fun e w' => e = .returned (.int .u64 0) ∧ w = w' := by
  go_enter Try.func85, Try.ntmps85
  go_wp2_with (go_at_call 91; refine (ok_no b l _ h).mono ?_; rintro e w' ⟨rfl, rfl⟩)
  go_ret
  exact ⟨rfl, rfl⟩

theorem readNum_nil (w : World) :
    Calls Try.prog 85 #[.pointer none, .func (.func 86) #[] #[]] w fun e w' => e = .returned (.int .u64 0) ∧ w = w' := by
  go_enter Try.func85, Try.ntmps85
  go_wp2_with (go_at_call 91; refine (ok_nil _).mono ?_; rintro e w' ⟨rfl, rfl⟩)
  go_ret
  exact ⟨rfl, rfl⟩

theorem num_good1 (b : Nat) (l : List UInt8) (w : World) (h : RdAt b l false w) : Calls Try.prog 80 #[.pointer (some ⟨b, 0, none⟩)] w (okRdNum b l w) := by
  go_enter Try.func80, Try.ntmps80
  go_wp2_with (go_at_call 85; refine (readNum_any b l _ h).mono ?_)
  rintro e w1 ⟨hg, ⟨n, r, hn, rfl, hr⟩ | ⟨hn, rfl, hm⟩⟩
  · have H : Hid (okRdNum b l w (.returned (.int .u64 (n : Int))) w1) := ⟨hg, .inl ⟨n, r, hn, rfl, hr⟩⟩
    clear hg hn hr
    go_wp2
    go_ret
    exact H.out
  · have H : Hid (okRdNum b l w (.returned (.int .u64 0)) w1) := ⟨hg, .inr ⟨hn, rfl, hm⟩⟩
    clear hg hn hm
    go_wp2
    go_ret
    exact H.out

theorem num_bad1 (b : Nat) (l : List UInt8) (w : World) (h : RdAt b l true w) : Calls Try.prog 80 #[.pointer (some ⟨b, 0, none⟩)] w fun e w' => e = .returned (.int .u64 0) ∧ w = w' := by
  go_enter Try.func80, Try.ntmps80
  go_wp2_with (go_at_call 85; refine (readNum_bad b l _ h).mono ?_; rintro e w' ⟨rfl, rfl⟩)
  go_ret
  exact ⟨rfl, rfl⟩

theorem num_nil1 (w : World) : Calls Try.prog 80 #[.pointer none] w fun e w' => e = .returned (.int .u64 0) ∧ w = w' := by
  go_enter Try.func80, Try.ntmps80
  go_wp2_with (go_at_call 85; refine (readNum_nil _).mono ?_; rintro e w' ⟨rfl, rfl⟩)
  go_ret
  exact ⟨rfl, rfl⟩

end Go.Proofs.Ytklmgdiaianlbaa.wi

/- Lists of numbers in memory: that came in, that the call made; what comes in. -/
namespace Go.Proofs.Ytklmgdiaianlbaa.ib
open Go Go.RowKit Go.ChangeShapes Go.WideShapes Go.Deep
set_option maxRecDepth 100000

def i64B (x : Int) : Prop := -9223372036854775808 ≤ x ∧ x ≤ 9223372036854775807

/-- A slice of numbers. -/
def IntsAt (w : World) (a : Option Addr) (zs : List Int) : Prop :=
  ∀ i (h : i < zs.length), ∃ b o, a = some ⟨b, o, none⟩ ∧ b < w.heap.size ∧ w.cell? ⟨b, o + i, none⟩ = some (.int .i64 zs[i]) ∧ i64B zs[i]

theorem IntsAt.below {w w' : World} {a : Option Addr} {zs : List Int} (h : IntsAt w a zs) (hb : Below w.heap.size w w') : IntsAt w' a zs := by
  intro i hi
  obtain ⟨b, o, h1, h2, h3, h4⟩ := h i hi
  exact ⟨b, o, h1, Nat.lt_of_lt_of_le h2 hb.size, by rw [hb.cell (p := ⟨b, o + i, none⟩) h2]; exact h3, h4⟩
theorem IntsAt.nil (w : World) (a : Option Addr) : IntsAt w a [] := fun i h => absurd h (by simp)
theorem IntsAt.mem {w : World} {a : Option Addr} {zs : List Int} (h : IntsAt w a zs) : ∀ z ∈ zs, i64B z := by
  intro z hz
  obtain ⟨i, hi, rfl⟩ := List.getElem_of_mem hz
  obtain ⟨_, _, _, _, _, h4⟩ := h i hi
  exact h4
theorem IntsAt.take {w : World} {a : Option Addr} {zs : List Int} (h : IntsAt w a zs) (n : Nat) : IntsAt w a (zs.take n) := fun i hi => by
  have := h i (by simp at hi; omega)
  simpa using this

/-- A slice of numbers that the call made. -/
def OInts (w : World) (B : Nat) (v : Value) (zs : List Int) : Prop := w.ownsRow B 3 1 v zs.length (zs.map (Value.int .i64))
theorem int_one (z : Int) : ∀ u ∈ ([Value.int .i64 z] : List Value), u.oneCell' = true := by
  intro u hu
  simp at hu
  subst hu
  rfl
theorem infoInt : (Try.prog.info? 3).map (fun i => (i.zero, i.size, i.bytes)) = some (some (.int .i64 0), 1, 8) := by kernel_rfl

theorem OInts.view {w : World} {B : Nat} {v : Value} {zs : List Int} (h : OInts w B v zs) (hz : ∀ z ∈ zs, i64B z) : ∃ a c, v = .slice a zs.length c ∧ IntsAt w a zs ∧ ∀ b o, a = some ⟨b, o, none⟩ → B ≤ b ∧ b < w.heap.size := by
  rcases h.2 with ⟨rfl, h0⟩ | ⟨g, cap, cur, rfl, hg, hh, hcc, hm, hcs, hcur⟩
  · obtain rfl : zs = [] := List.length_eq_zero_iff.1 h0
    exact ⟨none, 0, rfl, (fun i h => by simp at h), fun b o h => by cases h⟩
  · refine ⟨some ⟨g, 0, none⟩, cap, rfl, fun i hi => ⟨g, 0, rfl, (Array.getElem?_eq_some_iff.1 hh).1, ?_, hz _ (List.getElem_mem hi)⟩, fun b o h => ?_⟩
    · rw [Nat.zero_add, cell_of_row w g i cur 3 (0, 0) hh]
      have h3 : (cur.toList.take (zs.length * 1))[i]? = some (.int .i64 zs[i]) := by rw [hcur]; simp [hi]
      rw [List.getElem?_take] at h3
      split at h3
      · simpa using h3
      · cases h3
    · simp only [Option.some.injEq, Addr.mk.injEq, and_true] at h
      obtain ⟨rfl, _⟩ := h
      exact ⟨hg, (Array.getElem?_eq_some_iff.1 hh).1⟩

/-! ### What comes in -/
theorem spot0 {w : World} {a : Addr} {v : Value} (h : w.cell? (a.add 0) = some v) : ∃ b o, a = ⟨b, o, none⟩ ∧ b < w.heap.size := by
  have hs := World.cell?_spot h
  obtain ⟨b, o, s⟩ := a
  have hs0 : s = none := by simpa [Addr.add] using hs
  subst hs0
  exact ⟨b, o, rfl, World.block_lt_of_cell? w _ h⟩

theorem choose_list {α : Type} {p : Nat → α → Prop} : ∀ (n : Nat), (∀ i, i < n → ∃ x, p i x) → ∃ l : List α, l.length = n ∧ ∀ i (h : i < l.length), p i l[i]
  | 0, _ => ⟨[], rfl, fun i h => absurd h (by simp)⟩
  | n + 1, h => by
    obtain ⟨l, hl, hp⟩ := choose_list n (fun i hi => h i (by omega))
    obtain ⟨x, hx⟩ := h n (by omega)
    refine ⟨l ++ [x], by simp [hl], fun i hi => ?_⟩
    by_cases hin : i < l.length
    · rw [List.getElem_append_left hin]
      exact hp i hin
    · have : i = l.length := by simp at hi; omega
      subst this
      rw [List.getElem_append_right (Nat.le_refl _)]
      simpa [hl] using hx

section
variable {H : Type} {enc : TypeId × Value → H} {w : World} {held : Bool} {a : Option Addr} {l c : Nat} {d : DataW H} {pl : List MemPlace}

theorem ints_cells {n : Nat} {v : Value} {y : DataW H × List MemPlace} (h : DataW.trod enc Try.prog w 0 (fun _ => true) held n 22 [v] = some y) : ∃ (A : Option Addr) (zs : List Int) (c : Nat), v = .slice A zs.length c ∧ IntsAt w A zs ∧ zs.length ≤ 9223372036854775807 ∧ zs.length ≤ c := by
  rcases open_ints Try.underlying22 Try.underlying3 (by kernel_rfl) h with ⟨hcs, _⟩ | ⟨x, l', c', zs, hcs, _, hl, hm, hz, _, hcell, hwf⟩
  · simp at hcs
    subst hcs
    exact ⟨none, [], 0, rfl, fun i h => absurd h (by simp), by simp, by simp⟩
  · simp at hcs
    subst hcs
    have hzc : zs.length = c' := by simpa using hz
    unfold maxLen at hm
    have hl2 : (zs.take l').length = l' := by simp; omega
    refine ⟨some x, zs.take l', c', by rw [hl2], fun i hi => ?_, by rw [hl2]; omega, by rw [hl2]; omega⟩
    have hil : i < zs.length := by simp at hi; omega
    obtain ⟨b, o, rfl, hb⟩ := spot0 (hcell 0 (by omega))
    have hc := hcell i hil
    rw [addr_add] at hc
    have hw := bounds_i64 (hwf zs[i] (List.getElem_mem hil))
    refine ⟨b, o, rfl, hb, ?_, by simpa using hw.1, by simpa using hw.2⟩
    rw [hc]
    simp [List.getD, hil]

/-- .. and how long its datum is. -/
theorem ints_sz (h : DataW.Trod enc Try.prog w 0 (fun _ => true) held 22 (.slice a l c) d pl) : d = .nil ∧ l = 0 ∨ ∃ el sp, d = .slice el sp ∧ l ≤ el.length + sp.length := by
  obtain ⟨fuel, hf⟩ := h
  rcases open_slice1 Try.underlying22 (by kernel_rfl) hf with ⟨hcs, hd⟩ | ⟨x, l', c', m, n, V, D, Pl, hcs, _, hl, hm, hmm, hd, hi⟩
  · simp [Value.cells] at hcs
    exact .inl ⟨congrArg Prod.fst hd, hcs.2.1⟩
  · simp [Value.cells] at hcs
    obtain ⟨rfl, rfl, rfl⟩ := hcs
    exact .inr ⟨_, _, congrArg Prod.fst hd, by simp⟩

theorem ints_of (h : DataW.Trod enc Try.prog w 0 (fun _ => true) held 22 (.slice a l c) d pl) : ∃ zs : List Int, zs.length = l ∧ (l ≤ 9223372036854775807 ∧ l ≤ c) ∧ IntsAt w a zs := by
  obtain ⟨fuel, hf⟩ := h
  have hf' : DataW.trod enc Try.prog w 0 (fun _ => true) held fuel 22 [.slice a l c] = some (d, pl) := hf
  obtain ⟨A, zs, c', h1, h2, h3, h4⟩ := ints_cells hf'
  simp only [Value.slice.injEq] at h1
  obtain ⟨rfl, rfl, rfl⟩ := h1
  exact ⟨zs, rfl, ⟨h3, h4⟩, h2⟩
end
end Go.Proofs.Ytklmgdiaianlbaa.ib

/- A block that is known whole; all but some blocks as it was. -/
namespace Go.Proofs.Ytklmgdiaianlbaa.ib
open Go Go.RowKit
set_option maxRecDepth 100000

/-- A block that is known whole. -/
def Blk (w : World) (g : Nat) (t : TypeId) (cs : Array Value) : Prop := w.heap[g]? = some (.cells cs t (0, 0))
section
variable {w w' : World} {g : Nat} {t : TypeId} {cs : Array Value}
theorem Blk.lt (h : Blk w g t cs) : g < w.heap.size := by
  unfold Blk at h
  exact (Array.getElem?_eq_some_iff.1 h).1
theorem Blk.cell (h : Blk w g t cs) (i : Nat) : w.cell? ⟨g, i, none⟩ = cs[i]? := cell_of_row w g i cs t (0, 0) h
theorem Blk.frozen (h : Blk w g t cs) (i : Nat) : w.frozen? ⟨g, i, none⟩ = false := by
  unfold Blk at h
  simp [World.frozen?, h]
theorem Blk.new (w : World) (t : TypeId) (cs : Array Value) : Blk (w.alloc (.cells cs t)) w.heap.size t cs := heap_alloc_new w _
theorem Blk.of_block (h : Blk w g t cs) (hb : w'.heap[g]? = w.heap[g]?) : Blk w' g t cs := hb.trans h
theorem Blk.below (h : Blk w g t cs) (hb : Below w.heap.size w w') : Blk w' g t cs := h.of_block (hb.block _ h.lt)
theorem Blk.set_ (h : Blk w g t cs) (i : Nat) (u : Value) : Blk (w.setCell ⟨g, i, none⟩ u) g t (cs.setIfInBounds i u) := heap_setCell_same w g i cs t u h
end

/-- w' is w but for the blocks of S, and new ones. -/
structure But (S : Nat → Prop) (w w' : World) : Prop where
  os : w'.os = w.os
  tape : w'.tape = w.tape
  output : w'.output = w.output
  size : w.heap.size ≤ w'.heap.size
  block : ∀ k, k < w.heap.size → ¬ S k → w'.heap[k]? = w.heap[k]?

section
variable {S S' : Nat → Prop} {a b c w w' : World}
theorem But.refl (S : Nat → Prop) (w : World) : But S w w := ⟨rfl, rfl, rfl, Nat.le_refl _, fun _ _ _ => rfl⟩
theorem But.trans (h : But S a b) (k : But S' b c) (hs : ∀ i, S' i → S i ∨ a.heap.size ≤ i) : But S a c :=
  ⟨k.os.trans h.os, k.tape.trans h.tape, k.output.trans h.output, Nat.le_trans h.size k.size, fun i hi hn => by
    refine (k.block i (Nat.lt_of_lt_of_le hi h.size) (fun e => ?_)).trans (h.block i hi hn)
    rcases hs i e with h1 | h1
    · exact hn h1
    · omega⟩
theorem But.mono (h : But S w w') (hs : ∀ i, S i → S' i) : But S' w w' := ⟨h.os, h.tape, h.output, h.size, fun k hk hn => h.block k hk (fun e => hn (hs k e))⟩
theorem But.of_below (h : Below w.heap.size w w') : But S w w' := ⟨h.os, h.tape, h.output, h.size, fun k hk _ => h.block k hk⟩
theorem But.drew (h : But S a w) : But S a w.drew := ⟨h.os, h.tape, h.output, h.size, h.block⟩
theorem But.drewN (h : But S a w) (n : Nat) : But S a (w.drewN n) := ⟨h.os, h.tape, h.output, h.size, h.block⟩
theorem But.alloc (h : But S a w) (o : Obj) : But S a (w.alloc o) :=
  h.trans (S' := fun _ => False) ⟨rfl, rfl, rfl, by simp, fun k hk _ => Below.heap_alloc _ _ _ hk⟩ (fun _ e => e.elim)
theorem But.setCell (h : But S a w) (p : Addr) (u : Value) (hp : S p.block ∨ a.heap.size ≤ p.block) : But S a (w.setCell p u) :=
  h.trans (S' := fun k => k = p.block) ⟨rfl, rfl, rfl, by simp [World.setCell], fun k _ hn => Below.heap_setCell _ _ _ _ hn⟩ (fun i e => by rw [e]; exact hp)
theorem But.below {B : Nat} (h : But S a w) (hs : ∀ i, S i → B ≤ i) (hB : B ≤ a.heap.size) : Below B a w :=
  ⟨h.os, h.tape, h.output, h.size, fun k hk => h.block k (by omega) (fun e => by have := hs k e; omega)⟩
end
end Go.Proofs.Ytklmgdiaianlbaa.ib


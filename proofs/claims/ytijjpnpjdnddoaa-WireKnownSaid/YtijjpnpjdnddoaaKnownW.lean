/- The walk of WireKnown: the chapter's examples. -/
import Derived.Test.YtijjpnpjdnddoaaWorks
import Derived.Deep.DeepCutAuto
namespace Go.Proofs.Ytijjpnpjdnddoaa
open Go.RowKit

def okStr (r : ByteArray) (w : World) (e : Ending) (w' : World) : Prop := e = .returned (.string r) ∧ Below w.heap.size w w'

theorem put_n (s : ByteArray) (n : Int) (r : ByteArray) (w : World) (hs : s.size ≤ 100) (h0 : 0 ≤ n) (h1 : n ≤ 18446744073709551615) (hr : str (bl s ++ numB n.toNat) = r) :
    Calls Try.prog 8 #[.string s, .int .u64 n] w (okStr r w) :=
  (putNum_any s n w h0 h1 (by omega)).mono fun e w' ⟨he, hb⟩ => ⟨by rw [he, hr], hb⟩

theorem put_t (s t : ByteArray) (r : ByteArray) (w : World) (hs : s.size ≤ 100) (ht : t.size ≤ 100) (hr : str (bl s ++ textB (bl t)) = r) :
    Calls Try.prog 10 #[.string s, .string t] w (okStr r w) :=
  (putText_any s t w (by omega) (by omega)).mono fun e w' ⟨he, hb⟩ => ⟨by rw [he, hr], hb⟩

def bads : List ByteArray := [⟨#[]⟩, ⟨#[1, 0]⟩, ⟨#[2, 0, 5]⟩, ⟨#[9, 1, 1, 1, 1, 1, 1, 1, 1, 1]⟩, ⟨#[2, 1]⟩, ⟨#[255]⟩, ⟨#[8, 0, 1, 1, 1, 1, 1, 1, 1]⟩]
def badt : List ByteArray := [⟨#[1, 3, 97, 98]⟩, ⟨#[8, 255, 255, 255, 255, 255, 255, 255, 255]⟩, ⟨#[1]⟩]

theorem bads_none : ∀ k (h : k < bads.length), rdNum (bl bads[k]) = none ∧ (bads[k]).size ≤ 10 := by decide +kernel
theorem badt_none : ∀ k (h : k < badt.length), rdText (bl badt[k]) = none ∧ (badt[k]).size ≤ 10 := by decide +kernel

/-- In a round over a literal list: its strings stand where they stood. -/
def LitRel (w : World) (ps : List ByteArray) (B : Nat) (i : Value) (wr : World) : Prop :=
  ∃ k : Nat, k ≤ ps.length ∧ i = .int .i64 (k : Int) ∧ StrCells wr B 0 ps ∧ B < wr.heap.size ∧ Below w.heap.size w wr

theorem StrCells.below {w w' : World} {b o : Nat} {ps : List ByteArray} (h : StrCells w b o ps) (hb : b < w.heap.size) (hB : Below w.heap.size w w') : StrCells w' b o ps := by
  intro i hi
  rw [hB.cell (p := ⟨b, o + i, none⟩) hb]
  exact h i hi

theorem StrCells.grown {w w' : World} {b o c : Nat} {ps : List ByteArray} (h : StrCells w b o ps) (hb : b < w.heap.size) (hne : b ≠ c) (hg : w.grownBy w' (some c)) : StrCells w' b o ps := by
  intro i hi
  rw [World.cell?_of_block (w := w) (a := ⟨b, o + i, none⟩) (hg.block b hb (by simpa using hne))]
  exact h i hi

set_option maxRecDepth 100000 in
set_option maxHeartbeats 1600000 in
theorem known_walk (w : World) : Calls Try.prog 7 #[] w (okTrue w) := by
  go_enter Try.func7, Try.ntmps7
  go_wp2_with (go_at_call 8; refine (put_n ⟨#[]⟩ 0 ⟨#[0]⟩ _ (by decide) (by decide) (by decide) (by decide +kernel)).mono ?_)
  rintro e W1 ⟨rfl, b1⟩
  go_wp2_with (go_at_call 8; refine (put_n ⟨#[120]⟩ 5 ⟨#[120, 1, 5]⟩ _ (by decide) (by decide) (by decide) (by decide +kernel)).mono ?_)
  rintro e W2 ⟨rfl, b2⟩
  have b12 := below_step b1 b2
  clear b1 b2
  go_wp2_with (go_at_call 8; refine (put_n ⟨#[]⟩ 256 ⟨#[2, 1, 0]⟩ _ (by decide) (by decide) (by decide) (by decide +kernel)).mono ?_)
  rintro e W3 ⟨rfl, b3⟩
  have b13 := below_step b12 b3
  clear b12 b3
  go_wp2_with (go_at_call 8; refine (put_n ⟨#[]⟩ 18446744073709551615 ⟨#[8, 255, 255, 255, 255, 255, 255, 255, 255]⟩ _ (by decide) (by decide) (by decide) (by decide +kernel)).mono ?_)
  rintro e W4 ⟨rfl, b4⟩
  have b14 := below_step b13 b4
  clear b13 b4
  go_wp2_with (go_at_call 10; refine (put_t ⟨#[]⟩ ⟨#[]⟩ ⟨#[0]⟩ _ (by decide) (by decide) (by decide +kernel)).mono ?_)
  rintro e W5 ⟨rfl, b5⟩
  have b15 := below_step b14 b5
  clear b14 b5
  go_wp2_with (go_at_call 10; refine (put_t ⟨#[]⟩ ⟨#[97, 98]⟩ ⟨#[1, 2, 97, 98]⟩ _ (by decide) (by decide) (by decide +kernel)).mono ?_)
  rintro e W6 ⟨rfl, b6⟩
  have b16 := below_step b15 b6
  clear b15 b6
  go_wp2
  have hc0 := strCells_new bads W6
  have hb0 := below_new b16 (.cells (bads.map Value.string).toArray 9)
  go_loopw [33] (fun i wr => LitRel w bads W6.heap.size i wr) (fun i _ => 7 - (intOf i).toNat)
  case atStart => exact ⟨0, Nat.zero_le _, rfl, hc0, by simp, hb0⟩
  case round =>
    clear hc0 hb0 b16
    obtain ⟨k, hk, rfl, hS, hlt0, hB⟩ := hrel
    have hk7 : k ≤ 7 := hk
    by_cases hlt : k < 7
    · have hcell := hS k hlt
      rw [Nat.zero_add] at hcell
      obtain ⟨hno, hsz⟩ := bads_none k hlt
      have HS := Lib.hid hS
      generalize hp : bads[k]'hlt = p at *
      have Hno := Lib.hid hno
      clear hno hS hp
      go_wp2_with (go_at_call 13; refine (new_any p _ (by omega)).mono ?_)
      rintro e V1 ⟨x, rfl, hx, hr, b1⟩
      have HS1 := Lib.hid (HS.out.below hlt0 b1)
      have hlt1 : W6.heap.size < V1.heap.size := Nat.lt_of_lt_of_le hlt0 b1.size
      have hB1 := below_step hB b1
      have hxw : w.heap.size ≤ x := Nat.le_trans hB.size hx
      have hxn : W6.heap.size ≠ x := by omega
      clear HS hB b1 hcell
      go_wp2_with (go_at_call 14; refine (num_none x _ _ hr Hno.out).mono ?_)
      rintro e V2 ⟨rfl, ⟨m', hm'⟩, hg⟩
      have HS2 := Lib.hid (HS1.out.grown hlt1 hxn hg)
      have hlt2 : W6.heap.size < V2.heap.size := Nat.lt_of_lt_of_le hlt1 hg.size
      have hB2 := grown_below hB1 hxw hg
      clear HS1 hB1 hr hg
      go_wp2_with (go_at_call 18; refine (ok_no x m' _ hm').mono ?_; rintro e w' ⟨rfl, rfl⟩)
      go_wp2_with (go_at_call 20; refine (end_bad x m' _ hm').mono ?_; rintro e w' ⟨rfl, rfl⟩)
      go_roundw
      case rel => exact ⟨k + 1, hlt, by go_num, HS2.out, hlt2, hB2⟩
      case measure => simp [intOf]; omega
    · have hk8 : 7 ≤ k := by omega
      clear hS hlt0 hk hk7 hlt
      go_wp2
      obtain ⟨wo, rfl⟩ : ∃ wo : World, wo = wr := ⟨_, rfl⟩
      have hc1 := strCells_new badt wo
      have hb1 := below_new hB (.cells (badt.map Value.string).toArray 9)
      go_loopw [57] (fun i wq => LitRel w badt wo.heap.size i wq) (fun i _ => 3 - (intOf i).toNat)
      case atStart => exact ⟨0, Nat.zero_le _, rfl, hc1, by simp, hb1⟩
      case round =>
        clear hc1 hb1 hB hk8
        obtain ⟨k, hk, rfl, hS, hlt0, hB⟩ := hrel
        have hk3 : k ≤ 3 := hk
        by_cases hlt : k < 3
        · have hcell := hS k hlt
          rw [Nat.zero_add] at hcell
          obtain ⟨hno, hsz⟩ := badt_none k hlt
          have HS := Lib.hid hS
          generalize hp : badt[k]'hlt = p at *
          have Hno := Lib.hid hno
          clear hno hS hp
          go_wp2_with (go_at_call 13; refine (new_any p _ (by omega)).mono ?_)
          rintro e V1 ⟨x, rfl, hx, hr, b1⟩
          have HS1 := Lib.hid (HS.out.below hlt0 b1)
          have hlt1 : wo.heap.size < V1.heap.size := Nat.lt_of_lt_of_le hlt0 b1.size
          have hB1 := below_step hB b1
          have hxw : w.heap.size ≤ x := Nat.le_trans hB.size hx
          have hxn : wo.heap.size ≠ x := by omega
          clear HS hB b1 hcell
          go_wp2_with (go_at_call 16; refine (text_none x _ _ hr Hno.out).mono ?_)
          rintro e V2 ⟨rfl, ⟨m', hm'⟩, hg⟩
          have HS2 := Lib.hid (HS1.out.grown hlt1 hxn hg)
          have hlt2 : wo.heap.size < V2.heap.size := Nat.lt_of_lt_of_le hlt1 hg.size
          have hB2 := grown_below hB1 hxw hg
          clear HS1 hB1 hr hg
          rw [show str [] = ⟨#[]⟩ from rfl]
          go_wp2_with (go_at_call 18; refine (ok_no x m' _ hm').mono ?_; rintro e w' ⟨rfl, rfl⟩)
          go_roundw
          case rel => exact ⟨k + 1, hlt, by go_num, HS2.out, hlt2, hB2⟩
          case measure => simp [intOf]; omega
        · have hk8 : k = 3 := by omega
          subst hk8
          clear hS hlt0 hk hk3
          go_wp2_with (go_at_call 13; refine (new_any ⟨#[1, 5, 0, 1, 1, 97]⟩ _ (by decide)).mono ?_)
          rintro e V1 ⟨x, rfl, hx, hr, b1⟩
          have hB1 := below_step hB b1
          have hxw : w.heap.size ≤ x := Nat.le_trans hB.size hx
          clear hB b1 hx
          go_wp2_with (go_at_call 14; refine (num_is x _ 5 [0, 1, 1, 97] _ hr (by decide +kernel)).mono ?_)
          rintro e V2 ⟨rfl, hr2, hg⟩
          have hB2 := grown_below hB1 hxw hg
          clear hB1 hg hr
          go_wp2_with (go_at_call 20; refine (end_good x _ _ hr2).mono ?_; rintro e w' ⟨rfl, rfl⟩)
          go_wp2_with (go_at_call 16; refine (text_is x _ [] [1, 1, 97] _ hr2 (by decide +kernel)).mono ?_)
          rintro e V3 ⟨rfl, hr3, hg⟩
          have hB3 := grown_below hB2 hxw hg
          clear hB2 hg hr2
          rw [show str [] = ⟨#[]⟩ from rfl]
          go_wp2_with (go_at_call 16; refine (text_is x _ [97] [] _ hr3 (by decide +kernel)).mono ?_)
          rintro e V4 ⟨rfl, hr4, hg⟩
          have hB4 := grown_below hB3 hxw hg
          clear hB3 hg hr3
          rw [show str [97] = ⟨#[97]⟩ from rfl]
          go_wp2_with (go_at_call 20; refine (end_good x [] _ hr4).mono ?_; rintro e w' ⟨rfl, rfl⟩)
          go_wp2_with (go_at_call 14; refine (num_none x [] _ hr4 rfl).mono ?_)
          rintro e V5 ⟨rfl, ⟨m', hm'⟩, hg⟩
          have hB5 := grown_below hB4 hxw hg
          clear hB4 hg hr4
          go_wp2_with (go_at_call 20; refine (end_bad x m' _ hm').mono ?_; rintro e w' ⟨rfl, rfl⟩)
          go_wp2_with (go_at_call 18; refine (ok_no x m' _ hm').mono ?_; rintro e w' ⟨rfl, rfl⟩)
          go_wp2_with (go_at_call 14; refine (num_nil1 _).mono ?_; rintro e w' ⟨rfl, rfl⟩)
          go_wp2_with (go_at_call 16; refine (text_nil1 _).mono ?_; rintro e w' ⟨rfl, rfl⟩; rw [show str [] = ⟨#[]⟩ from rfl])
          go_wp2_with (go_at_call 18; refine (ok_nil _).mono ?_; rintro e w' ⟨rfl, rfl⟩)
          go_wp2_with (go_at_call 20; refine (end_nil _).mono ?_; rintro e w' ⟨rfl, rfl⟩)
          go_wp2_with (go_at_call 12; refine (works_any _).mono ?_)
          rintro e V6 ⟨rfl, b6⟩
          have b7 := below_step hB5 b6
          go_wp2
          go_ret
          exact ⟨rfl, b7⟩

end Go.Proofs.Ytijjpnpjdnddoaa

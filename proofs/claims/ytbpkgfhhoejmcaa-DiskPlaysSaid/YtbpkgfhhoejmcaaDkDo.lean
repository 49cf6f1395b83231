/- What do of the statements does. -/
import Derived.Test.YtbpkgfhhoejmcaaDkActs
import Derived.Test.YtbpkgfhhoejmcaaRkTwoG
import Derived.Test.YtbpkgfhhoejmcaaDkData
import Derived.Test.YtbpkgfhhoejmcaaSlotsF
import Derived.Test.YtbpkgfhhoejmcaaSlotsI
namespace Go.Proofs.Ytbpkgfhhoejmcaa.dk
open Go Go.RowKit

/-- What an act makes of a disk. -/
def DD.act (d : DD) (x : ActV) : DD :=
  if x.what = 0 ∨ x.what = 1 ∨ x.what = 2 ∨ x.what = 3 then (d.write x.at_ (dat x.c)).2
  else if x.what = 4 then d.flush.2
  else if x.what = 5 then d.arm x.at_
  else if x.what = 6 then d.off
  else if x.what = 7 ∨ x.what = 8 then d.wake x.keep
  else if x.what = 9 then d.setRoom x.at_
  else d

section
variable {most : Nat} {w : World} {B p r : Nat} {d : DD} {own : Nat → Prop}

def actBlk (x : ActV) : Obj := .cells #[.int .i64 x.what, .int .i64 x.at_, .int .u8 (x.c.toNat : Int), .slice x.A x.keep.length x.cap] 39
def GB (B g : Nat) (k : Nat) : Prop := B ≤ k ∧ k ≠ g

theorem GB.big {B g : Nat} {w : World} (hB : B ≤ g) (hg : g < w.heap.size) : ∀ k, w.heap.size ≤ k → GB B g k := fun k hk => ⟨by omega, by omega⟩

theorem do_flush (h : Both most w B p r d d) (hB : B ≤ w.heap.size) (hmost : most ≤ 100000) (at_ : Int) (c : UInt8) (A : Option Addr) (cap : Nat) (keep : List Bool) :
    Calls Try.prog 14 #[.pointer (some ⟨p, 0, none⟩), .pointer (some ⟨r, 0, none⟩), (ActV.mk 4 at_ c A cap keep).val] w (TwoPost most B p r d.flush.2 d.flush.2 (.bool true) w) := by
  have hb0 : Below w.heap.size w (w.alloc (actBlk ⟨4, at_, c, A, cap, keep⟩)) := (Below.refl w.heap.size w).alloc (Nat.le_refl _) _
  have HG := Lib.hid ((h.toG.wide (G' := GB B w.heap.size) (fun k hk => ⟨hk.1, by omega⟩)).below hb0)
  have HB := Lib.hid (hb0.mono hB)
  have hA : Blk (w.alloc (actBlk ⟨4, at_, c, A, cap, keep⟩)) w.heap.size _ _ := Blk.new w _ _
  have hlt : w.heap.size < (w.alloc (actBlk ⟨4, at_, c, A, cap, keep⟩)).heap.size := hA.lt
  all_goals
    unfold ActV.val
    go_enter Try.func14, Try.ntmps14
    go_wp2_with fail
    refine (gboth_d HG.out (GB.big hB hlt) (fun own hd => flush_any hd)).mono ?_
    rintro e W1 ⟨rfl, h1, b1⟩
    have H1 := Lib.hid h1
    have B1 := Lib.hid b1
    have hA1 : Blk W1 w.heap.size _ _ := hA.of_block (b1.block _ hlt (fun hx => hx.2 rfl))
    have hlt1 := hA1.lt
    have l1 := hA1.cell 1
    have l3 := hA1.cell 3
    clear h1 b1
    go_wp2_with fail
    refine (gboth_r H1.out (GB.big hB hlt1) (fun own hd => rflush_any hd hmost)).mono ?_
    rintro e W2 ⟨rfl, h2, b2⟩
    have H2 := Lib.hid h2
    have B2 := Lib.hid b2
    clear h2 b2
    go_wp2_with fail
    go_ret
    exact ⟨rfl, H2.out.both (fun k hk => hk.1), HB.out.trans ((B1.out.trans B2.out (fun i hi => .inl hi)).below (B := B) (fun i hi => hi.1) (by omega))⟩

theorem do_arm (h : Both most w B p r d d) (hB : B ≤ w.heap.size) (hmost : most ≤ 100000) (at_ : Int) (c : UInt8) (A : Option Addr) (cap : Nat) (keep : List Bool) (ha1 : at_ ≤ 9223372036854775807) :
    Calls Try.prog 14 #[.pointer (some ⟨p, 0, none⟩), .pointer (some ⟨r, 0, none⟩), (ActV.mk 5 at_ c A cap keep).val] w (TwoPost most B p r (d.arm at_) (d.arm at_) (.bool true) w) := by
  have hb0 : Below w.heap.size w (w.alloc (actBlk ⟨5, at_, c, A, cap, keep⟩)) := (Below.refl w.heap.size w).alloc (Nat.le_refl _) _
  have HG := Lib.hid ((h.toG.wide (G' := GB B w.heap.size) (fun k hk => ⟨hk.1, by omega⟩)).below hb0)
  have HB := Lib.hid (hb0.mono hB)
  have hA : Blk (w.alloc (actBlk ⟨5, at_, c, A, cap, keep⟩)) w.heap.size _ _ := Blk.new w _ _
  have hlt : w.heap.size < (w.alloc (actBlk ⟨5, at_, c, A, cap, keep⟩)).heap.size := hA.lt
  all_goals
    unfold ActV.val
    go_enter Try.func14, Try.ntmps14
    go_wp2_with fail
    refine (gboth_d HG.out (GB.big hB hlt) (fun own hd => arm_any hd at_ ha1)).mono ?_
    rintro e W1 ⟨rfl, h1, b1⟩
    have H1 := Lib.hid h1
    have B1 := Lib.hid b1
    have hA1 : Blk W1 w.heap.size _ _ := hA.of_block (b1.block _ hlt (fun hx => hx.2 rfl))
    have hlt1 := hA1.lt
    have l1 := hA1.cell 1
    have l3 := hA1.cell 3
    clear h1 b1
    go_wp2_with fail
    refine (gboth_r H1.out (GB.big hB hlt1) (fun own hd => rarm_any hd at_ ha1)).mono ?_
    rintro e W2 ⟨rfl, h2, b2⟩
    have H2 := Lib.hid h2
    have B2 := Lib.hid b2
    clear h2 b2
    go_wp2_with fail
    go_ret
    exact ⟨rfl, H2.out.both (fun k hk => hk.1), HB.out.trans ((B1.out.trans B2.out (fun i hi => .inl hi)).below (B := B) (fun i hi => hi.1) (by omega))⟩

theorem do_off (h : Both most w B p r d d) (hB : B ≤ w.heap.size) (hmost : most ≤ 100000) (at_ : Int) (c : UInt8) (A : Option Addr) (cap : Nat) (keep : List Bool) :
    Calls Try.prog 14 #[.pointer (some ⟨p, 0, none⟩), .pointer (some ⟨r, 0, none⟩), (ActV.mk 6 at_ c A cap keep).val] w (TwoPost most B p r d.off d.off (.bool true) w) := by
  have hb0 : Below w.heap.size w (w.alloc (actBlk ⟨6, at_, c, A, cap, keep⟩)) := (Below.refl w.heap.size w).alloc (Nat.le_refl _) _
  have HG := Lib.hid ((h.toG.wide (G' := GB B w.heap.size) (fun k hk => ⟨hk.1, by omega⟩)).below hb0)
  have HB := Lib.hid (hb0.mono hB)
  have hA : Blk (w.alloc (actBlk ⟨6, at_, c, A, cap, keep⟩)) w.heap.size _ _ := Blk.new w _ _
  have hlt : w.heap.size < (w.alloc (actBlk ⟨6, at_, c, A, cap, keep⟩)).heap.size := hA.lt
  all_goals
    unfold ActV.val
    go_enter Try.func14, Try.ntmps14
    go_wp2_with fail
    refine (gboth_d HG.out (GB.big hB hlt) (fun own hd => off_any hd)).mono ?_
    rintro e W1 ⟨rfl, h1, b1⟩
    have H1 := Lib.hid h1
    have B1 := Lib.hid b1
    have hA1 : Blk W1 w.heap.size _ _ := hA.of_block (b1.block _ hlt (fun hx => hx.2 rfl))
    have hlt1 := hA1.lt
    have l1 := hA1.cell 1
    have l3 := hA1.cell 3
    clear h1 b1
    go_wp2_with fail
    refine (gboth_r H1.out (GB.big hB hlt1) (fun own hd => roff_any hd)).mono ?_
    rintro e W2 ⟨rfl, h2, b2⟩
    have H2 := Lib.hid h2
    have B2 := Lib.hid b2
    clear h2 b2
    go_wp2_with fail
    go_ret
    exact ⟨rfl, H2.out.both (fun k hk => hk.1), HB.out.trans ((B1.out.trans B2.out (fun i hi => .inl hi)).below (B := B) (fun i hi => hi.1) (by omega))⟩

theorem do_room (h : Both most w B p r d d) (hB : B ≤ w.heap.size) (hmost : most ≤ 100000) (at_ : Int) (c : UInt8) (A : Option Addr) (cap : Nat) (keep : List Bool) (ha1 : at_ ≤ 9223372036854775807) :
    Calls Try.prog 14 #[.pointer (some ⟨p, 0, none⟩), .pointer (some ⟨r, 0, none⟩), (ActV.mk 9 at_ c A cap keep).val] w (TwoPost most B p r (d.setRoom at_) (d.setRoom at_) (.bool true) w) := by
  have hb0 : Below w.heap.size w (w.alloc (actBlk ⟨9, at_, c, A, cap, keep⟩)) := (Below.refl w.heap.size w).alloc (Nat.le_refl _) _
  have HG := Lib.hid ((h.toG.wide (G' := GB B w.heap.size) (fun k hk => ⟨hk.1, by omega⟩)).below hb0)
  have HB := Lib.hid (hb0.mono hB)
  have hA : Blk (w.alloc (actBlk ⟨9, at_, c, A, cap, keep⟩)) w.heap.size _ _ := Blk.new w _ _
  have hlt : w.heap.size < (w.alloc (actBlk ⟨9, at_, c, A, cap, keep⟩)).heap.size := hA.lt
  all_goals
    unfold ActV.val
    go_enter Try.func14, Try.ntmps14
    go_wp2_with fail
    refine (gboth_d HG.out (GB.big hB hlt) (fun own hd => room_any hd at_ ha1)).mono ?_
    rintro e W1 ⟨rfl, h1, b1⟩
    have H1 := Lib.hid h1
    have B1 := Lib.hid b1
    have hA1 : Blk W1 w.heap.size _ _ := hA.of_block (b1.block _ hlt (fun hx => hx.2 rfl))
    have hlt1 := hA1.lt
    have l1 := hA1.cell 1
    have l3 := hA1.cell 3
    clear h1 b1
    go_wp2_with fail
    refine (gboth_r H1.out (GB.big hB hlt1) (fun own hd => rroom_any hd at_ ha1)).mono ?_
    rintro e W2 ⟨rfl, h2, b2⟩
    have H2 := Lib.hid h2
    have B2 := Lib.hid b2
    clear h2 b2
    go_wp2_with fail
    go_ret
    exact ⟨rfl, H2.out.both (fun k hk => hk.1), HB.out.trans ((B1.out.trans B2.out (fun i hi => .inl hi)).below (B := B) (fun i hi => hi.1) (by omega))⟩

theorem bools_low {w w' : World} {B : Nat} {A : Option Addr} {bs : List Bool} (h : BoolsAt w A bs) (hk : ∀ b o, A = some ⟨b, o, none⟩ → 0 < bs.length → b < B) (hb : Below B w w') : BoolsAt w' A bs := fun i hi => by
  obtain ⟨b, o, h1, h2, h3⟩ := h i hi
  exact ⟨b, o, h1, Nat.lt_of_lt_of_le h2 hb.size, by rw [hb.cell (p := ⟨b, o + i, none⟩) (hk b o h1 (by omega))]; exact h3⟩

theorem do_wake (h : Both most w B p r d d) (hB : B ≤ w.heap.size) (hmost : most ≤ 100000) (what : Int) (hw : what = 7 ∨ what = 8) (at_ : Int) (c : UInt8) (A : Option Addr) (cap : Nat) (keep : List Bool) (hbo : BoolsAt w A keep) (hk : ∀ b o, A = some ⟨b, o, none⟩ → 0 < keep.length → b < B) :
    Calls Try.prog 14 #[.pointer (some ⟨p, 0, none⟩), .pointer (some ⟨r, 0, none⟩), (ActV.mk what at_ c A cap keep).val] w (TwoPost most B p r (d.wake keep) (d.wake keep) (.bool true) w) := by
  have hb0 : Below w.heap.size w (w.alloc (actBlk ⟨what, at_, c, A, cap, keep⟩)) := (Below.refl w.heap.size w).alloc (Nat.le_refl _) _
  have HG := Lib.hid ((h.toG.wide (G' := GB B w.heap.size) (fun k hk => ⟨hk.1, by omega⟩)).below hb0)
  have HB := Lib.hid (hb0.mono hB)
  have hA : Blk (w.alloc (actBlk ⟨what, at_, c, A, cap, keep⟩)) w.heap.size _ _ := Blk.new w _ _
  have hlt : w.heap.size < (w.alloc (actBlk ⟨what, at_, c, A, cap, keep⟩)).heap.size := hA.lt
  have HK := Lib.hid (bools_low hbo hk HB.out)
  have HKB := Lib.hid hk
  clear hbo hk
  rcases hw with rfl | rfl
  all_goals
    unfold ActV.val
    go_enter Try.func14, Try.ntmps14
    go_wp2_with fail
    refine (gwake_d HG.out (GB.big hB hlt) hmost A cap keep HK.out (fun b o hA hl hg => by have := HKB.out b o hA hl; have := hg.1; omega)).mono ?_
    rintro e W1 ⟨rfl, h1, b1⟩
    have H1 := Lib.hid h1
    have B1 := Lib.hid b1
    have hA1 : Blk W1 w.heap.size _ _ := hA.of_block (b1.block _ hlt (fun hx => hx.2 rfl))
    have hlt1 := hA1.lt
    have l1 := hA1.cell 1
    have l3 := hA1.cell 3
    have HK1 := Lib.hid (bools_low HK.out HKB.out (b1.below (B := B) (fun i hi => hi.1) (by omega)))
    clear h1 b1
    go_wp2_with fail
    refine (gwake_r H1.out (GB.big hB hlt1) hmost A cap keep HK1.out (fun b o hA hl hg => by have := HKB.out b o hA hl; have := hg.1; omega)).mono ?_
    rintro e W2 ⟨rfl, h2, b2⟩
    have H2 := Lib.hid h2
    have B2 := Lib.hid b2
    clear h2 b2
    go_wp2_with fail
    go_ret
    exact ⟨rfl, H2.out.both (fun k hk => hk.1), HB.out.trans ((B1.out.trans B2.out (fun i hi => .inl hi)).below (B := B) (fun i hi => hi.1) (by omega))⟩

theorem do_else (h : Both most w B p r d d) (hB : B ≤ w.heap.size) (what : Int) (hw : ∀ k : Nat, k < 10 → what ≠ (k : Int)) (at_ : Int) (c : UInt8) (A : Option Addr) (cap : Nat) (keep : List Bool) :
    Calls Try.prog 14 #[.pointer (some ⟨p, 0, none⟩), .pointer (some ⟨r, 0, none⟩), (ActV.mk what at_ c A cap keep).val] w (TwoPost most B p r d d (.bool true) w) := by
  have hb0 : Below w.heap.size w (w.alloc (actBlk ⟨what, at_, c, A, cap, keep⟩)) := (Below.refl w.heap.size w).alloc (Nat.le_refl _) _
  have HH := Lib.hid (h.below hb0)
  have HB := Lib.hid (hb0.mono hB)
  have g0 : (what == 0) = false := by have := hw 0 (by omega); simpa using this
  have g1 : (what == 1) = false := by have := hw 1 (by omega); simpa using this
  have g2 : (what == 2) = false := by have := hw 2 (by omega); simpa using this
  have g3 : (what == 3) = false := by have := hw 3 (by omega); simpa using this
  have g4 : (what == 4) = false := by have := hw 4 (by omega); simpa using this
  have g5 : (what == 5) = false := by have := hw 5 (by omega); simpa using this
  have g6 : (what == 6) = false := by have := hw 6 (by omega); simpa using this
  have g7 : (what == 7) = false := by have := hw 7 (by omega); simpa using this
  have g8 : (what == 8) = false := by have := hw 8 (by omega); simpa using this
  have g9 : (what == 9) = false := by have := hw 9 (by omega); simpa using this
  clear hw
  unfold ActV.val
  go_enter Try.func14, Try.ntmps14
  go_wp2_with fail
  go_ret
  exact ⟨rfl, HH.out, HB.out⟩

end
end Go.Proofs.Ytbpkgfhhoejmcaa.dk

/- JWorks, JShelf. -/
import Derived.Test.YtjllpbckmioiiaaDoorQ22
import Derived.Shelf.Strings.Repeat
import Derived.Test.YtjllpbckmioiiaaDoorProg
/- The statements' works, by what a head's two calls do. -/
namespace Go.Proofs.YtjllpbckmioiiaaDoor.jr
open Go Go.RowKit Go.Proofs.YtjllpbckmioiiaaDoor.dk Go.Proofs.YtjllpbckmioiiaaDoor.wi
set_option maxRecDepth 100000

/-- What is said behind a Commit. -/
def aft (tgt : Int → Bt) (l : List Wr) : Int → Bt := if ansJ 200 l = 0 then over tgt l else tgt

theorem JJ.n {tgt : Int → Bt} {d : DD} (h : JJ 200 tgt d) : d.n = 200 := h.rb.1
theorem JJ.now {tgt : Int → Bt} {d : DD} (h : JJ 200 tgt d) : d.now = d.base := by unfold DD.now; rw [h.more]; rfl

theorem commit_done {tgt : Int → Bt} {d : DD} (h : JJ 200 tgt d) (hf : d.fuse = 0) (l : List Wr) : ∃ d', jcommit d l = (ansJ 200 l, d') ∧ JJ 200 (aft tgt l) d' ∧ d'.fuse = 0 := by
  unfold aft
  by_cases ha : ansJ 200 l = 0
  · rw [if_pos ha]
    rcases commit_any (l := l) (by decide) (by decide) h (by omega) ha with ⟨h1, h2, h3, _⟩ | ⟨_, _, h3, _⟩
    · exact ⟨(jcommit d l).2, by rw [ha, ← h1], h2, h3 hf⟩
    · exact absurd hf h3
  · rw [if_neg ha]
    refine ⟨d, ?_, h, hf⟩
    have := commit_not (l := l) h.on (.inl (by rw [h.n]; exact ha))
    rw [h.n] at this
    exact this

theorem recover_done {tgt : Int → Bt} {d : DD} (h : RJ 200 tgt d) (hf : d.fuse = 0) : ∃ d', jrecover d = (0, d') ∧ JJ 200 tgt d' ∧ d'.fuse = 0 := by
  rcases recover_any h (by omega) with ⟨h1, h2, h3, _⟩ | ⟨_, _, h3, _⟩
  · exact ⟨(jrecover d).2, by rw [← h1], h2, h3 hf⟩
  · exact absurd hf h3

theorem JJ.read {tgt : Int → Bt} {d : DD} (h : JJ 200 tgt d) (k : Int) (h0 : 145 ≤ k) (h1 : k < 200) : d.read k = (tgt k, 0) := by
  unfold DD.read
  have : d.has k = true := by
    unfold DD.has
    rw [h.n]
    simp
    omega
  rw [if_neg (by rw [h.on]; simp), if_neg (by rw [this]; simp), h.now]
  exact congrArg (fun x => (x, (0 : Int))) (h.is k h0)

section
variable {w : World} {B p : Nat} {d : DD}

theorem commit_in (HW : HeadW) (HR : HeadR) (h : In 400 w B p d) (hB : B ≤ w.heap.size) (hn : 145 < d.n) (A : Option Addr) (cl n : Nat) (l : List Wr) (hln : l.length = n) (hwl : WsAt w A l) (hll : l.length ≤ 1000000) (ht : CTab w) (hm : d.more.length ≤ 200) (r : Int) (d' : DD) (h1 : jcommit d l = (r, d')) :
    Calls Tryd.prog 8 #[.pointer (some ⟨p, 0, none⟩), .slice A n cl] w (InPost 400 B p d' (.int .i64 r) w) := by
  obtain ⟨own, hd, ho⟩ := h
  subst hln
  have := commit_calls HW HR hd hn A cl l hwl hll ht (by omega) (by decide)
  rw [h1] at this
  exact this.mono fun _ _ h => in_of_post hB ho h

theorem recover_in (HR : HeadR) (h : In 400 w B p d) (hB : B ≤ w.heap.size) (hn : 145 < d.n) (ht : CTab w) (hm : d.more.length ≤ 200) (r : Int) (d' : DD) (h1 : jrecover d = (r, d')) :
    Calls Tryd.prog 17 #[.pointer (some ⟨p, 0, none⟩)] w (InPost 400 B p d' (.int .i64 r) w) := by
  obtain ⟨own, hd, ho⟩ := h
  have := recover_calls HR hd hn ht (by omega) (by decide)
  rw [h1] at this
  exact this.mono fun _ _ h => in_of_post hB ho h
end

theorem wsAt_two {W : World} (k j : Int) (x y : Bt) (hk : i64B k) (hj : i64B j) : WsAt (W.alloc (.cells #[.int .i64 k, .string (str x), .int .i64 j, .string (str y)] 49)) (some ⟨W.heap.size, 0, none⟩) [(k, x), (j, y)] := fun i hi => by
  have hB := Blk.new W 49 #[.int .i64 k, .string (str x), .int .i64 j, .string (str y)]
  match i, hi with
  | 0, _ => exact ⟨W.heap.size, 0, rfl, by simp, hB.cell 0, hB.cell 1, hk⟩
  | 1, _ => exact ⟨W.heap.size, 0, rfl, by simp, hB.cell 2, hB.cell 3, hj⟩
  | i + 2, h => exact absurd h (by simp only [List.length_cons, List.length_nil]; omega)

def wW : List Wr := [(145, rep 97 32), (150, rep 98 32)]
theorem wW_ans : ansJ 200 wW = 0 := by decide +kernel

set_option maxHeartbeats 3200000 in
theorem works_any (HW : HeadW) (HR : HeadR) (w : World) (ht : CTab w) : Calls Tryd.prog 15 #[] w (okB true w) := by
  have HT := Lib.hid ht
  have hg := ht.1
  obtain ⟨_, hj0, hf0⟩ := ready_is
  obtain ⟨d1, hc1, hj1, hf1⟩ := commit_done hj0 hf0 wW
  obtain ⟨d2, hc2, hj2, hf2⟩ := recover_done hj1.toRJ hf1
  rw [wW_ans] at hc1
  have ha : aft (fun _ => zz) wW = over (fun _ => zz) wW := by unfold aft; rw [if_pos wW_ans]
  have ra : d2.read 145 = (rep 97 32, 0) := by rw [hj2.read 145 (by decide) (by decide), ha]; rfl
  have rb : d2.read 150 = (rep 98 32, 0) := by rw [hj2.read 150 (by decide) (by decide), ha]; rfl
  have HC1 := Lib.hid hc1
  have HC2 := Lib.hid hc2
  have HJ0 := Lib.hid hj0
  have HJ1 := Lib.hid hj1
  have HRA := Lib.hid ra
  have HRB := Lib.hid rb
  have HHW := Lib.hid HW
  have HHR := Lib.hid HR
  clear ht hj0 hf0 hc1 hj1 hf1 hc2 hj2 hf2 ha ra rb HW HR
  obtain ⟨SA, hsa⟩ : ∃ s, str (rep 97 32) = s := ⟨_, rfl⟩
  obtain ⟨SB, hsb⟩ : ∃ s, str (rep 98 32) = s := ⟨_, rfl⟩
  have HSA := Lib.hid hsa
  have HSB := Lib.hid hsb
  have hla : ∀ W, Calls Tryd.prog 23 #[.int .u8 97] W fun e w' => e = .returned (.string SA) ∧ Below W.heap.size W w' := fun W => by
    have := letters_any 97 W
    unfold okT at this
    rw [hsa] at this
    exact this
  have hlb : ∀ W, Calls Tryd.prog 23 #[.int .u8 98] W fun e w' => e = .returned (.string SB) ∧ Below W.heap.size W w' := fun W => by
    have := letters_any 98 W
    unfold okT at this
    rw [hsb] at this
    exact this
  have HLA := Lib.hid hla
  have HLB := Lib.hid hlb
  clear hla hlb hsa hsb
  go_enter Tryd.func15, Tryd.ntmps15
  go_wp2_with fail
  refine (ready_any HHW.out w).mono ?_
  rintro e W1 ⟨p, rfl, hi, b1⟩
  have HI1 := Lib.hid hi
  have HB1 := Lib.hid b1
  clear hi b1
  go_wp2_with fail
  refine (HLA.out W1).mono ?_
  rintro e W2 ⟨rfl, b2⟩
  have HI2 := Lib.hid (HI1.out.below b2)
  have HB2 := Lib.hid (below_step HB1.out b2)
  clear b2 HI1 HB1
  go_wp2_with fail
  refine (HLB.out W2).mono ?_
  rintro e W3 ⟨rfl, b3⟩
  have HI3 := Lib.hid (HI2.out.below b3)
  have HB3 := Lib.hid (below_step HB2.out b3)
  clear b3 HI2 HB2
  go_wp2_with fail
  have hb4 : Below W3.heap.size W3 (W3.alloc (.cells #[.int .i64 145, .string SA, .int .i64 150, .string SB] 49)) := (Below.refl W3.heap.size W3).alloc (Nat.le_refl _) _
  have HI4 := Lib.hid (HI3.out.below hb4)
  have HB4 := Lib.hid (below_step HB3.out hb4)
  have hws : WsAt (W3.alloc (.cells #[.int .i64 145, .string SA, .int .i64 150, .string SB] 49)) (some ⟨W3.heap.size, 0, none⟩) wW := by
    rw [← HSA.out, ← HSB.out]
    exact wsAt_two 145 150 (rep 97 32) (rep 98 32) (by unfold i64B; omega) (by unfold i64B; omega)
  have HWS := Lib.hid hws
  clear hb4 hws
  refine (commit_in HHW.out HHR.out HI4.out HB4.out.size (by rw [HJ0.out.n]; decide) _ 2 2 wW rfl HWS.out (by decide) (HT.out.below HB4.out hg) (by rw [HJ0.out.more]; decide) 0 d1 HC1.out).mono ?_
  rintro e W5 ⟨rfl, hi5, b5⟩
  have HI5 := Lib.hid hi5
  have HB5 := Lib.hid (HB4.out.trans b5)
  clear hi5 b5 HI4 HB4 HWS
  go_wp2_with fail
  refine (recover_in HHR.out HI5.out HB5.out.size (by rw [HJ1.out.n]; decide) (HT.out.below HB5.out hg) (by rw [HJ1.out.more]; decide) 0 d2 HC2.out).mono ?_
  rintro e W6 ⟨rfl, hi6, b6⟩
  have HI6 := Lib.hid hi6
  have HB6 := Lib.hid (HB5.out.trans b6)
  clear hi6 b6 HI5 HB5
  go_wp2_with fail
  refine (read_in HI6.out 145 (rep 97 32) SA HSA.out 0 HRA.out).mono ?_
  rintro e W7 ⟨rfl, hi7, b7⟩
  have HI7 := Lib.hid hi7
  have HB7 := Lib.hid (HB6.out.trans (b7.mono HB6.out.size))
  clear hi7 b7 HI6 HB6
  go_wp2_with fail
  refine (read_in HI7.out 150 (rep 98 32) SB HSB.out 0 HRB.out).mono ?_
  rintro e W8 ⟨rfl, hi8, b8⟩
  have HB8 := Lib.hid (HB7.out.trans (b8.mono HB7.out.size))
  clear hi8 b8 HI7 HB7
  have hqa : (SA.toList == SA.toList) = true := by simp
  have hqb : (SB.toList == SB.toList) = true := by simp
  go_wp2_with fail
  refine (HLA.out W8).mono ?_
  rintro e W9 ⟨rfl, b9⟩
  have HB9 := Lib.hid (below_step HB8.out b9)
  clear b9
  go_wp2_with fail
  refine (HLB.out W9).mono ?_
  rintro e W10 ⟨rfl, b10⟩
  have HB10 := Lib.hid (below_step HB9.out b10)
  clear b10
  go_wp2_with fail
  go_ret
  exact ⟨rfl, HB10.out⟩
end Go.Proofs.YtjllpbckmioiiaaDoor.jr

/- The library's contract for strings.Repeat, laid at this program's numbers. -/
namespace Go.Proofs
open Go.Shelf
set_option maxRecDepth 100000
def Tryd.lays105_ren : Go.Shelf.Ren := ⟨fun | 105 => 52 | 212 => 69 | 99 => 70 | 165 => 71 | 166 => 64 | 170 => 72 | 169 => 65 | 263 => 83 | 264 => 84 | 206 => 85 | 240 => 81 | 241 => 86 | 276 => 89 | 277 => 91 | n => n, fun | 9 => 9 | 3 => 3 | 4 => 4 | 0 => 0 | 46 => 114 | 109 => 127 | 5 => 5 | 72 => 119 | 76 => 122 | 51 => 95 | 146 => 139 | 53 => 92 | 148 => 141 | 70 => 117 | 37 => 68 | 75 => 121 | 127 => 137 | 164 => 145 | 80 => 124 | n => n, fun | n => n⟩
theorem Tryd.lays105 : Go.Proofs.Lays.n105 Tryd.prog Tryd.lays105_ren := {
  mixed := by kernel_rfl
  f99 := Tryd.func70.trans (congrArg some (by kernel_rfl))
  f105 := Tryd.func52.trans (congrArg some (by kernel_rfl))
  f165 := Tryd.func71.trans (congrArg some (by kernel_rfl))
  f166 := Tryd.func64.trans (congrArg some (by kernel_rfl))
  f169 := Tryd.func65.trans (congrArg some (by kernel_rfl))
  f170 := Tryd.func72.trans (congrArg some (by kernel_rfl))
  f206 := Tryd.func85.trans (congrArg some (by kernel_rfl))
  f212 := Tryd.func69.trans (congrArg some (by kernel_rfl))
  f240 := Tryd.func81.trans (congrArg some (by kernel_rfl))
  f241 := Tryd.func86.trans (congrArg some (by kernel_rfl))
  f263 := Tryd.func83.trans (congrArg some (by kernel_rfl))
  f264 := Tryd.func84.trans (congrArg some (by kernel_rfl))
  f276 := Tryd.func89.trans (congrArg some (by kernel_rfl))
  f277 := Tryd.func91.trans (congrArg some (by kernel_rfl))
  t0 := Tryd.underlying0
  a0 := Tryd.isAgg0
  z0 := Tryd.sizeOf0
  v0 := Tryd.zeroValue0
  t3 := Tryd.underlying3
  a3 := Tryd.isAgg3
  z3 := Tryd.sizeOf3
  v3 := Tryd.zeroValue3
  t4 := Tryd.underlying4
  a4 := Tryd.isAgg4
  z4 := Tryd.sizeOf4
  v4 := Tryd.zeroValue4
  t5 := Tryd.underlying5
  a5 := Tryd.isAgg5
  z5 := Tryd.sizeOf5
  v5 := Tryd.zeroValue5
  t9 := Tryd.underlying9
  a9 := Tryd.isAgg9
  z9 := Tryd.sizeOf9
  v9 := Tryd.zeroValue9
  t20 := Tryd.underlying20
  a20 := Tryd.isAgg20
  z20 := Tryd.sizeOf20
  v20 := Tryd.zeroValue20
  t37 := Tryd.underlying68
  a37 := Tryd.isAgg68
  z37 := Tryd.sizeOf68
  v37 := Tryd.zeroValue68
  t46 := Tryd.underlying114
  a46 := Tryd.isAgg114
  z46 := Tryd.sizeOf114
  v46 := Tryd.zeroValue114
  t51 := Tryd.underlying95
  a51 := Tryd.isAgg95
  z51 := Tryd.sizeOf95
  v51 := Tryd.zeroValue95
  t53 := Tryd.underlying92
  a53 := Tryd.isAgg92
  z53 := Tryd.sizeOf92
  v53 := Tryd.zeroValue92
  t70 := Tryd.underlying117
  a70 := Tryd.isAgg117
  z70 := Tryd.sizeOf117
  v70 := Tryd.zeroValue117
  t72 := Tryd.underlying119
  a72 := Tryd.isAgg119
  z72 := Tryd.sizeOf119
  v72 := Tryd.zeroValue119
  t75 := Tryd.underlying121
  a75 := Tryd.isAgg121
  z75 := Tryd.sizeOf121
  v75 := Tryd.zeroValue121
  t76 := Tryd.underlying122
  a76 := Tryd.isAgg122
  z76 := Tryd.sizeOf122
  v76 := Tryd.zeroValue122
  t109 := Tryd.underlying127
  a109 := Tryd.isAgg127
  z109 := Tryd.sizeOf127
  v109 := Tryd.zeroValue127
  t127 := Tryd.underlying137
  a127 := Tryd.isAgg137
  z127 := Tryd.sizeOf137
  v127 := Tryd.zeroValue137
  t146 := Tryd.underlying139
  a146 := Tryd.isAgg139
  z146 := Tryd.sizeOf139
  v146 := Tryd.zeroValue139
  t148 := Tryd.underlying141
  a148 := Tryd.isAgg141
  z148 := Tryd.sizeOf141
  v148 := Tryd.zeroValue141
  t164 := Tryd.underlying145
  a164 := Tryd.isAgg145
  z164 := Tryd.sizeOf145
  v164 := Tryd.zeroValue145 }
theorem Tryd.Builder_Extra_105 : Builder.Extra Tryd.prog Tryd.lays105_ren := {
  sizeBuilder := by kernel_rfl
  liesBuilder := by kernel_rfl
  t5 := Tryd.underlying5
  a5 := Tryd.isAgg5
  z5 := Tryd.sizeOf5
  v5 := Tryd.zeroValue5
  infoByte := by kernel_rfl
  cellsByte := by kernel_rfl
  sizeByte := by kernel_rfl
  neB5 := by decide }
open Go.RowKit Go.Lib in
theorem Tryd.strings_Repeat (s : ByteArray) (c : Nat) (w : World) (hc : c ≤ 9223372036854775807) (hlen : s.size * c ≤ 140737488355328) :
    Calls Tryd.prog 52 #[.string s, .int .i64 c] w fun e w' => e = .returned (.string ⟨(Lib.repeatL s.data.toList c).toArray⟩) ∧ Below w.heap.size w w' := Any.strings_Repeat Tryd.lays105 Tryd.Builder_Extra_105 s c w hc hlen
end Go.Proofs


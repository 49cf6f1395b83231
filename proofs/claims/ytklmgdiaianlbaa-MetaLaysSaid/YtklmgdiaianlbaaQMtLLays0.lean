/- The bytes of any table, and whether it is the same as another one, are as the document says. -/
import Derived.Test.YtklmgdiaianlbaaQ14
import Derived.Test.YtklmgdiaianlbaaQ15
import Derived.Test.YtklmgdiaianlbaaQ17
import Derived.Test.YtklmgdiaianlbaaQ19
import Derived.Test.YtklmgdiaianlbaaQ20
import Derived.Test.YtklmgdiaianlbaaQ6
import Derived.Lib.QuietBelow
import Derived.Test.YtklmgdiaianlbaaRows
import Derived.Deep.DeepHandedRow
import Derived.ProofKit
import Derived.OpenShut
import Derived.ShutString
import Derived.SizedLaws
import Derived.ChangeOld
import Derived.Below
import Derived.SliceStrings
set_option linter.unusedVariables false
set_option linter.unusedSimpArgs false
/- A table that is stored where another one lay. -/
namespace Go.Proofs.Ytklmgdiaianlbaa.mt
open Go Go.RowKit Go.Sort Go.Proofs.Ytklmgdiaianlbaa.ib Go.Proofs.Ytklmgdiaianlbaa.wi
set_option maxRecDepth 100000

theorem mhmixed : Try.prog.follows .mixedOrders = true := by kernel_rfl
theorem mtC_eq (A0 A1 A2 : Option Addr) (c0 c1 c2 : Nat) (m : Mt) : mtC A0 A1 A2 c0 c1 c2 m = mC (.slice A0 m.live.length c0) (.slice A1 m.snaps.length c1) (.slice A2 m.tok.img.length c2) m.tok := rfl
/-- What short answers, its slices as they are. -/
theorem MtO.open_ {W : World} {B : Nat} {v : Value} {m : Mt} (h : MtO W B v m) : ∃ A0 A1 A2 c0 c1 c2, v = .agg (mtC A0 A1 A2 c0 c1 c2 m) := by
  obtain ⟨A0, A1, A2, c0, c1, c2, hv, _⟩ := h.at_
  exact ⟨A0, A1, A2, c0, c1, c2, hv⟩
theorem box_mt {W : World} {B g : Nat} {A0 A1 A2 B0 B1 B2 : Option Addr} {c0 c1 c2 d0 d1 d2 : Nat} {m m' : Mt} (hA : Blk W g 30 (mtC B0 B1 B2 d0 d1 d2 m')) (h : MtO W B (.agg (mtC A0 A1 A2 c0 c1 c2 m)) m) :
    Blk (setMt W g (.slice A0 m.live.length c0) (.slice A1 m.snaps.length c1) (.slice A2 m.tok.img.length c2) m.tok) g 30 (mtC A0 A1 A2 c0 c1 c2 m) ∧ MtO (setMt W g (.slice A0 m.live.length c0) (.slice A1 m.snaps.length c1) (.slice A2 m.tok.img.length c2) m.tok) B (.agg (mtC A0 A1 A2 c0 c1 c2 m)) m :=
  ⟨setMt_blk (u0 := .slice B0 m'.live.length d0) (u1 := .slice B1 m'.snaps.length d1) (u2 := .slice B2 m'.tok.img.length d2) (t' := m'.tok) hA, h.kp (setMt_kp hA) (by decide) (by decide)⟩
/-- The nine cells of a table, at every world that is grown. -/
theorem nine {W : World} {g : Nat} {A0 A1 A2 : Option Addr} {c0 c1 c2 : Nat} {m : Mt} (h : Blk W g 30 (mtC A0 A1 A2 c0 c1 c2 m)) (d : Nat) (os : Array Obj) :
    (grow (redrawn W d) os).cell? ⟨g, 0, none⟩ = some (.slice A0 m.live.length c0) ∧ (grow (redrawn W d) os).cell? ⟨g, 1, none⟩ = some (.slice A1 m.snaps.length c1) ∧ (grow (redrawn W d) os).cell? ⟨g, 2, none⟩ = some (.int .u64 (m.tok.base.1 : Int)) ∧ (grow (redrawn W d) os).cell? ⟨g, 3, none⟩ = some (.int .u64 (m.tok.base.2 : Int)) ∧
    (grow (redrawn W d) os).cell? ⟨g, 4, none⟩ = some (.int .u64 (m.tok.target.1 : Int)) ∧ (grow (redrawn W d) os).cell? ⟨g, 5, none⟩ = some (.int .u64 (m.tok.target.2 : Int)) ∧ (grow (redrawn W d) os).cell? ⟨g, 6, none⟩ = some (.int .i64 m.tok.next) ∧ (grow (redrawn W d) os).cell? ⟨g, 7, none⟩ = some (.int .i64 m.tok.all) ∧
    (grow (redrawn W d) os).cell? ⟨g, 8, none⟩ = some (.slice A2 m.tok.img.length c2) := by
  have hb := h.below (below_regrown W d os)
  exact ⟨hb.cell 0, hb.cell 1, hb.cell 2, hb.cell 3, hb.cell 4, hb.cell 5, hb.cell 6, hb.cell 7, hb.cell 8⟩
end Go.Proofs.Ytklmgdiaianlbaa.mt

/- MetaLays' walk, by what the program's functions do. -/
namespace Go.Proofs.Ytklmgdiaianlbaa.mt
open Go Go.RowKit Go.Sort Go.Proofs.Ytklmgdiaianlbaa.ib Go.Proofs.Ytklmgdiaianlbaa.wi Go.Proofs.Ytklmgdiaianlbaa.im
set_option maxRecDepth 100000

def WLaG (B0 B1 B2 C0 C1 C2 : Option Addr) (e0 e1 e2 f0 f1 f2 : Nat) (ms mt : Mt) (S : ByteArray) (er : Int) (q : Bool) : Nat → Value → World → Prop
  | 0, v, _ => v = .string S
  | 1, v, _ => v = .string S
  | 2, v, _ => v = .bool true
  | 3, v, _ => v = .bool true
  | 4, v, _ => v = .int .i64 er
  | 5, v, _ => v = .int .i64 er
  | 6, v, _ => v = .bool true
  | 7, v, _ => v = .bool true
  | 8, v, _ => v = .bool true
  | 9, v, _ => v = .agg #[.slice B0 ms.live.length e0, .slice B1 ms.snaps.length e1, .int .u64 (ms.tok.base.1 : Int), .int .u64 (ms.tok.base.2 : Int), .int .u64 (ms.tok.target.1 : Int), .int .u64 (ms.tok.target.2 : Int), .int .i64 ms.tok.next, .int .i64 ms.tok.all, .slice B2 ms.tok.img.length e2]
  | 10, v, _ => v = .agg #[.slice C0 mt.live.length f0, .slice C1 mt.snaps.length f1, .int .u64 (mt.tok.base.1 : Int), .int .u64 (mt.tok.base.2 : Int), .int .u64 (mt.tok.target.1 : Int), .int .u64 (mt.tok.target.2 : Int), .int .i64 mt.tok.next, .int .i64 mt.tok.all, .slice C2 mt.tok.img.length f2]
  | 11, v, _ => v = .bool q
  | 12, v, _ => v = .agg #[.slice B0 ms.live.length e0, .slice B1 ms.snaps.length e1, .int .u64 (ms.tok.base.1 : Int), .int .u64 (ms.tok.base.2 : Int), .int .u64 (ms.tok.target.1 : Int), .int .u64 (ms.tok.target.2 : Int), .int .i64 ms.tok.next, .int .i64 ms.tok.all, .slice B2 ms.tok.img.length e2]
  | 13, v, _ => v = .agg #[.slice C0 mt.live.length f0, .slice C1 mt.snaps.length f1, .int .u64 (mt.tok.base.1 : Int), .int .u64 (mt.tok.base.2 : Int), .int .u64 (mt.tok.target.1 : Int), .int .u64 (mt.tok.target.2 : Int), .int .i64 mt.tok.next, .int .i64 mt.tok.all, .slice C2 mt.tok.img.length f2]
  | 14, v, _ => v = .bool q
  | 15, v, _ => v = .bool true
  | 16, v, _ => v = .bool true
  | 17, v, _ => v = .bool true
  | 18, v, _ => v = .agg #[.slice B0 ms.live.length e0, .slice B1 ms.snaps.length e1, .int .u64 (ms.tok.base.1 : Int), .int .u64 (ms.tok.base.2 : Int), .int .u64 (ms.tok.target.1 : Int), .int .u64 (ms.tok.target.2 : Int), .int .i64 ms.tok.next, .int .i64 ms.tok.all, .slice B2 ms.tok.img.length e2]
  | 19, v, _ => v = .agg #[.slice B0 ms.live.length e0, .slice B1 ms.snaps.length e1, .int .u64 (ms.tok.base.1 : Int), .int .u64 (ms.tok.base.2 : Int), .int .u64 (ms.tok.target.1 : Int), .int .u64 (ms.tok.target.2 : Int), .int .i64 ms.tok.next, .int .i64 ms.tok.all, .slice B2 ms.tok.img.length e2]
  | 20, v, _ => v = .bool true
  | 21, v, _ => v = .bool true
  | 22, v, _ => v = .bool true
  | 23, v, _ => v = .bool true
  | 24, v, _ => v = .bool true
  | 25, v, _ => v = .bool true
  | _, _, _ => True
theorem WLaG_mono (B0 B1 B2 C0 C1 C2 : Option Addr) (e0 e1 e2 f0 f1 f2 : Nat) (ms mt : Mt) (S : ByteArray) (er : Int) (q : Bool) (i : Nat) (v : Value) (w w' : World) (hi : i < 26) (h : WLaG B0 B1 B2 C0 C1 C2 e0 e1 e2 f0 f1 f2 ms mt S er q i v w) (hb : Below w.heap.size w w') : WLaG B0 B1 B2 C0 C1 C2 e0 e1 e2 f0 f1 f2 ms mt S er q i v w' := by
  match i, hi, h with
  | 0, _, h | 1, _, h | 2, _, h | 3, _, h | 4, _, h | 5, _, h | 6, _, h | 7, _, h | 8, _, h | 9, _, h | 10, _, h | 11, _, h | 12, _, h | 13, _, h | 14, _, h | 15, _, h | 16, _, h | 17, _, h | 18, _, h | 19, _, h | 20, _, h | 21, _, h | 22, _, h | 23, _, h | 24, _, h | 25, _, h => exact h
  | j + 26, hi, _ => exact absurd hi (by omega)

set_option maxHeartbeats 6400000 in
theorem metaLays_walk (H : MImpl) (v : Value) (m : Mt) (v' : Value) (m' : Mt) (w : World) (hM : MtAt w v m) (hW : mtW m) (hM' : MtAt w v' m') (hW' : mtW m') :
    Calls Try.prog 4 #[v, v'] w (okTrue w) := by
  obtain ⟨A0, A1, A2, d0, d1, d2, rfl, hm⟩ := hM
  obtain ⟨D0, D1, D2, c0, c1, c2, rfl, hm'⟩ := hM'
  have hb1 := (Below.refl w.heap.size w).alloc (Nat.le_refl _) (.cells (mtC A0 A1 A2 d0 d1 d2 m) 30)
  have ha1 := Blk.new w 30 (mtC A0 A1 A2 d0 d1 d2 m)
  obtain ⟨W1, hW1⟩ : ∃ z, w.alloc (.cells (mtC A0 A1 A2 d0 d1 d2 m) 30) = z := ⟨_, rfl⟩
  rw [hW1] at hb1 ha1
  have hbb := (Below.refl _ W1).alloc (Nat.le_refl _) (.cells (mtC D0 D1 D2 c0 c1 c2 m') 30)
  have ha2 := ha1.below hbb
  have hc2 := Blk.new W1 30 (mtC D0 D1 D2 c0 c1 c2 m')
  have hg1 := ha1.lt
  obtain ⟨W2, hW2⟩ : ∃ z, W1.alloc (.cells (mtC D0 D1 D2 c0 c1 c2 m') 30) = z := ⟨_, rfl⟩
  rw [hW2] at hbb ha2 hc2
  have hb2 := below_step hb1 hbb
  have hv2 : MtAt W2 (.agg (mtC A0 A1 A2 d0 d1 d2 m)) m := ⟨A0, A1, A2, d0, d1, d2, rfl, hm.below hb2⟩
  have HB2 := Lib.hid hb2
  have HA2 := Lib.hid ha2
  have HC2 := Lib.hid hc2
  have hx0 : MtAt w (.agg (mtC D0 D1 D2 c0 c1 c2 m')) m' := ⟨D0, D1, D2, c0, c1, c2, rfl, hm'⟩
  have HX0 := Lib.hid hx0
  have HS := Lib.hid (short_any _ m W2 hv2 hW)
  have HW' := Lib.hid hW'
  have HH := Lib.hid H
  have HG1 := Lib.hid hg1
  have HWL := Lib.hid (hb1.size)
  have a0 := ha2.cell 0
  have a1 := ha2.cell 1
  have a2 := ha2.cell 2
  have a3 := ha2.cell 3
  have a4 := ha2.cell 4
  have a5 := ha2.cell 5
  have a6 := ha2.cell 6
  have a7 := ha2.cell 7
  have a8 := ha2.cell 8
  simp only [mtC, List.getElem?_toArray, List.getElem?_cons_zero, List.getElem?_cons_succ] at a0 a1 a2 a3 a4 a5 a6 a7 a8
  have al := ha2.lt
  unfold mtC at hW1 hW2 HS ⊢
  clear hb1 ha1 hbb ha2 hc2 hb2 hv2 hx0 hg1 H hm hm' hW hW'
  go_enter Try.func4, Try.ntmps4
  go_wp2_with fail
  try rw [hW2]
  obtain ⟨g1, hg1⟩ : ∃ z, W1.heap.size = z := ⟨_, rfl⟩
  rw [hg1] at HC2 HG1 HWL
  try rw [hg1]
  obtain ⟨g0, hg0⟩ : ∃ z, w.heap.size = z := ⟨_, rfl⟩
  have HG0 := Lib.hid hg0
  rw [hg0] at HA2 HG1 a0 a1 a2 a3 a4 a5 a6 a7 a8 al
  try rw [hg0]
  clear hW1 hW2 hg1 hg0
  refine HS.out.mono ?_
  rintro e W3 ⟨v3, rfl, hmo, hb3⟩
  obtain ⟨B0, B1, B2, e0, e1, e2, rfl⟩ := hmo.open_
  have ha3 := HA2.out.below hb3
  obtain ⟨hbx, hmo4⟩ := box_mt ha3 hmo
  have hb4 := setMt_below (v0 := .slice B0 (mShort m).live.length e0) (v1 := .slice B1 (mShort m).snaps.length e1) (v2 := .slice B2 (mShort m).tok.img.length e2) (t := (mShort m).tok) (below_step HB2.out hb3) (Nat.le_of_eq HG0.out)
  have hk4 := setMt_kp (v0 := .slice B0 (mShort m).live.length e0) (v1 := .slice B1 (mShort m).snaps.length e1) (v2 := .slice B2 (mShort m).tok.img.length e2) (t := (mShort m).tok) ha3
  have hc4 : Blk (setMt W3 g0 (.slice B0 (mShort m).live.length e0) (.slice B1 (mShort m).snaps.length e1) (.slice B2 (mShort m).tok.img.length e2) (mShort m).tok) g1 30 (mtC D0 D1 D2 c0 c1 c2 m') := by
    have hne : g1 ≠ g0 := by have := HG1.out; omega
    have h3 := HC2.out.below hb3
    unfold setMt setTok
    exact h3.of_block (by simp only [set_oth _ _ _ _ _ hne])
  have hx4 : MtAt (setMt W3 g0 (.slice B0 (mShort m).live.length e0) (.slice B1 (mShort m).snaps.length e1) (.slice B2 (mShort m).tok.img.length e2) (mShort m).tok) (.agg (mtC D0 D1 D2 c0 c1 c2 m')) m' := HX0.out.below hb4
  have hsz := short_sz m
  obtain ⟨ms, hms⟩ : ∃ z, mShort m = z := ⟨_, rfl⟩
  rw [hms] at hbx hmo4 hb4 hc4 hx4 hmo hsz ⊢
  have a0 := ha3.cell 0
  have a1 := ha3.cell 1
  have a2 := ha3.cell 2
  have a3 := ha3.cell 3
  have a4 := ha3.cell 4
  have a5 := ha3.cell 5
  have a6 := ha3.cell 6
  have a7 := ha3.cell 7
  have a8 := ha3.cell 8
  simp only [mtC, List.getElem?_toArray, List.getElem?_cons_zero, List.getElem?_cons_succ] at a0 a1 a2 a3 a4 a5 a6 a7 a8
  have af0 := ha3.frozen 0
  have af1 := ha3.frozen 1
  have af2 := ha3.frozen 2
  have af3 := ha3.frozen 3
  have af4 := ha3.frozen 4
  have af5 := ha3.frozen 5
  have af6 := ha3.frozen 6
  have af7 := ha3.frozen 7
  have af8 := ha3.frozen 8
  have al := ha3.lt
  obtain ⟨W4, hW4⟩ : ∃ z, setMt W3 g0 (.slice B0 ms.live.length e0) (.slice B1 ms.snaps.length e1) (.slice B2 ms.tok.img.length e2) ms.tok = z := ⟨_, rfl⟩
  rw [hW4] at hbx hmo4 hb4 hc4 hx4
  unfold setMt setTok at hW4
  have HBX4 := Lib.hid hbx
  have HMO4 := Lib.hid hmo4
  have HB4 := Lib.hid hb4
  have HC4 := Lib.hid hc4
  have HSZ := Lib.hid hsz
  have HS2 := Lib.hid (short_any _ m' W4 hx4 HW'.out)
  have c0 := hc4.cell 0
  have c1 := hc4.cell 1
  have c2 := hc4.cell 2
  have c3 := hc4.cell 3
  have c4 := hc4.cell 4
  have c5 := hc4.cell 5
  have c6 := hc4.cell 6
  have c7 := hc4.cell 7
  have c8 := hc4.cell 8
  simp only [mtC, List.getElem?_toArray, List.getElem?_cons_zero, List.getElem?_cons_succ] at c0 c1 c2 c3 c4 c5 c6 c7 c8
  have cl := hc4.lt
  clear hbx hmo4 hb4 hc4 hx4 hsz hmo hb3 hk4 ha3 hms HS HB2 HA2 HC2 HX0
  unfold mtC at HS2 ⊢
  dsimp only
  go_wp2_with fail
  try rw [hW4]
  clear hW4 a0 a1 a2 a3 a4 a5 a6 a7 a8 af0 af1 af2 af3 af4 af5 af6 af7 af8 al c0 c1 c2 c3 c4 c5 c6 c7 c8 cl
  refine HS2.out.mono ?_
  rintro e W5 ⟨v5, rfl, hno, hb5⟩
  obtain ⟨C0, C1, C2, f0, f1, f2, rfl⟩ := hno.open_
  have hc5 := HC4.out.below hb5
  obtain ⟨hby, hno6⟩ := box_mt hc5 hno
  have hb6 := setMt_below (v0 := .slice C0 (mShort m').live.length f0) (v1 := .slice C1 (mShort m').snaps.length f1) (v2 := .slice C2 (mShort m').tok.img.length f2) (t := (mShort m').tok) (below_step HB4.out hb5) HWL.out
  have hk6 := setMt_kp (v0 := .slice C0 (mShort m').live.length f0) (v1 := .slice C1 (mShort m').snaps.length f1) (v2 := .slice C2 (mShort m').tok.img.length f2) (t := (mShort m').tok) hc5
  have hmo6 := (HMO4.out.below hb5).kp hk6 (by decide) (by decide)
  have hbx6 : Blk (setMt W5 g1 (.slice C0 (mShort m').live.length f0) (.slice C1 (mShort m').snaps.length f1) (.slice C2 (mShort m').tok.img.length f2) (mShort m').tok) g0 30 (mtC B0 B1 B2 e0 e1 e2 ms) := by
    have hne : g0 ≠ g1 := by have := HG1.out; omega
    have h3 := HBX4.out.below hb5
    unfold setMt setTok
    exact h3.of_block (by simp only [set_oth _ _ _ _ _ hne])
  have hsz := short_sz m'
  obtain ⟨mt, hmt⟩ : ∃ z, mShort m' = z := ⟨_, rfl⟩
  rw [hmt] at hby hno6 hb6 hmo6 hbx6 hsz hno ⊢
  have c0 := hc5.cell 0
  have c1 := hc5.cell 1
  have c2 := hc5.cell 2
  have c3 := hc5.cell 3
  have c4 := hc5.cell 4
  have c5 := hc5.cell 5
  have c6 := hc5.cell 6
  have c7 := hc5.cell 7
  have c8 := hc5.cell 8
  simp only [mtC, List.getElem?_toArray, List.getElem?_cons_zero, List.getElem?_cons_succ] at c0 c1 c2 c3 c4 c5 c6 c7 c8
  have cf0 := hc5.frozen 0
  have cf1 := hc5.frozen 1
  have cf2 := hc5.frozen 2
  have cf3 := hc5.frozen 3
  have cf4 := hc5.frozen 4
  have cf5 := hc5.frozen 5
  have cf6 := hc5.frozen 6
  have cf7 := hc5.frozen 7
  have cf8 := hc5.frozen 8
  have cl := hc5.lt
  obtain ⟨W9, hW9⟩ : ∃ z, setMt W5 g1 (.slice C0 mt.live.length f0) (.slice C1 mt.snaps.length f1) (.slice C2 mt.tok.img.length f2) mt.tok = z := ⟨_, rfl⟩
  rw [hW9] at hby hno6 hb6 hmo6 hbx6
  unfold setMt setTok at hW9
  have HBX9 := Lib.hid hbx6
  have HBY9 := Lib.hid hby
  have HMO9 := Lib.hid hmo6
  have HNO9 := Lib.hid hno6
  have HB9 := Lib.hid hb6
  have HSZ2 := Lib.hid hsz
  have HEN := Lib.hid (HH.out.enc _ ms W9 hmo6.at_ HSZ.out)
  have a0 := hbx6.cell 0
  have a1 := hbx6.cell 1
  have a2 := hbx6.cell 2
  have a3 := hbx6.cell 3
  have a4 := hbx6.cell 4
  have a5 := hbx6.cell 5
  have a6 := hbx6.cell 6
  have a7 := hbx6.cell 7
  have a8 := hbx6.cell 8
  simp only [mtC, List.getElem?_toArray, List.getElem?_cons_zero, List.getElem?_cons_succ] at a0 a1 a2 a3 a4 a5 a6 a7 a8
  have al := hbx6.lt
  clear hby hno6 hb6 hmo6 hbx6 hsz hno hb5 hk6 hc5 hmt HS2 HB4 HC4 HBX4 HMO4
  unfold mtC at HEN ⊢
  dsimp only
  go_wp2_with fail
  try rw [hW9]
  clear hW9 c0 c1 c2 c3 c4 c5 c6 c7 c8 cf0 cf1 cf2 cf3 cf4 cf5 cf6 cf7 cf8 cl a0 a1 a2 a3 a4 a5 a6 a7 a8 al
  refine HEN.out.mono ?_
  rintro e WA ⟨rfl, hbA⟩
  obtain ⟨S, hS⟩ : ∃ z, str (mEnc ms).1 = z := ⟨_, rfl⟩
  obtain ⟨er, her⟩ : ∃ z, (mEnc ms).2 = z := ⟨_, rfl⟩
  have hbxA := HBX9.out.below hbA
  have hmoA := HMO9.out.below hbA
  have HBYA := Lib.hid (HBY9.out.below hbA)
  have HNOA := Lib.hid (HNO9.out.below hbA)
  have HBA := Lib.hid (below_step HB9.out hbA)
  have HER := Lib.hid (menc_any _ ms WA hmoA.at_ HSZ.out)
  have HBXA := Lib.hid hbxA
  have HMOA := Lib.hid hmoA
  have a0 := hbxA.cell 0
  have a1 := hbxA.cell 1
  have a2 := hbxA.cell 2
  have a3 := hbxA.cell 3
  have a4 := hbxA.cell 4
  have a5 := hbxA.cell 5
  have a6 := hbxA.cell 6
  have a7 := hbxA.cell 7
  have a8 := hbxA.cell 8
  simp only [mtC, List.getElem?_toArray, List.getElem?_cons_zero, List.getElem?_cons_succ] at a0 a1 a2 a3 a4 a5 a6 a7 a8
  have al := hbxA.lt
  clear hbxA hmoA hbA HEN HBX9 HBY9 HMO9 HNO9 HB9
  unfold mtC at HER
  rw [hS, her]
  have HSS := Lib.hid hS
  have HEE := Lib.hid her
  clear hS her
  dsimp only
  go_wp2_with fail
  clear a0 a1 a2 a3 a4 a5 a6 a7 a8 al
  refine HER.out.mono ?_
  rintro e WB ⟨rfl, hbB⟩
  rw [HSS.out, HEE.out]
  have HBX := Lib.hid (HBXA.out.below hbB)
  have HMO := Lib.hid (HMOA.out.below hbB)
  have HBY := Lib.hid (HBYA.out.below hbB)
  have HNO := Lib.hid (HNOA.out.below hbB)
  have HBB := Lib.hid (below_step HBA.out hbB)
  obtain ⟨q, hq⟩ : ∃ q, decide (ms = mt) = q := ⟨_, rfl⟩
  clear hbB HER HBXA HMOA HBYA HNOA HBA HSS HEE
  dsimp only
  go_wp2_with fail
  refine wp_region_inv (by kernel_rfl) [23, 24, 25, 26, 27, 28, 29, 30, 31, 32, 33, 34, 35, 36, 37, 38, 39, 40, 41, 42, 43, 44, 45, 46, 47, 4] (by kernel_rfl) (fun L vs W => Below WB.heap.size WB W ∧ ∀ i, L i = true → i < 26 → WLaG B0 B1 B2 C0 C1 C2 e0 e1 e2 f0 f1 f2 ms mt S er q i (vs i) W) ⟨(Below.refl _ _).drew, fun i hi => by cases hi⟩ ?_ ?_ ?_
  · intro i o L vs ρ W ho hli haft hρ hgd hI
    obtain ⟨hb, hG'⟩ := hI
    have hG : ∀ j, L j = true → WLaG B0 B1 B2 C0 C1 C2 e0 e1 e2 f0 f1 f2 ms mt S er q j (vs j) W := fun j hj => by
      by_cases h51 : j < 26
      · exact hG' j hj h51
      · match j, h51 with
        | j + 26, _ => exact trivial
    have hi51 : i < 26 := (Array.getElem?_eq_some_iff.1 ho).1
    have hc := hρ.const
    have hfn := hρ.fn
    have next : ∀ v W', Below W.heap.size W W' → WLaG B0 B1 B2 C0 C1 C2 e0 e1 e2 f0 f1 f2 ms mt S er q i v W' → Below WB.heap.size WB W' ∧ ∀ j, updB L i j = true → j < 26 → WLaG B0 B1 B2 C0 C1 C2 e0 e1 e2 f0 f1 f2 ms mt S er q j (updV vs i v j) W' := fun v W' h1 h2 => by
      refine ⟨below_step hb h1, fun j hj h51 => ?_⟩
      by_cases hji : j = i
      · subst hji
        simpa [updV] using h2
      · simp only [updB, if_neg hji] at hj
        simpa [updV, hji] using WLaG_mono B0 B1 B2 C0 C1 C2 e0 e1 e2 f0 f1 f2 ms mt S er q j _ W W' h51 (hG' j hj h51) h1
    have hqX := HBX.out.below hb
    have qx0 := hqX.cell 0
    have qx1 := hqX.cell 1
    have qx2 := hqX.cell 2
    have qx3 := hqX.cell 3
    have qx4 := hqX.cell 4
    have qx5 := hqX.cell 5
    have qx6 := hqX.cell 6
    have qx7 := hqX.cell 7
    have qx8 := hqX.cell 8
    have hlqX := hqX.lt
    simp only [mtC, List.getElem?_toArray, List.getElem?_cons_zero, List.getElem?_cons_succ] at qx0 qx1 qx2 qx3 qx4 qx5 qx6 qx7 qx8
    have hrX := HBY.out.below hb
    have rx0 := hrX.cell 0
    have rx1 := hrX.cell 1
    have rx2 := hrX.cell 2
    have rx3 := hrX.cell 3
    have rx4 := hrX.cell 4
    have rx5 := hrX.cell 5
    have rx6 := hrX.cell 6
    have rx7 := hrX.cell 7
    have rx8 := hrX.cell 8
    have hlrX := hrX.lt
    simp only [mtC, List.getElem?_toArray, List.getElem?_cons_zero, List.getElem?_cons_succ] at rx0 rx1 rx2 rx3 rx4 rx5 rx6 rx7 rx8
    rcases i with _ | _ | _ | _ | _ | _ | _ | _ | _ | _ | _ | _ | _ | _ | _ | _ | _ | _ | _ | _ | _ | _ | _ | _ | _ | _ | i
    all_goals (first | omega | skip)
    all_goals simp only [List.getElem?_toArray, List.getElem?_cons_zero, List.getElem?_cons_succ, Option.some.injEq] at ho
    all_goals subst ho
    · have o5 : ρ (.tmp 5) = .string S := hρ.out 5 rfl
      exact stepTo_value (w' := W) (by unfold execOp; simp only [o5, hc]; go_simp) (next _ _ (Below.refl _ _) rfl)
    · have o7 : ρ (.tmp 7) = .string S := hρ.out 7 rfl
      exact stepTo_value (w' := W) (by unfold execOp; simp only [o7, hc]; go_simp) (next _ _ (Below.refl _ _) rfl)
    · have g23 : WLaG B0 B1 B2 C0 C1 C2 e0 e1 e2 f0 f1 f2 ms mt S er q 0 (vs 0) W := hG 0 (haft 0 (by kernel_rfl))
      have s23 : ρ (.tmp 23) = .string S := (hρ.at_ 23 0 rfl).trans g23
      have g24 : WLaG B0 B1 B2 C0 C1 C2 e0 e1 e2 f0 f1 f2 ms mt S er q 1 (vs 1) W := hG 1 (haft 1 (by kernel_rfl))
      have s24 : ρ (.tmp 24) = .string S := (hρ.at_ 24 1 rfl).trans g24
      exact stepTo_value (w' := W) (by unfold execOp; simp only [s23, s24, hc]; go_simp) (next _ _ (Below.refl _ _) rfl)
    · have g25 : WLaG B0 B1 B2 C0 C1 C2 e0 e1 e2 f0 f1 f2 ms mt S er q 2 (vs 2) W := hG 2 (haft 2 (by kernel_rfl))
      have s25 : ρ (.tmp 25) = .bool true := (hρ.at_ 25 2 rfl).trans g25
      exact stepTo_value (w' := W) (by unfold execOp; simp only [s25, hc]; go_simp) (next _ _ (Below.refl _ _) rfl)
    · have o6 : ρ (.tmp 6) = .int .i64 er := hρ.out 6 rfl
      exact stepTo_value (w' := W) (by unfold execOp; simp only [o6, hc]; go_simp) (next _ _ (Below.refl _ _) rfl)
    · have o8 : ρ (.tmp 8) = .int .i64 er := hρ.out 8 rfl
      exact stepTo_value (w' := W) (by unfold execOp; simp only [o8, hc]; go_simp) (next _ _ (Below.refl _ _) rfl)
    · have g27 : WLaG B0 B1 B2 C0 C1 C2 e0 e1 e2 f0 f1 f2 ms mt S er q 4 (vs 4) W := hG 4 (haft 4 (by kernel_rfl))
      have s27 : ρ (.tmp 27) = .int .i64 er := (hρ.at_ 27 4 rfl).trans g27
      have g28 : WLaG B0 B1 B2 C0 C1 C2 e0 e1 e2 f0 f1 f2 ms mt S er q 5 (vs 5) W := hG 5 (haft 5 (by kernel_rfl))
      have s28 : ρ (.tmp 28) = .int .i64 er := (hρ.at_ 28 5 rfl).trans g28
      exact stepTo_value (w' := W) (by unfold execOp; simp only [s27, s28, hc]; go_simp) (next _ _ (Below.refl _ _) rfl)
    · have g26 : WLaG B0 B1 B2 C0 C1 C2 e0 e1 e2 f0 f1 f2 ms mt S er q 3 (vs 3) W := hG 3 (haft 3 (by kernel_rfl))
      have s26 : ρ (.tmp 26) = .bool true := (hρ.at_ 26 3 rfl).trans g26
      have g29 : WLaG B0 B1 B2 C0 C1 C2 e0 e1 e2 f0 f1 f2 ms mt S er q 6 (vs 6) W := hG 6 (haft 6 (by kernel_rfl))
      have s29 : ρ (.tmp 29) = .bool true := (hρ.at_ 29 6 rfl).trans g29
      exact stepTo_value (w' := W) (by unfold execOp; simp only [s26, s29, hc]; go_simp) (next _ _ (Below.refl _ _) rfl)
    · have g30 : WLaG B0 B1 B2 C0 C1 C2 e0 e1 e2 f0 f1 f2 ms mt S er q 7 (vs 7) W := hG 7 (haft 7 (by kernel_rfl))
      have s30 : ρ (.tmp 30) = .bool true := (hρ.at_ 30 7 rfl).trans g30
      exact stepTo_value (w' := W) (by unfold execOp; simp only [s30, hc]; go_simp) (next _ _ (Below.refl _ _) rfl)
    · have o2 : ρ (.tmp 2) = .pointer (some ⟨g0, 0, none⟩) := hρ.out 2 rfl
      exact stepTo_value (w' := W) (by unfold execOp; simp only [o2, hc]; go_simp) (next _ _ (Below.refl _ _) rfl)
    · have o3 : ρ (.tmp 3) = .pointer (some ⟨g1, 0, none⟩) := hρ.out 3 rfl
      exact stepTo_value (w' := W) (by unfold execOp; simp only [o3, hc]; go_simp) (next _ _ (Below.refl _ _) rfl)
    · have g32 : WLaG B0 B1 B2 C0 C1 C2 e0 e1 e2 f0 f1 f2 ms mt S er q 9 (vs 9) W := hG 9 (haft 9 (by kernel_rfl))
      have s32 : ρ (.tmp 32) = .agg #[.slice B0 ms.live.length e0, .slice B1 ms.snaps.length e1, .int .u64 (ms.tok.base.1 : Int), .int .u64 (ms.tok.base.2 : Int), .int .u64 (ms.tok.target.1 : Int), .int .u64 (ms.tok.target.2 : Int), .int .i64 ms.tok.next, .int .i64 ms.tok.all, .slice B2 ms.tok.img.length e2] := (hρ.at_ 32 9 rfl).trans g32
      have g33 : WLaG B0 B1 B2 C0 C1 C2 e0 e1 e2 f0 f1 f2 ms mt S er q 10 (vs 10) W := hG 10 (haft 10 (by kernel_rfl))
      have s33 : ρ (.tmp 33) = .agg #[.slice C0 mt.live.length f0, .slice C1 mt.snaps.length f1, .int .u64 (mt.tok.base.1 : Int), .int .u64 (mt.tok.base.2 : Int), .int .u64 (mt.tok.target.1 : Int), .int .u64 (mt.tok.target.2 : Int), .int .i64 mt.tok.next, .int .i64 mt.tok.all, .slice C2 mt.tok.img.length f2] := (hρ.at_ 33 10 rfl).trans g33
      refine stepTo_enter (f := 15) (args := #[.agg #[.slice B0 ms.live.length e0, .slice B1 ms.snaps.length e1, .int .u64 (ms.tok.base.1 : Int), .int .u64 (ms.tok.base.2 : Int), .int .u64 (ms.tok.target.1 : Int), .int .u64 (ms.tok.target.2 : Int), .int .i64 ms.tok.next, .int .i64 ms.tok.all, .slice B2 ms.tok.img.length e2], .agg #[.slice C0 mt.live.length f0, .slice C1 mt.snaps.length f1, .int .u64 (mt.tok.base.1 : Int), .int .u64 (mt.tok.base.2 : Int), .int .u64 (mt.tok.target.1 : Int), .int .u64 (mt.tok.target.2 : Int), .int .i64 mt.tok.next, .int .i64 mt.tok.all, .slice C2 mt.tok.img.length f2]]) (w' := W) (by unfold execOp; simp only [hfn, s32, s33]; go_simp) ((HH.out.same _ _ ms mt W (HMO.out.at_.below hb) (HNO.out.at_.below hb) HSZ.out HSZ2.out).mono ?_)
      rintro x W' ⟨rfl, hb'⟩
      exact ⟨_, rfl, next _ _ hb' (congrArg Value.bool hq)⟩
    · have o2 : ρ (.tmp 2) = .pointer (some ⟨g0, 0, none⟩) := hρ.out 2 rfl
      exact stepTo_value (w' := W) (by unfold execOp; simp only [o2, hc]; go_simp) (next _ _ (Below.refl _ _) rfl)
    · have o3 : ρ (.tmp 3) = .pointer (some ⟨g1, 0, none⟩) := hρ.out 3 rfl
      exact stepTo_value (w' := W) (by unfold execOp; simp only [o3, hc]; go_simp) (next _ _ (Below.refl _ _) rfl)
    · have g35 : WLaG B0 B1 B2 C0 C1 C2 e0 e1 e2 f0 f1 f2 ms mt S er q 12 (vs 12) W := hG 12 (haft 12 (by kernel_rfl))
      have s35 : ρ (.tmp 35) = .agg #[.slice B0 ms.live.length e0, .slice B1 ms.snaps.length e1, .int .u64 (ms.tok.base.1 : Int), .int .u64 (ms.tok.base.2 : Int), .int .u64 (ms.tok.target.1 : Int), .int .u64 (ms.tok.target.2 : Int), .int .i64 ms.tok.next, .int .i64 ms.tok.all, .slice B2 ms.tok.img.length e2] := (hρ.at_ 35 12 rfl).trans g35
      have g36 : WLaG B0 B1 B2 C0 C1 C2 e0 e1 e2 f0 f1 f2 ms mt S er q 13 (vs 13) W := hG 13 (haft 13 (by kernel_rfl))
      have s36 : ρ (.tmp 36) = .agg #[.slice C0 mt.live.length f0, .slice C1 mt.snaps.length f1, .int .u64 (mt.tok.base.1 : Int), .int .u64 (mt.tok.base.2 : Int), .int .u64 (mt.tok.target.1 : Int), .int .u64 (mt.tok.target.2 : Int), .int .i64 mt.tok.next, .int .i64 mt.tok.all, .slice C2 mt.tok.img.length f2] := (hρ.at_ 36 13 rfl).trans g36
      refine stepTo_enter (f := 16) (args := #[.agg #[.slice B0 ms.live.length e0, .slice B1 ms.snaps.length e1, .int .u64 (ms.tok.base.1 : Int), .int .u64 (ms.tok.base.2 : Int), .int .u64 (ms.tok.target.1 : Int), .int .u64 (ms.tok.target.2 : Int), .int .i64 ms.tok.next, .int .i64 ms.tok.all, .slice B2 ms.tok.img.length e2], .agg #[.slice C0 mt.live.length f0, .slice C1 mt.snaps.length f1, .int .u64 (mt.tok.base.1 : Int), .int .u64 (mt.tok.base.2 : Int), .int .u64 (mt.tok.target.1 : Int), .int .u64 (mt.tok.target.2 : Int), .int .i64 mt.tok.next, .int .i64 mt.tok.all, .slice C2 mt.tok.img.length f2]]) (w' := W) (by unfold execOp; simp only [hfn, s35, s36]; go_simp) ((rsame_any _ _ ms mt W (HMO.out.at_.below hb) (HNO.out.at_.below hb) HSZ.out HSZ2.out).mono ?_)
      rintro x W' ⟨rfl, hb'⟩
      exact ⟨_, rfl, next _ _ hb' (congrArg Value.bool hq)⟩
    · have g34 : WLaG B0 B1 B2 C0 C1 C2 e0 e1 e2 f0 f1 f2 ms mt S er q 11 (vs 11) W := hG 11 (haft 11 (by kernel_rfl))
      have s34 : ρ (.tmp 34) = .bool q := (hρ.at_ 34 11 rfl).trans g34
      have g37 : WLaG B0 B1 B2 C0 C1 C2 e0 e1 e2 f0 f1 f2 ms mt S er q 14 (vs 14) W := hG 14 (haft 14 (by kernel_rfl))
      have s37 : ρ (.tmp 37) = .bool q := (hρ.at_ 37 14 rfl).trans g37
      exact stepTo_value (w' := W) (by unfold execOp; simp only [s34, s37, hc]; go_simp) (next _ _ (Below.refl _ _) rfl)
    · have g31 : WLaG B0 B1 B2 C0 C1 C2 e0 e1 e2 f0 f1 f2 ms mt S er q 8 (vs 8) W := hG 8 (haft 8 (by kernel_rfl))
      have s31 : ρ (.tmp 31) = .bool true := (hρ.at_ 31 8 rfl).trans g31
      have g38 : WLaG B0 B1 B2 C0 C1 C2 e0 e1 e2 f0 f1 f2 ms mt S er q 15 (vs 15) W := hG 15 (haft 15 (by kernel_rfl))
      have s38 : ρ (.tmp 38) = .bool true := (hρ.at_ 38 15 rfl).trans g38
      exact stepTo_value (w' := W) (by unfold execOp; simp only [s31, s38, hc]; go_simp) (next _ _ (Below.refl _ _) rfl)
    · have g39 : WLaG B0 B1 B2 C0 C1 C2 e0 e1 e2 f0 f1 f2 ms mt S er q 16 (vs 16) W := hG 16 (haft 16 (by kernel_rfl))
      have s39 : ρ (.tmp 39) = .bool true := (hρ.at_ 39 16 rfl).trans g39
      exact stepTo_value (w' := W) (by unfold execOp; simp only [s39, hc]; go_simp) (next _ _ (Below.refl _ _) rfl)
    · have o2 : ρ (.tmp 2) = .pointer (some ⟨g0, 0, none⟩) := hρ.out 2 rfl
      exact stepTo_value (w' := W) (by unfold execOp; simp only [o2, hc]; go_simp) (next _ _ (Below.refl _ _) rfl)
    · have o2 : ρ (.tmp 2) = .pointer (some ⟨g0, 0, none⟩) := hρ.out 2 rfl
      exact stepTo_value (w' := W) (by unfold execOp; simp only [o2, hc]; go_simp) (next _ _ (Below.refl _ _) rfl)
    · have g41 : WLaG B0 B1 B2 C0 C1 C2 e0 e1 e2 f0 f1 f2 ms mt S er q 18 (vs 18) W := hG 18 (haft 18 (by kernel_rfl))
      have s41 : ρ (.tmp 41) = .agg #[.slice B0 ms.live.length e0, .slice B1 ms.snaps.length e1, .int .u64 (ms.tok.base.1 : Int), .int .u64 (ms.tok.base.2 : Int), .int .u64 (ms.tok.target.1 : Int), .int .u64 (ms.tok.target.2 : Int), .int .i64 ms.tok.next, .int .i64 ms.tok.all, .slice B2 ms.tok.img.length e2] := (hρ.at_ 41 18 rfl).trans g41
      have g42 : WLaG B0 B1 B2 C0 C1 C2 e0 e1 e2 f0 f1 f2 ms mt S er q 19 (vs 19) W := hG 19 (haft 19 (by kernel_rfl))
      have s42 : ρ (.tmp 42) = .agg #[.slice B0 ms.live.length e0, .slice B1 ms.snaps.length e1, .int .u64 (ms.tok.base.1 : Int), .int .u64 (ms.tok.base.2 : Int), .int .u64 (ms.tok.target.1 : Int), .int .u64 (ms.tok.target.2 : Int), .int .i64 ms.tok.next, .int .i64 ms.tok.all, .slice B2 ms.tok.img.length e2] := (hρ.at_ 42 19 rfl).trans g42
      refine stepTo_enter (f := 15) (args := #[.agg #[.slice B0 ms.live.length e0, .slice B1 ms.snaps.length e1, .int .u64 (ms.tok.base.1 : Int), .int .u64 (ms.tok.base.2 : Int), .int .u64 (ms.tok.target.1 : Int), .int .u64 (ms.tok.target.2 : Int), .int .i64 ms.tok.next, .int .i64 ms.tok.all, .slice B2 ms.tok.img.length e2], .agg #[.slice B0 ms.live.length e0, .slice B1 ms.snaps.length e1, .int .u64 (ms.tok.base.1 : Int), .int .u64 (ms.tok.base.2 : Int), .int .u64 (ms.tok.target.1 : Int), .int .u64 (ms.tok.target.2 : Int), .int .i64 ms.tok.next, .int .i64 ms.tok.all, .slice B2 ms.tok.img.length e2]]) (w' := W) (by unfold execOp; simp only [hfn, s41, s42]; go_simp) ((HH.out.same _ _ ms ms W (HMO.out.at_.below hb) (HMO.out.at_.below hb) HSZ.out HSZ.out).mono ?_)
      rintro x W' ⟨rfl, hb'⟩
      exact ⟨_, rfl, next _ _ hb' (congrArg Value.bool (decide_eq_true rfl))⟩
    · have g40 : WLaG B0 B1 B2 C0 C1 C2 e0 e1 e2 f0 f1 f2 ms mt S er q 17 (vs 17) W := hG 17 (haft 17 (by kernel_rfl))
      have s40 : ρ (.tmp 40) = .bool true := (hρ.at_ 40 17 rfl).trans g40
      have g43 : WLaG B0 B1 B2 C0 C1 C2 e0 e1 e2 f0 f1 f2 ms mt S er q 20 (vs 20) W := hG 20 (haft 20 (by kernel_rfl))
      have s43 : ρ (.tmp 43) = .bool true := (hρ.at_ 43 20 rfl).trans g43
      exact stepTo_value (w' := W) (by unfold execOp; simp only [s40, s43, hc]; go_simp) (next _ _ (Below.refl _ _) rfl)
    · have g44 : WLaG B0 B1 B2 C0 C1 C2 e0 e1 e2 f0 f1 f2 ms mt S er q 21 (vs 21) W := hG 21 (haft 21 (by kernel_rfl))
      have s44 : ρ (.tmp 44) = .bool true := (hρ.at_ 44 21 rfl).trans g44
      exact stepTo_value (w' := W) (by unfold execOp; simp only [s44, hc]; go_simp) (next _ _ (Below.refl _ _) rfl)
    · refine stepTo_enter (f := 12) (args := #[]) (w' := W) (by unfold execOp; simp only [hfn, ]; go_simp) ((works_any HH.out W).mono ?_)
      rintro x W' ⟨rfl, hb'⟩
      exact ⟨_, rfl, next _ _ hb' rfl⟩
    · have g45 : WLaG B0 B1 B2 C0 C1 C2 e0 e1 e2 f0 f1 f2 ms mt S er q 22 (vs 22) W := hG 22 (haft 22 (by kernel_rfl))
      have s45 : ρ (.tmp 45) = .bool true := (hρ.at_ 45 22 rfl).trans g45
      have g46 : WLaG B0 B1 B2 C0 C1 C2 e0 e1 e2 f0 f1 f2 ms mt S er q 23 (vs 23) W := hG 23 (haft 23 (by kernel_rfl))
      have s46 : ρ (.tmp 46) = .bool true := (hρ.at_ 46 23 rfl).trans g46
      exact stepTo_value (w' := W) (by unfold execOp; simp only [s45, s46, hc]; go_simp) (next _ _ (Below.refl _ _) rfl)
    · have g47 : WLaG B0 B1 B2 C0 C1 C2 e0 e1 e2 f0 f1 f2 ms mt S er q 24 (vs 24) W := hG 24 (haft 24 (by kernel_rfl))
      have s47 : ρ (.tmp 47) = .bool true := (hρ.at_ 47 24 rfl).trans g47
      exact stepTo_value (w' := W) (by unfold execOp; simp only [s47, hc]; go_simp) (next _ _ (Below.refl _ _) rfl)
  · intro i o L vs W j want ho hli haft hg hv hI
    obtain ⟨hb, hG'⟩ := hI
    have hG : ∀ j, L j = true → WLaG B0 B1 B2 C0 C1 C2 e0 e1 e2 f0 f1 f2 ms mt S er q j (vs j) W := fun j hj => by
      by_cases h51 : j < 26
      · exact hG' j hj h51
      · match j, h51 with
        | j + 26, _ => exact trivial
    have hi51 : i < 26 := (Array.getElem?_eq_some_iff.1 ho).1
    rcases i with _ | _ | _ | _ | _ | _ | _ | _ | _ | _ | _ | _ | _ | _ | _ | _ | _ | _ | _ | _ | _ | _ | _ | _ | _ | _ | i
    all_goals (first | omega | skip)
    all_goals simp only [List.getElem?_toArray, List.getElem?_cons_zero, List.getElem?_cons_succ, Option.some.injEq] at ho
    all_goals subst ho
    all_goals simp only [reduceCtorEq, Option.some.injEq, Prod.mk.injEq] at hg
    · obtain ⟨rfl, rfl⟩ := hg
      exact (hv (hG 3 (haft 3 (by kernel_rfl)))).elim
    · obtain ⟨rfl, rfl⟩ := hg
      exact (hv (hG 3 (haft 3 (by kernel_rfl)))).elim
    · obtain ⟨rfl, rfl⟩ := hg
      exact (hv (hG 3 (haft 3 (by kernel_rfl)))).elim
    · obtain ⟨rfl, rfl⟩ := hg
      exact (hv (hG 8 (haft 8 (by kernel_rfl)))).elim
    · obtain ⟨rfl, rfl⟩ := hg
      exact (hv (hG 8 (haft 8 (by kernel_rfl)))).elim
    · obtain ⟨rfl, rfl⟩ := hg
      exact (hv (hG 8 (haft 8 (by kernel_rfl)))).elim
    · obtain ⟨rfl, rfl⟩ := hg
      exact (hv (hG 8 (haft 8 (by kernel_rfl)))).elim
    · obtain ⟨rfl, rfl⟩ := hg
      exact (hv (hG 8 (haft 8 (by kernel_rfl)))).elim
    · obtain ⟨rfl, rfl⟩ := hg
      exact (hv (hG 8 (haft 8 (by kernel_rfl)))).elim
    · obtain ⟨rfl, rfl⟩ := hg
      exact (hv (hG 8 (haft 8 (by kernel_rfl)))).elim
    · obtain ⟨rfl, rfl⟩ := hg
      exact (hv (hG 17 (haft 17 (by kernel_rfl)))).elim
    · obtain ⟨rfl, rfl⟩ := hg
      exact (hv (hG 17 (haft 17 (by kernel_rfl)))).elim
    · obtain ⟨rfl, rfl⟩ := hg
      exact (hv (hG 17 (haft 17 (by kernel_rfl)))).elim
    · obtain ⟨rfl, rfl⟩ := hg
      exact (hv (hG 22 (haft 22 (by kernel_rfl)))).elim
  · intro vs W hI
    have g6 : vs 25 = .bool true := hI.2 25 (by decide) (by decide)
    have hbW := Lib.hid (below_step HBB.out hI.1)
    clear hI
    go_wp2_with fail
    exact bodyPost_slot 25 rfl (by decide +kernel) (by kernel_rfl) rfl g6 ⟨rfl, hbW.out⟩
end Go.Proofs.Ytklmgdiaianlbaa.mt

/- The bytes of any table, and whether it is the same as another one, are as the document says. -/
namespace Go.Proofs.Ytklmgdiaianlbaa.metaLays
open Go.ChangeShapes Go.WideShapes Go.ChangeAt Go.RowKit
open Go.ChangeMaps (open_string shut_string)
open Go.Proofs.Ytklmgdiaianlbaa.ib Go.Proofs.Ytklmgdiaianlbaa.mt

theorem own : ownKnob Try.prog.godebug = none := by kernel_rfl
theorem laidOut : laidOutB Try.prog = true := by kernel_rfl

theorem witness (os : Os) {H : Type} (enc : TypeId × Value → H) :
    (OpenSpec.ofChange Rows.metaLaysSpec).preRow enc Try.prog Try.f4 Rows.metaLaysRow.domain false Rows.metaLaysRow.laid ((World.holding Try.prog os ⟨#[], #[], []⟩).forCall (fun _ _ => 0) ⟨#[], #[.agg #[.slice none 0 0, .slice none 0 0, .int .u64 0, .int .u64 0, .int .u64 0, .int .u64 0, .int .i64 0, .int .i64 0, .slice none 0 0], .agg #[.slice none 0 0, .slice none 0 0, .int .u64 0, .int .u64 0, .int .u64 0, .int .u64 0, .int .i64 0, .int .i64 0, .slice none 0 0]], []⟩).memory #[.agg #[.slice none 0 0, .slice none 0 0, .int .u64 0, .int .u64 0, .int .u64 0, .int .u64 0, .int .i64 0, .int .i64 0, .slice none 0 0], .agg #[.slice none 0 0, .slice none 0 0, .int .u64 0, .int .u64 0, .int .u64 0, .int .u64 0, .int .i64 0, .int .i64 0, .slice none 0 0]] := by
  have hw : (DataW.whole enc Try.prog ((World.holding Try.prog os ⟨#[], #[], []⟩).forCall (fun _ _ => 0) ⟨#[], #[.agg #[.slice none 0 0, .slice none 0 0, .int .u64 0, .int .u64 0, .int .u64 0, .int .u64 0, .int .i64 0, .int .i64 0, .slice none 0 0], .agg #[.slice none 0 0, .slice none 0 0, .int .u64 0, .int .u64 0, .int .u64 0, .int .u64 0, .int .i64 0, .int .i64 0, .slice none 0 0]], []⟩).memory Try.f4.params.toList (OpenSpec.ofChange Rows.metaLaysSpec).vars false (#[.agg #[.slice none 0 0, .slice none 0 0, .int .u64 0, .int .u64 0, .int .u64 0, .int .u64 0, .int .i64 0, .int .i64 0, .slice none 0 0], .agg #[.slice none 0 0, .slice none 0 0, .int .u64 0, .int .u64 0, .int .u64 0, .int .u64 0, .int .i64 0, .int .i64 0, .slice none 0 0]] : Array Value).toList 8).map (fun x => (x.1, x.2.1)) =
      some ([.agg [.nil, .nil, .agg [.agg [.lit (.int .u64 0), .lit (.int .u64 0)], .agg [.lit (.int .u64 0), .lit (.int .u64 0)], .lit (.int .i64 0), .lit (.int .i64 0), .nil]], .agg [.nil, .nil, .agg [.agg [.lit (.int .u64 0), .lit (.int .u64 0)], .agg [.lit (.int .u64 0), .lit (.int .u64 0)], .lit (.int .i64 0), .lit (.int .i64 0), .nil]]], []) := by kernel_rfl
  obtain ⟨⟨x1, x2, x3⟩, hx, hx1⟩ := Option.map_eq_some_iff.1 hw
  simp only [Prod.mk.injEq] at hx1
  obtain ⟨rfl, rfl⟩ := hx1
  exact OpenSpec.preRow_of_cond 8 hx (by kernel_rfl) (fun k hk => by cases hk) (by kernel_rfl) (laidMetH_nil _ _)

set_option maxRecDepth 100000 in
set_option maxHeartbeats 1600000 in
theorem lifted (os : Os) (started : os.Started) (H : Type) (enc : TypeId × Value → H) (F : Stop.Interp) :
    ReturnsInHanded {} Try.checked os 4 .any ((OpenSpec.ofChange Rows.metaLaysSpec).preRow enc Try.prog Try.f4 Rows.metaLaysRow.domain false Rows.metaLaysRow.laid) (((OpenSpec.ofChange Rows.metaLaysSpec).at F).post enc Try.prog Try.f4 false true false false) := by
  refine returnsInHanded_of_row (C := Try.checked) (s := OpenSpec.ofChange Rows.metaLaysSpec) own started (by kernel_rfl) Try.func4
    (witness_row_at (enc := enc) (C := Try.checked) false (World.holding Try.prog os ⟨#[], #[], []⟩) #[.agg #[.slice none 0 0, .slice none 0 0, .int .u64 0, .int .u64 0, .int .u64 0, .int .u64 0, .int .i64 0, .int .i64 0, .slice none 0 0], .agg #[.slice none 0 0, .slice none 0 0, .int .u64 0, .int .u64 0, .int .u64 0, .int .u64 0, .int .i64 0, .int .i64 0, .slice none 0 0]] rfl (by kernel_rfl) (by kernel_rfl) (by kernel_rfl) (witness os enc)) ?_
  intro W base args ds gs before hval0 hW _ _ hsz0 hL _ _
  have hval : ∀ (j : Nat) t v, Try.f4.params[j]? = some t → args[j]? = some v → Value.okWide Try.prog W .any base t v := hval0
  have hW' := hW
  obtain ⟨p, q, hA0, hV, rfl, hfz, hnd⟩ := hW
  have hA : DataW.TrodAll enc Try.prog W 0 (fun _ => true) true Try.f4.params.toList args.toList ds p := hA0
  rw [Try.params4] at hA hval
  obtain ⟨v0, vs0, d0, ds0, p0, q0, hargs, rfl, rfl, h0, r0⟩ := trodAll_cons hA
  obtain ⟨v1, vs1, d1, ds1, p1, q1, rfl, rfl, rfl, h1, r1⟩ := trodAll_cons r0
  obtain ⟨rfl, rfl, rfl⟩ := trodAll_nil r1
  obtain rfl : args = #[v0, v1] := by cases args; simp_all
  obtain ⟨rfl, rfl⟩ := trodVars_none hV
  have k0 := h0
  have lt0 : ∀ x ∈ p0, x.block < W.heap.size := by obtain ⟨m, hm⟩ := k0; exact DataW.trod_lt m _ _ _ hm
  obtain ⟨m0, hM0, hW0⟩ := meta_of (hval 0 30 v0 rfl rfl) k0
  have k1 := h1
  have lt1 : ∀ x ∈ p1, x.block < W.heap.size := by obtain ⟨m, hm⟩ := k1; exact DataW.trod_lt m _ _ _ hm
  obtain ⟨m1, hM1, hW1⟩ := meta_of (hval 1 30 v1 rfl rfl) k1
  clear hA0 hval0 hsz0
  simp only [List.append_nil] at hW'
  refine (metaLays_walk hImpl v0 m0 v1 m1 W hM0 hW0 hM1 hW1).mono fun e W' ⟨he, hg⟩ => ?_
  subst he
  exact ⟨_, rfl, _, _, _, [], _, [], hW', trodAll_mk1 (shut_bool Try.underlying4 _), (trodAll_cons_mk (Below.trod laidOut (by kernel_rfl) (of_decide_eq_true (by kernel_rfl)) k0 hg lt0) (trodAll_cons_mk (Below.trod laidOut (by kernel_rfl) (of_decide_eq_true (by kernel_rfl)) k1 hg lt1) trodAll_mk0)), rfl, hg.frame _, fun h => by cases h⟩

theorem over : Rows.MetaLaysSaid :=
  OpenClaim.holds_of_cond 4 Try.f4 rfl rfl rfl rfl rfl rfl rfl ⟨rfl, rfl, rfl, rfl, rfl⟩ rfl rfl rfl rfl rfl (by kernel_rfl) Try.func4 (by kernel_rfl)
    (of_decide_eq_true (by kernel_rfl)) (by unfold Func.isWrapper; first | (rw [if_pos (by decide +kernel)]; kernel_rfl) | (rw [if_neg (by decide +kernel)]; exact ⟨rfl, rfl⟩))
    (fun os started H enc _ F => by rw [OpenClaim.pre_eq_preRow]; exact lifted os started H enc F)

theorem proved : Rows.MetaLaysSaid :=
  over
#print axioms proved
end Go.Proofs.Ytklmgdiaianlbaa.metaLays


/- A table that may be comes back from its bytes; bytes that are taken are laid again just so. -/
import Derived.Test.YtklmgdiaianlbaaQ15
import Derived.Test.YtklmgdiaianlbaaQ17
import Derived.Test.YtklmgdiaianlbaaQ18
import Derived.Test.YtklmgdiaianlbaaQ19
import Derived.Test.YtklmgdiaianlbaaQ20
import Derived.Test.YtklmgdiaianlbaaQ6
import Derived.Lib.QuietBelow
import Derived.Test.YtklmgdiaianlbaaRows
import Derived.Deep.DeepHandedRow
import Derived.ProofKit
import Derived.OpenShut
import Derived.ShutString
import Derived.SizedLaws
import Derived.ChangeOld
import Derived.Below
import Derived.SliceStrings
set_option linter.unusedVariables false
set_option linter.unusedSimpArgs false
/- A table that is stored where another one lay. -/
namespace Go.Proofs.Ytklmgdiaianlbaa.mt
open Go Go.RowKit Go.Sort Go.Proofs.Ytklmgdiaianlbaa.ib Go.Proofs.Ytklmgdiaianlbaa.wi
set_option maxRecDepth 100000

theorem mhmixed : Try.prog.follows .mixedOrders = true := by kernel_rfl
theorem mtC_eq (A0 A1 A2 : Option Addr) (c0 c1 c2 : Nat) (m : Mt) : mtC A0 A1 A2 c0 c1 c2 m = mC (.slice A0 m.live.length c0) (.slice A1 m.snaps.length c1) (.slice A2 m.tok.img.length c2) m.tok := rfl
/-- What short answers, its slices as they are. -/
theorem MtO.open_ {W : World} {B : Nat} {v : Value} {m : Mt} (h : MtO W B v m) : ∃ A0 A1 A2 c0 c1 c2, v = .agg (mtC A0 A1 A2 c0 c1 c2 m) := by
  obtain ⟨A0, A1, A2, c0, c1, c2, hv, _⟩ := h.at_
  exact ⟨A0, A1, A2, c0, c1, c2, hv⟩
theorem box_mt {W : World} {B g : Nat} {A0 A1 A2 B0 B1 B2 : Option Addr} {c0 c1 c2 d0 d1 d2 : Nat} {m m' : Mt} (hA : Blk W g 30 (mtC B0 B1 B2 d0 d1 d2 m')) (h : MtO W B (.agg (mtC A0 A1 A2 c0 c1 c2 m)) m) :
    Blk (setMt W g (.slice A0 m.live.length c0) (.slice A1 m.snaps.length c1) (.slice A2 m.tok.img.length c2) m.tok) g 30 (mtC A0 A1 A2 c0 c1 c2 m) ∧ MtO (setMt W g (.slice A0 m.live.length c0) (.slice A1 m.snaps.length c1) (.slice A2 m.tok.img.length c2) m.tok) B (.agg (mtC A0 A1 A2 c0 c1 c2 m)) m :=
  ⟨setMt_blk (u0 := .slice B0 m'.live.length d0) (u1 := .slice B1 m'.snaps.length d1) (u2 := .slice B2 m'.tok.img.length d2) (t' := m'.tok) hA, h.kp (setMt_kp hA) (by decide) (by decide)⟩
/-- The nine cells of a table, at every world that is grown. -/
theorem nine {W : World} {g : Nat} {A0 A1 A2 : Option Addr} {c0 c1 c2 : Nat} {m : Mt} (h : Blk W g 30 (mtC A0 A1 A2 c0 c1 c2 m)) (d : Nat) (os : Array Obj) :
    (grow (redrawn W d) os).cell? ⟨g, 0, none⟩ = some (.slice A0 m.live.length c0) ∧ (grow (redrawn W d) os).cell? ⟨g, 1, none⟩ = some (.slice A1 m.snaps.length c1) ∧ (grow (redrawn W d) os).cell? ⟨g, 2, none⟩ = some (.int .u64 (m.tok.base.1 : Int)) ∧ (grow (redrawn W d) os).cell? ⟨g, 3, none⟩ = some (.int .u64 (m.tok.base.2 : Int)) ∧
    (grow (redrawn W d) os).cell? ⟨g, 4, none⟩ = some (.int .u64 (m.tok.target.1 : Int)) ∧ (grow (redrawn W d) os).cell? ⟨g, 5, none⟩ = some (.int .u64 (m.tok.target.2 : Int)) ∧ (grow (redrawn W d) os).cell? ⟨g, 6, none⟩ = some (.int .i64 m.tok.next) ∧ (grow (redrawn W d) os).cell? ⟨g, 7, none⟩ = some (.int .i64 m.tok.all) ∧
    (grow (redrawn W d) os).cell? ⟨g, 8, none⟩ = some (.slice A2 m.tok.img.length c2) := by
  have hb := h.below (below_regrown W d os)
  exact ⟨hb.cell 0, hb.cell 1, hb.cell 2, hb.cell 3, hb.cell 4, hb.cell 5, hb.cell 6, hb.cell 7, hb.cell 8⟩
end Go.Proofs.Ytklmgdiaianlbaa.mt

/- MetaReads' walk, by what the program's functions do. -/
namespace Go.Proofs.Ytklmgdiaianlbaa.mt
open Go Go.RowKit Go.Sort Go.Proofs.Ytklmgdiaianlbaa.ib Go.Proofs.Ytklmgdiaianlbaa.wi Go.Proofs.Ytklmgdiaianlbaa.im
set_option maxRecDepth 100000

theorem ok_sz {m : Mt} (hB : mB m) (h : mCheck m m.live.length 1024 = 0) : mtS m := by
  obtain ⟨h1, h2, h3, h4⟩ := check_ok hB h
  refine ⟨by omega, by omega, fun s hs => ?_, ?_⟩
  · have := (h1.snaps s hs).2.1
    omega
  · have ht := h1.tok
    unfold okTk at ht
    split at ht
    · rw [ht]; decide
    · have := ht.2.2.2.2.1
      omega
theorem sz0 : mtS mt0 := ⟨by decide, by decide, fun s hs => absurd hs (by simp [mt0]), by decide⟩
theorem dec_sz (s : List UInt8) : mtS (mDec s).1 := by
  rcases dec_two s with ⟨m, h⟩ | h
  · rw [h]
    exact ok_sz (dec_B h) (dec_check h)
  · rw [h]
    exact sz0

set_option maxHeartbeats 6400000 in
theorem metaReads_walk (H : MImpl) (s : ByteArray) (hs : s.size ≤ 140737488351232) (w : World) :
    Calls Try.prog 5 #[.string s] w (okTrue w) := by
  have HH := Lib.hid H
  clear H
  obtain ⟨s2, hs2⟩ : ∃ z, s.extract 0 (min (s.size : Int) 2000).toNat = z := ⟨_, rfl⟩
  have hz2 : s2.size ≤ 2000 := by rw [← hs2]; simp; omega
  have HZ2 := Lib.hid hz2
  clear hz2
  go_enter Try.func5, Try.ntmps5
  go_wp2_with fail
  refine (HH.out.dec s2 w (by have := HZ2.out; omega)).mono ?_
  rintro e W1 ⟨v1, rfl, hm1, hb1⟩
  obtain ⟨m, hm⟩ : ∃ z, (mDec (bl s2)).1 = z := ⟨_, rfl⟩
  obtain ⟨er, her⟩ : ∃ z, (mDec (bl s2)).2 = z := ⟨_, rfl⟩
  have hsz := dec_sz (bl s2)
  rw [hm] at hm1 hsz
  rw [her]
  have HM := Lib.hid hm
  have HE := Lib.hid her
  have HSZ := Lib.hid hsz
  obtain ⟨A0, A1, A2, d0, d1, d2, rfl, hml⟩ := hm1
  have hb2 := (Below.refl _ W1).alloc (Nat.le_refl _) (.cells (mtC A0 A1 A2 d0 d1 d2 m) 30)
  have hx2 := Blk.new W1 30 (mtC A0 A1 A2 d0 d1 d2 m)
  have hv2 : MtAt (W1.alloc (.cells (mtC A0 A1 A2 d0 d1 d2 m) 30)) (.agg (mtC A0 A1 A2 d0 d1 d2 m)) m := ⟨A0, A1, A2, d0, d1, d2, rfl, hml.below hb2⟩
  obtain ⟨W2, hW2⟩ : ∃ z, W1.alloc (.cells (mtC A0 A1 A2 d0 d1 d2 m) 30) = z := ⟨_, rfl⟩
  rw [hW2] at hb2 hx2 hv2
  have HB2 := Lib.hid (below_step hb1 hb2)
  have HX2 := Lib.hid hx2
  have HV2 := Lib.hid hv2
  unfold mtC at hW2 ⊢
  clear hm her hsz hml hb1 hb2 hx2 hv2
  dsimp only
  go_wp2_with fail
  try rw [hW2]
  obtain ⟨g1, hg1⟩ : ∃ z, W1.heap.size = z := ⟨_, rfl⟩
  rw [hg1] at HX2
  try rw [hg1]
  clear hW2 hg1
  refine (mdec_any s2 W2 (by have := HZ2.out; omega)).mono ?_
  rintro e W3 ⟨v3, rfl, hm3, hb3⟩
  rw [HM.out] at hm3
  rw [HE.out]
  obtain ⟨B0, B1, B2, e0, e1, e2, rfl, hml⟩ := hm3
  have hb4 := (Below.refl _ W3).alloc (Nat.le_refl _) (.cells (mtC B0 B1 B2 e0 e1 e2 m) 30)
  have hx4 := Blk.new W3 30 (mtC B0 B1 B2 e0 e1 e2 m)
  have hv4 : MtAt (W3.alloc (.cells (mtC B0 B1 B2 e0 e1 e2 m) 30)) (.agg (mtC B0 B1 B2 e0 e1 e2 m)) m := ⟨B0, B1, B2, e0, e1, e2, rfl, hml.below hb4⟩
  obtain ⟨W4, hW4⟩ : ∃ z, W3.alloc (.cells (mtC B0 B1 B2 e0 e1 e2 m) 30) = z := ⟨_, rfl⟩
  rw [hW4] at hb4 hx4 hv4
  have HB4 := Lib.hid (below_step (below_step HB2.out hb3) hb4)
  have hbb := below_step hb3 hb4
  have hx2 := HX2.out.below hbb
  have hsm := rsame_any _ _ m m W4 (HV2.out.below hbb) hv4 HSZ.out HSZ.out
  rw [decide_eq_true (rfl : m = m)] at hsm
  have HS := Lib.hid hsm
  have a0 := hx2.cell 0
  have a1 := hx2.cell 1
  have a2 := hx2.cell 2
  have a3 := hx2.cell 3
  have a4 := hx2.cell 4
  have a5 := hx2.cell 5
  have a6 := hx2.cell 6
  have a7 := hx2.cell 7
  have a8 := hx2.cell 8
  simp only [mtC, List.getElem?_toArray, List.getElem?_cons_zero, List.getElem?_cons_succ] at a0 a1 a2 a3 a4 a5 a6 a7 a8
  have al := hx2.lt
  have b0 := hx4.cell 0
  have b1 := hx4.cell 1
  have b2 := hx4.cell 2
  have b3 := hx4.cell 3
  have b4 := hx4.cell 4
  have b5 := hx4.cell 5
  have b6 := hx4.cell 6
  have b7 := hx4.cell 7
  have b8 := hx4.cell 8
  simp only [mtC, List.getElem?_toArray, List.getElem?_cons_zero, List.getElem?_cons_succ] at b0 b1 b2 b3 b4 b5 b6 b7 b8
  have bl := hx4.lt
  unfold mtC at hW4 HS ⊢
  clear hml hb3 hb4 hx4 hv4 hbb hx2 HX2 HV2 HB2 hsm
  dsimp only
  go_wp2_with fail
  clear a0 a1 a2 a3 a4 a5 a6 a7 a8 al b0 b1 b2 b3 b4 b5 b6 b7 b8 bl hW4
  refine HS.out.mono ?_
  rintro e W5 ⟨rfl, hb5⟩
  have HB5 := Lib.hid (below_step HB4.out hb5)
  clear hb5 HS HB4
  go_wp2_with fail
  refine (works_any HH.out W5).mono ?_
  rintro e W6 ⟨rfl, hb6⟩
  have HB6 := Lib.hid (below_step HB5.out hb6)
  clear hb6
  go_wp2_with fail
  go_ret
  exact ⟨rfl, HB6.out⟩
end Go.Proofs.Ytklmgdiaianlbaa.mt

/- MetaBack's walk, by what the program's functions do. -/
namespace Go.Proofs.Ytklmgdiaianlbaa.mt
open Go Go.RowKit Go.Sort Go.Proofs.Ytklmgdiaianlbaa.ib Go.Proofs.Ytklmgdiaianlbaa.wi Go.Proofs.Ytklmgdiaianlbaa.im
set_option maxRecDepth 100000


set_option maxHeartbeats 12800000 in
theorem metaBack_walk (H : MImpl) (v : Value) (m : Mt) (s : ByteArray) (hs : s.size ≤ 140737488351232) (w : World) (hM : MtAt w v m) (hW : mtW m) :
    Calls Try.prog 6 #[v, .string s] w (okTrue w) := by
  obtain ⟨s2, hs2⟩ : ∃ z, s.extract 0 (min (s.size : Int) 2000).toNat = z := ⟨_, rfl⟩
  have hz2 : s2.size ≤ 2000 := by rw [← hs2]; simp; omega
  have HZ2 := Lib.hid hz2
  obtain ⟨A0, A1, A2, d0, d1, d2, rfl, hm⟩ := hM
  have hb1 := (Below.refl w.heap.size w).alloc (Nat.le_refl _) (.cells (mtC A0 A1 A2 d0 d1 d2 m) 30)
  have ha1 := Blk.new w 30 (mtC A0 A1 A2 d0 d1 d2 m)
  have hv1 : MtAt (w.alloc (.cells (mtC A0 A1 A2 d0 d1 d2 m) 30)) (.agg (mtC A0 A1 A2 d0 d1 d2 m)) m := ⟨A0, A1, A2, d0, d1, d2, rfl, hm.below hb1⟩
  obtain ⟨W1, hW1⟩ : ∃ z, w.alloc (.cells (mtC A0 A1 A2 d0 d1 d2 m) 30) = z := ⟨_, rfl⟩
  rw [hW1] at hb1 ha1 hv1
  have HB1 := Lib.hid hb1
  have HA1 := Lib.hid ha1
  have HS := Lib.hid (short_any _ m W1 hv1 hW)
  have HH := Lib.hid H
  have a0 := ha1.cell 0
  have a1 := ha1.cell 1
  have a2 := ha1.cell 2
  have a3 := ha1.cell 3
  have a4 := ha1.cell 4
  have a5 := ha1.cell 5
  have a6 := ha1.cell 6
  have a7 := ha1.cell 7
  have a8 := ha1.cell 8
  simp only [mtC, List.getElem?_toArray, List.getElem?_cons_zero, List.getElem?_cons_succ] at a0 a1 a2 a3 a4 a5 a6 a7 a8
  have al := ha1.lt
  unfold mtC at hW1 HS ⊢
  clear hb1 ha1 hv1 H hm hW hz2
  go_enter Try.func6, Try.ntmps6
  go_wp2_with fail
  clear hW1 a0 a1 a2 a3 a4 a5 a6 a7 a8 al
  refine HS.out.mono ?_
  rintro e W2 ⟨v2, rfl, hmo, hb2⟩
  obtain ⟨B0, B1, B2, e0, e1, e2, rfl⟩ := hmo.open_
  have ha2 := HA1.out.below hb2
  obtain ⟨hbx, hmo3⟩ := box_mt ha2 hmo
  have hb3 : Below w.heap.size w (setMt W2 w.heap.size (.slice B0 (mShort m).live.length e0) (.slice B1 (mShort m).snaps.length e1) (.slice B2 (mShort m).tok.img.length e2) (mShort m).tok) := setMt_below (below_step HB1.out hb2) (Nat.le_refl _)
  have hsz := short_sz m
  obtain ⟨ms, hms⟩ : ∃ z, mShort m = z := ⟨_, rfl⟩
  rw [hms] at hbx hmo3 hb3 hmo hsz ⊢
  have a0 := ha2.cell 0
  have a1 := ha2.cell 1
  have a2 := ha2.cell 2
  have a3 := ha2.cell 3
  have a4 := ha2.cell 4
  have a5 := ha2.cell 5
  have a6 := ha2.cell 6
  have a7 := ha2.cell 7
  have a8 := ha2.cell 8
  simp only [mtC, List.getElem?_toArray, List.getElem?_cons_zero, List.getElem?_cons_succ] at a0 a1 a2 a3 a4 a5 a6 a7 a8
  have af0 := ha2.frozen 0
  have af1 := ha2.frozen 1
  have af2 := ha2.frozen 2
  have af3 := ha2.frozen 3
  have af4 := ha2.frozen 4
  have af5 := ha2.frozen 5
  have af6 := ha2.frozen 6
  have af7 := ha2.frozen 7
  have af8 := ha2.frozen 8
  have al := ha2.lt
  obtain ⟨W3, hW3⟩ : ∃ z, setMt W2 w.heap.size (.slice B0 ms.live.length e0) (.slice B1 ms.snaps.length e1) (.slice B2 ms.tok.img.length e2) ms.tok = z := ⟨_, rfl⟩
  rw [hW3] at hbx hmo3 hb3
  unfold setMt setTok at hW3
  have HBX := Lib.hid hbx
  have HMO := Lib.hid hmo3
  have HB3 := Lib.hid hb3
  have HSZ := Lib.hid hsz
  obtain ⟨r, hr⟩ : ∃ z, mEnc ms = z := ⟨_, rfl⟩
  have henc := HH.out.enc _ ms W3 hmo3.at_ hsz
  rw [hr] at henc
  obtain ⟨S, er⟩ := r
  have HEN := Lib.hid henc
  have HR := Lib.hid hr
  have b0 := hbx.cell 0
  have b1 := hbx.cell 1
  have b2 := hbx.cell 2
  have b3 := hbx.cell 3
  have b4 := hbx.cell 4
  have b5 := hbx.cell 5
  have b6 := hbx.cell 6
  have b7 := hbx.cell 7
  have b8 := hbx.cell 8
  simp only [mtC, List.getElem?_toArray, List.getElem?_cons_zero, List.getElem?_cons_succ] at b0 b1 b2 b3 b4 b5 b6 b7 b8
  have bl := hbx.lt
  clear hbx hmo3 hb3 hsz hmo hb2 ha2 hms HS HB1 HA1 henc hr
  unfold mtC at HEN ⊢
  dsimp only
  go_wp2_with fail
  clear hW3 a0 a1 a2 a3 a4 a5 a6 a7 a8 af0 af1 af2 af3 af4 af5 af6 af7 af8 al b0 b1 b2 b3 b4 b5 b6 b7 b8 bl
  refine HEN.out.mono ?_
  rintro e W4 ⟨rfl, hb4⟩
  have hx4 := HBX.out.below hb4
  have HMO4 := Lib.hid (HMO.out.below hb4)
  have HBX4 := Lib.hid hx4
  have HB4 := Lib.hid (below_step HB3.out hb4)
  have hl64 : i64B (ms.live.length : Int) := by have := HSZ.out.live; unfold i64B; omega
  have hck := HH.out.check _ ms (ms.live.length : Int) 1024 W4 HMO4.out.at_ HSZ.out hl64 (by unfold i64B; omega)
  have herr := enc_err ms
  rw [HR.out] at herr
  obtain ⟨ck, hck2⟩ : ∃ z, mCheck ms ms.live.length 1024 = z := ⟨_, rfl⟩
  rw [hck2] at hck herr
  have HCK := Lib.hid hck
  have HERR := Lib.hid herr
  have b0 := hx4.cell 0
  have b1 := hx4.cell 1
  have b2 := hx4.cell 2
  have b3 := hx4.cell 3
  have b4 := hx4.cell 4
  have b5 := hx4.cell 5
  have b6 := hx4.cell 6
  have b7 := hx4.cell 7
  have b8 := hx4.cell 8
  simp only [mtC, List.getElem?_toArray, List.getElem?_cons_zero, List.getElem?_cons_succ] at b0 b1 b2 b3 b4 b5 b6 b7 b8
  have bl := hx4.lt
  unfold mtC at HCK
  clear hb4 hx4 hl64 hck hck2 herr HBX HMO HEN HB3
  dsimp only
  go_wp2_with fail
  clear b0 b1 b2 b3 b4 b5 b6 b7 b8 bl
  refine HCK.out.mono ?_
  rintro e W5 ⟨rfl, hb5⟩
  have HMO5 := Lib.hid (HMO4.out.below hb5)
  have HBX5 := Lib.hid (HBX4.out.below hb5)
  have HB5 := Lib.hid (below_step HB4.out hb5)
  clear hb5 HCK HMO4 HBX4 HB4
  have hcases : (ck = er ∧ er = 0) ∨ (ck = er ∧ ¬ er = 0) ∨ (er = 3 ∧ ck = 0) := by
    rcases HERR.out with h | ⟨h1, h2⟩
    · by_cases h0 : er = 0
      · exact .inl ⟨h.symm, h0⟩
      · exact .inr (.inl ⟨h.symm, h0⟩)
    · exact .inr (.inr ⟨h1, h2⟩)
  clear HERR
  rcases hcases with ⟨rfl, h0⟩ | ⟨rfl, h0⟩ | ⟨rfl, rfl⟩
  case' inr.inl =>
    have hne : (ck == 0) = false := by simpa using h0
    have hnn : (ck != ck) = false := by simp
    clear h0
    go_wp2_with fail
    refine (HH.out.dec s2 W5 (by have := HZ2.out; omega)).mono ?_
    rintro e WD ⟨vD, rfl, hmD, hbD⟩
    rcases dec_two (bl s2) with ⟨mq, hq⟩ | hq
    case' inr =>
      rw [hq] at hmD ⊢
      obtain ⟨Q0, Q1, Q2, q0, q1, q2, rfl, hml⟩ := hmD
      have hbE := (Below.refl _ WD).alloc (Nat.le_refl _) (.cells (mtC Q0 Q1 Q2 q0 q1 q2 mt0) 30)
      have hxE := Blk.new WD 30 (mtC Q0 Q1 Q2 q0 q1 q2 mt0)
      obtain ⟨WE, hWE⟩ : ∃ z, WD.alloc (.cells (mtC Q0 Q1 Q2 q0 q1 q2 mt0) 30) = z := ⟨_, rfl⟩
      rw [hWE] at hbE hxE
      have HBE := Lib.hid (below_step (below_step HB5.out hbD) hbE)
      have y0 := hxE.cell 0
      have y1 := hxE.cell 1
      simp only [mtC, List.getElem?_toArray, List.getElem?_cons_zero, List.getElem?_cons_succ] at y0 y1
      have hlE := hxE.lt
      have hn0 : (mt0.live.length : Int) = 0 := rfl
      have hn1 : (mt0.snaps.length : Int) = 0 := rfl
      unfold mtC at hWE ⊢
      clear hml hbD hbE hxE hq
      dsimp only
      go_wp2_with fail
      clear y0 y1 hlE hWE hn0 hn1
      refine (works_any HH.out WE).mono ?_
      rintro e WF ⟨rfl, hbF⟩
      have HBF := Lib.hid (below_step HBE.out hbF)
      clear hbF HBE
      go_wp2_with fail
      go_ret
      exact ⟨rfl, HBF.out⟩
    rw [hq] at hmD ⊢
    have HENC := Lib.hid (dec_enc hq).1
    have HCHK := Lib.hid (dec_check hq)
    have HSZQ := Lib.hid (ok_sz (dec_B hq) (dec_check hq))
    obtain ⟨Q0, Q1, Q2, q0, q1, q2, rfl, hml⟩ := hmD
    have hbE := (Below.refl _ WD).alloc (Nat.le_refl _) (.cells (mtC Q0 Q1 Q2 q0 q1 q2 mq) 30)
    have hxE := Blk.new WD 30 (mtC Q0 Q1 Q2 q0 q1 q2 mq)
    have hvE : MtAt (WD.alloc (.cells (mtC Q0 Q1 Q2 q0 q1 q2 mq) 30)) (.agg (mtC Q0 Q1 Q2 q0 q1 q2 mq)) mq := ⟨Q0, Q1, Q2, q0, q1, q2, rfl, hml.below hbE⟩
    obtain ⟨WE, hWE⟩ : ∃ z, WD.alloc (.cells (mtC Q0 Q1 Q2 q0 q1 q2 mq) 30) = z := ⟨_, rfl⟩
    rw [hWE] at hbE hxE hvE
    have HBE := Lib.hid (below_step (below_step HB5.out hbD) hbE)
    have HXE := Lib.hid hxE
    have HVE := Lib.hid hvE
    have hencq := HH.out.enc _ mq WE hvE HSZQ.out
    rw [HENC.out] at hencq
    have HEQ := Lib.hid hencq
    have y0 := hxE.cell 0
    have y1 := hxE.cell 1
    have y2 := hxE.cell 2
    have y3 := hxE.cell 3
    have y4 := hxE.cell 4
    have y5 := hxE.cell 5
    have y6 := hxE.cell 6
    have y7 := hxE.cell 7
    have y8 := hxE.cell 8
    simp only [mtC, List.getElem?_toArray, List.getElem?_cons_zero, List.getElem?_cons_succ] at y0 y1 y2 y3 y4 y5 y6 y7 y8
    have yl := hxE.lt
    unfold mtC at hWE HEQ ⊢
    clear hml hbD hbE hxE hvE hencq hq
    dsimp only
    go_wp2_with fail
    clear hWE y0 y1 y2 y3 y4 y5 y6 y7 y8 yl
    refine HEQ.out.mono ?_
    rintro e WF ⟨rfl, hbF⟩
    rw [str_bl]
    have hxF := HXE.out.below hbF
    have HVF := Lib.hid (HVE.out.below hbF)
    have HBF := Lib.hid (below_step HBE.out hbF)
    have hl64 : i64B (mq.live.length : Int) := by have := HSZQ.out.live; unfold i64B; omega
    have hchk := HH.out.check _ mq (mq.live.length : Int) 1024 WF HVF.out HSZQ.out hl64 (by unfold i64B; omega)
    rw [HCHK.out] at hchk
    have HCQ := Lib.hid hchk
    have y0 := hxF.cell 0
    have y1 := hxF.cell 1
    have y2 := hxF.cell 2
    have y3 := hxF.cell 3
    have y4 := hxF.cell 4
    have y5 := hxF.cell 5
    have y6 := hxF.cell 6
    have y7 := hxF.cell 7
    have y8 := hxF.cell 8
    simp only [mtC, List.getElem?_toArray, List.getElem?_cons_zero, List.getElem?_cons_succ] at y0 y1 y2 y3 y4 y5 y6 y7 y8
    have yl := hxF.lt
    unfold mtC at HCQ
    clear hbF hxF HXE HVE HBE HEQ hl64 hchk
    dsimp only
    go_wp2_with fail
    clear y0 y1 y2 y3 y4 y5 y6 y7 y8 yl
    refine HCQ.out.mono ?_
    rintro e WG ⟨rfl, hbG⟩
    have HBG := Lib.hid (below_step HBF.out hbG)
    clear hbG HCQ HBF HVF
    go_wp2_with fail
    refine (works_any HH.out WG).mono ?_
    rintro e WH ⟨rfl, hbH⟩
    have HBH := Lib.hid (below_step HBG.out hbH)
    clear hbH HBG
    go_wp2_with fail
    go_ret
    exact ⟨rfl, HBH.out⟩
  case' inr.inr =>
    go_wp2_with fail
    refine (HH.out.dec s2 W5 (by have := HZ2.out; omega)).mono ?_
    rintro e WD ⟨vD, rfl, hmD, hbD⟩
    rcases dec_two (bl s2) with ⟨mq, hq⟩ | hq
    case' inr =>
      rw [hq] at hmD ⊢
      obtain ⟨Q0, Q1, Q2, q0, q1, q2, rfl, hml⟩ := hmD
      have hbE := (Below.refl _ WD).alloc (Nat.le_refl _) (.cells (mtC Q0 Q1 Q2 q0 q1 q2 mt0) 30)
      have hxE := Blk.new WD 30 (mtC Q0 Q1 Q2 q0 q1 q2 mt0)
      obtain ⟨WE, hWE⟩ : ∃ z, WD.alloc (.cells (mtC Q0 Q1 Q2 q0 q1 q2 mt0) 30) = z := ⟨_, rfl⟩
      rw [hWE] at hbE hxE
      have HBE := Lib.hid (below_step (below_step HB5.out hbD) hbE)
      have y0 := hxE.cell 0
      have y1 := hxE.cell 1
      simp only [mtC, List.getElem?_toArray, List.getElem?_cons_zero, List.getElem?_cons_succ] at y0 y1
      have hlE := hxE.lt
      have hn0 : (mt0.live.length : Int) = 0 := rfl
      have hn1 : (mt0.snaps.length : Int) = 0 := rfl
      unfold mtC at hWE ⊢
      clear hml hbD hbE hxE hq
      dsimp only
      go_wp2_with fail
      clear y0 y1 hlE hWE hn0 hn1
      refine (works_any HH.out WE).mono ?_
      rintro e WF ⟨rfl, hbF⟩
      have HBF := Lib.hid (below_step HBE.out hbF)
      clear hbF HBE
      go_wp2_with fail
      go_ret
      exact ⟨rfl, HBF.out⟩
    rw [hq] at hmD ⊢
    have HENC := Lib.hid (dec_enc hq).1
    have HCHK := Lib.hid (dec_check hq)
    have HSZQ := Lib.hid (ok_sz (dec_B hq) (dec_check hq))
    obtain ⟨Q0, Q1, Q2, q0, q1, q2, rfl, hml⟩ := hmD
    have hbE := (Below.refl _ WD).alloc (Nat.le_refl _) (.cells (mtC Q0 Q1 Q2 q0 q1 q2 mq) 30)
    have hxE := Blk.new WD 30 (mtC Q0 Q1 Q2 q0 q1 q2 mq)
    have hvE : MtAt (WD.alloc (.cells (mtC Q0 Q1 Q2 q0 q1 q2 mq) 30)) (.agg (mtC Q0 Q1 Q2 q0 q1 q2 mq)) mq := ⟨Q0, Q1, Q2, q0, q1, q2, rfl, hml.below hbE⟩
    obtain ⟨WE, hWE⟩ : ∃ z, WD.alloc (.cells (mtC Q0 Q1 Q2 q0 q1 q2 mq) 30) = z := ⟨_, rfl⟩
    rw [hWE] at hbE hxE hvE
    have HBE := Lib.hid (below_step (below_step HB5.out hbD) hbE)
    have HXE := Lib.hid hxE
    have HVE := Lib.hid hvE
    have hencq := HH.out.enc _ mq WE hvE HSZQ.out
    rw [HENC.out] at hencq
    have HEQ := Lib.hid hencq
    have y0 := hxE.cell 0
    have y1 := hxE.cell 1
    have y2 := hxE.cell 2
    have y3 := hxE.cell 3
    have y4 := hxE.cell 4
    have y5 := hxE.cell 5
    have y6 := hxE.cell 6
    have y7 := hxE.cell 7
    have y8 := hxE.cell 8
    simp only [mtC, List.getElem?_toArray, List.getElem?_cons_zero, List.getElem?_cons_succ] at y0 y1 y2 y3 y4 y5 y6 y7 y8
    have yl := hxE.lt
    unfold mtC at hWE HEQ ⊢
    clear hml hbD hbE hxE hvE hencq hq
    dsimp only
    go_wp2_with fail
    clear hWE y0 y1 y2 y3 y4 y5 y6 y7 y8 yl
    refine HEQ.out.mono ?_
    rintro e WF ⟨rfl, hbF⟩
    rw [str_bl]
    have hxF := HXE.out.below hbF
    have HVF := Lib.hid (HVE.out.below hbF)
    have HBF := Lib.hid (below_step HBE.out hbF)
    have hl64 : i64B (mq.live.length : Int) := by have := HSZQ.out.live; unfold i64B; omega
    have hchk := HH.out.check _ mq (mq.live.length : Int) 1024 WF HVF.out HSZQ.out hl64 (by unfold i64B; omega)
    rw [HCHK.out] at hchk
    have HCQ := Lib.hid hchk
    have y0 := hxF.cell 0
    have y1 := hxF.cell 1
    have y2 := hxF.cell 2
    have y3 := hxF.cell 3
    have y4 := hxF.cell 4
    have y5 := hxF.cell 5
    have y6 := hxF.cell 6
    have y7 := hxF.cell 7
    have y8 := hxF.cell 8
    simp only [mtC, List.getElem?_toArray, List.getElem?_cons_zero, List.getElem?_cons_succ] at y0 y1 y2 y3 y4 y5 y6 y7 y8
    have yl := hxF.lt
    unfold mtC at HCQ
    clear hbF hxF HXE HVE HBE HEQ hl64 hchk
    dsimp only
    go_wp2_with fail
    clear y0 y1 y2 y3 y4 y5 y6 y7 y8 yl
    refine HCQ.out.mono ?_
    rintro e WG ⟨rfl, hbG⟩
    have HBG := Lib.hid (below_step HBF.out hbG)
    clear hbG HCQ HBF HVF
    go_wp2_with fail
    refine (works_any HH.out WG).mono ?_
    rintro e WH ⟨rfl, hbH⟩
    have HBH := Lib.hid (below_step HBG.out hbH)
    clear hbH HBG
    go_wp2_with fail
    go_ret
    exact ⟨rfl, HBH.out⟩
  subst h0
  have hdec := HH.out.dec (str S) W5 (by
    have h16 : S.length ≤ 1600 := by
      have := enc_size (m := ms)
      rw [HR.out] at this
      exact this
    rw [str_size]; omega)
  rw [bl_str, enc_back HMO5.out.at_.mB HR.out] at hdec
  have HD := Lib.hid hdec
  clear hdec
  go_wp2_with fail
  refine HD.out.mono ?_
  rintro e W6 ⟨v6, rfl, ⟨C0, C1, C2, c0, c1, c2, rfl, hml6⟩, hb6⟩
  have hb7 := (Below.refl _ W6).alloc (Nat.le_refl _) (.cells (mtC C0 C1 C2 c0 c1 c2 ms) 30)
  have hx7 := Blk.new W6 30 (mtC C0 C1 C2 c0 c1 c2 ms)
  have hv7 : MtAt (W6.alloc (.cells (mtC C0 C1 C2 c0 c1 c2 ms) 30)) (.agg (mtC C0 C1 C2 c0 c1 c2 ms)) ms := ⟨C0, C1, C2, c0, c1, c2, rfl, hml6.below hb7⟩
  obtain ⟨W7, hW7⟩ : ∃ z, W6.alloc (.cells (mtC C0 C1 C2 c0 c1 c2 ms) 30) = z := ⟨_, rfl⟩
  rw [hW7] at hb7 hx7 hv7
  have hbb := below_step hb6 hb7
  have hbx7 := HBX5.out.below hbb
  have HB7 := Lib.hid (below_step HB5.out hbb)
  have hsm := HH.out.same _ _ ms ms W7 (HMO5.out.below hbb).at_ hv7 HSZ.out HSZ.out
  rw [decide_eq_true (rfl : ms = ms)] at hsm
  have HSM := Lib.hid hsm
  have a0 := hx7.cell 0
  have a1 := hx7.cell 1
  have a2 := hx7.cell 2
  have a3 := hx7.cell 3
  have a4 := hx7.cell 4
  have a5 := hx7.cell 5
  have a6 := hx7.cell 6
  have a7 := hx7.cell 7
  have a8 := hx7.cell 8
  simp only [mtC, List.getElem?_toArray, List.getElem?_cons_zero, List.getElem?_cons_succ] at a0 a1 a2 a3 a4 a5 a6 a7 a8
  have al := hx7.lt
  have b0 := hbx7.cell 0
  have b1 := hbx7.cell 1
  have b2 := hbx7.cell 2
  have b3 := hbx7.cell 3
  have b4 := hbx7.cell 4
  have b5 := hbx7.cell 5
  have b6 := hbx7.cell 6
  have b7 := hbx7.cell 7
  have b8 := hbx7.cell 8
  simp only [mtC, List.getElem?_toArray, List.getElem?_cons_zero, List.getElem?_cons_succ] at b0 b1 b2 b3 b4 b5 b6 b7 b8
  have bl := hbx7.lt
  unfold mtC at hW7 HSM ⊢
  clear hml6 hb6 hb7 hx7 hv7 hbb hbx7 hsm HD HBX5 HMO5 HB5
  dsimp only
  go_wp2_with fail
  clear hW7 a0 a1 a2 a3 a4 a5 a6 a7 a8 al b0 b1 b2 b3 b4 b5 b6 b7 b8 bl
  refine HSM.out.mono ?_
  rintro e W8 ⟨rfl, hb8⟩
  have HB8 := Lib.hid (below_step HB7.out hb8)
  clear hb8 HSM HB7
  go_wp2_with fail
  refine (HH.out.dec s2 W8 (by have := HZ2.out; omega)).mono ?_
  rintro e WD ⟨vD, rfl, hmD, hbD⟩
  rcases dec_two (bl s2) with ⟨mq, hq⟩ | hq
  case' inr =>
    rw [hq] at hmD ⊢
    obtain ⟨Q0, Q1, Q2, q0, q1, q2, rfl, hml⟩ := hmD
    have hbE := (Below.refl _ WD).alloc (Nat.le_refl _) (.cells (mtC Q0 Q1 Q2 q0 q1 q2 mt0) 30)
    have hxE := Blk.new WD 30 (mtC Q0 Q1 Q2 q0 q1 q2 mt0)
    obtain ⟨WE, hWE⟩ : ∃ z, WD.alloc (.cells (mtC Q0 Q1 Q2 q0 q1 q2 mt0) 30) = z := ⟨_, rfl⟩
    rw [hWE] at hbE hxE
    have HBE := Lib.hid (below_step (below_step HB8.out hbD) hbE)
    have y0 := hxE.cell 0
    have y1 := hxE.cell 1
    simp only [mtC, List.getElem?_toArray, List.getElem?_cons_zero, List.getElem?_cons_succ] at y0 y1
    have hlE := hxE.lt
    have hn0 : (mt0.live.length : Int) = 0 := rfl
    have hn1 : (mt0.snaps.length : Int) = 0 := rfl
    unfold mtC at hWE ⊢
    clear hml hbD hbE hxE hq
    dsimp only
    go_wp2_with fail
    clear y0 y1 hlE hWE hn0 hn1
    refine (works_any HH.out WE).mono ?_
    rintro e WF ⟨rfl, hbF⟩
    have HBF := Lib.hid (below_step HBE.out hbF)
    clear hbF HBE
    go_wp2_with fail
    go_ret
    exact ⟨rfl, HBF.out⟩
  rw [hq] at hmD ⊢
  have HENC := Lib.hid (dec_enc hq).1
  have HCHK := Lib.hid (dec_check hq)
  have HSZQ := Lib.hid (ok_sz (dec_B hq) (dec_check hq))
  obtain ⟨Q0, Q1, Q2, q0, q1, q2, rfl, hml⟩ := hmD
  have hbE := (Below.refl _ WD).alloc (Nat.le_refl _) (.cells (mtC Q0 Q1 Q2 q0 q1 q2 mq) 30)
  have hxE := Blk.new WD 30 (mtC Q0 Q1 Q2 q0 q1 q2 mq)
  have hvE : MtAt (WD.alloc (.cells (mtC Q0 Q1 Q2 q0 q1 q2 mq) 30)) (.agg (mtC Q0 Q1 Q2 q0 q1 q2 mq)) mq := ⟨Q0, Q1, Q2, q0, q1, q2, rfl, hml.below hbE⟩
  obtain ⟨WE, hWE⟩ : ∃ z, WD.alloc (.cells (mtC Q0 Q1 Q2 q0 q1 q2 mq) 30) = z := ⟨_, rfl⟩
  rw [hWE] at hbE hxE hvE
  have HBE := Lib.hid (below_step (below_step HB8.out hbD) hbE)
  have HXE := Lib.hid hxE
  have HVE := Lib.hid hvE
  have hencq := HH.out.enc _ mq WE hvE HSZQ.out
  rw [HENC.out] at hencq
  have HEQ := Lib.hid hencq
  have y0 := hxE.cell 0
  have y1 := hxE.cell 1
  have y2 := hxE.cell 2
  have y3 := hxE.cell 3
  have y4 := hxE.cell 4
  have y5 := hxE.cell 5
  have y6 := hxE.cell 6
  have y7 := hxE.cell 7
  have y8 := hxE.cell 8
  simp only [mtC, List.getElem?_toArray, List.getElem?_cons_zero, List.getElem?_cons_succ] at y0 y1 y2 y3 y4 y5 y6 y7 y8
  have yl := hxE.lt
  unfold mtC at hWE HEQ ⊢
  clear hml hbD hbE hxE hvE hencq hq
  dsimp only
  go_wp2_with fail
  clear hWE y0 y1 y2 y3 y4 y5 y6 y7 y8 yl
  refine HEQ.out.mono ?_
  rintro e WF ⟨rfl, hbF⟩
  rw [str_bl]
  have hxF := HXE.out.below hbF
  have HVF := Lib.hid (HVE.out.below hbF)
  have HBF := Lib.hid (below_step HBE.out hbF)
  have hl64 : i64B (mq.live.length : Int) := by have := HSZQ.out.live; unfold i64B; omega
  have hchk := HH.out.check _ mq (mq.live.length : Int) 1024 WF HVF.out HSZQ.out hl64 (by unfold i64B; omega)
  rw [HCHK.out] at hchk
  have HCQ := Lib.hid hchk
  have y0 := hxF.cell 0
  have y1 := hxF.cell 1
  have y2 := hxF.cell 2
  have y3 := hxF.cell 3
  have y4 := hxF.cell 4
  have y5 := hxF.cell 5
  have y6 := hxF.cell 6
  have y7 := hxF.cell 7
  have y8 := hxF.cell 8
  simp only [mtC, List.getElem?_toArray, List.getElem?_cons_zero, List.getElem?_cons_succ] at y0 y1 y2 y3 y4 y5 y6 y7 y8
  have yl := hxF.lt
  unfold mtC at HCQ
  clear hbF hxF HXE HVE HBE HEQ hl64 hchk
  dsimp only
  go_wp2_with fail
  clear y0 y1 y2 y3 y4 y5 y6 y7 y8 yl
  refine HCQ.out.mono ?_
  rintro e WG ⟨rfl, hbG⟩
  have HBG := Lib.hid (below_step HBF.out hbG)
  clear hbG HCQ HBF HVF
  go_wp2_with fail
  refine (works_any HH.out WG).mono ?_
  rintro e WH ⟨rfl, hbH⟩
  have HBH := Lib.hid (below_step HBG.out hbH)
  clear hbH HBG
  go_wp2_with fail
  go_ret
  exact ⟨rfl, HBH.out⟩
end Go.Proofs.Ytklmgdiaianlbaa.mt

/- A table that may be comes back from its bytes; bytes that are taken are laid again just so. -/
namespace Go.Proofs.Ytklmgdiaianlbaa.metaBack
open Go.ChangeShapes Go.WideShapes Go.ChangeAt Go.RowKit
open Go.ChangeMaps (open_string shut_string)
open Go.Proofs.Ytklmgdiaianlbaa.ib Go.Proofs.Ytklmgdiaianlbaa.mt

theorem own : ownKnob Try.prog.godebug = none := by kernel_rfl
theorem laidOut : laidOutB Try.prog = true := by kernel_rfl

theorem witness (os : Os) {H : Type} (enc : TypeId × Value → H) :
    (OpenSpec.ofChange Rows.metaBackSpec).preRow enc Try.prog Try.f6 Rows.metaBackRow.domain false Rows.metaBackRow.laid ((World.holding Try.prog os ⟨#[], #[], []⟩).forCall (fun _ _ => 0) ⟨#[], #[.agg #[.slice none 0 0, .slice none 0 0, .int .u64 0, .int .u64 0, .int .u64 0, .int .u64 0, .int .i64 0, .int .i64 0, .slice none 0 0], .string ByteArray.empty], []⟩).memory #[.agg #[.slice none 0 0, .slice none 0 0, .int .u64 0, .int .u64 0, .int .u64 0, .int .u64 0, .int .i64 0, .int .i64 0, .slice none 0 0], .string ByteArray.empty] := by
  have hw : (DataW.whole enc Try.prog ((World.holding Try.prog os ⟨#[], #[], []⟩).forCall (fun _ _ => 0) ⟨#[], #[.agg #[.slice none 0 0, .slice none 0 0, .int .u64 0, .int .u64 0, .int .u64 0, .int .u64 0, .int .i64 0, .int .i64 0, .slice none 0 0], .string ByteArray.empty], []⟩).memory Try.f6.params.toList (OpenSpec.ofChange Rows.metaBackSpec).vars false (#[.agg #[.slice none 0 0, .slice none 0 0, .int .u64 0, .int .u64 0, .int .u64 0, .int .u64 0, .int .i64 0, .int .i64 0, .slice none 0 0], .string ByteArray.empty] : Array Value).toList 8).map (fun x => (x.1, x.2.1)) =
      some ([.agg [.nil, .nil, .agg [.agg [.lit (.int .u64 0), .lit (.int .u64 0)], .agg [.lit (.int .u64 0), .lit (.int .u64 0)], .lit (.int .i64 0), .lit (.int .i64 0), .nil]], .lit (.string [])], []) := by kernel_rfl
  obtain ⟨⟨x1, x2, x3⟩, hx, hx1⟩ := Option.map_eq_some_iff.1 hw
  simp only [Prod.mk.injEq] at hx1
  obtain ⟨rfl, rfl⟩ := hx1
  exact OpenSpec.preRow_of_cond 8 hx (by kernel_rfl) (fun k hk => by cases hk) (by kernel_rfl) (laidMetH_nil _ _)

set_option maxRecDepth 100000 in
set_option maxHeartbeats 1600000 in
theorem lifted (os : Os) (started : os.Started) (H : Type) (enc : TypeId × Value → H) (F : Stop.Interp) :
    ReturnsInHanded {} Try.checked os 6 .any ((OpenSpec.ofChange Rows.metaBackSpec).preRow enc Try.prog Try.f6 Rows.metaBackRow.domain false Rows.metaBackRow.laid) (((OpenSpec.ofChange Rows.metaBackSpec).at F).post enc Try.prog Try.f6 false true false false) := by
  refine returnsInHanded_of_row (C := Try.checked) (s := OpenSpec.ofChange Rows.metaBackSpec) own started (by kernel_rfl) Try.func6
    (witness_row_at (enc := enc) (C := Try.checked) false (World.holding Try.prog os ⟨#[], #[], []⟩) #[.agg #[.slice none 0 0, .slice none 0 0, .int .u64 0, .int .u64 0, .int .u64 0, .int .u64 0, .int .i64 0, .int .i64 0, .slice none 0 0], .string ByteArray.empty] rfl (by kernel_rfl) (by kernel_rfl) (by kernel_rfl) (witness os enc)) ?_
  intro W base args ds gs before hval0 hW _ _ hsz0 hL _ _
  have hsz : (DataW.weightsEach Try.prog (Try.f6.params.toList ++ (OpenSpec.ofChange Rows.metaBackSpec).bare.plain.varTypes Try.prog) (ds ++ gs)).all (· ≤ reachBytes) = true := hsz0
  have hval : ∀ (j : Nat) t v, Try.f6.params[j]? = some t → args[j]? = some v → Value.okWide Try.prog W .any base t v := hval0
  have hW' := hW
  obtain ⟨p, q, hA0, hV, rfl, hfz, hnd⟩ := hW
  have hA : DataW.TrodAll enc Try.prog W 0 (fun _ => true) true Try.f6.params.toList args.toList ds p := hA0
  rw [Try.params6] at hA hval hsz
  obtain ⟨v0, vs0, d0, ds0, p0, q0, hargs, rfl, rfl, h0, r0⟩ := trodAll_cons hA
  obtain ⟨v1, vs1, d1, ds1, p1, q1, rfl, rfl, rfl, h1, r1⟩ := trodAll_cons r0
  obtain ⟨rfl, rfl, rfl⟩ := trodAll_nil r1
  obtain rfl : args = #[v0, v1] := by cases args; simp_all
  obtain ⟨rfl, rfl⟩ := trodVars_none hV
  have k0 := h0
  have lt0 : ∀ x ∈ p0, x.block < W.heap.size := by obtain ⟨m, hm⟩ := k0; exact DataW.trod_lt m _ _ _ hm
  obtain ⟨m0, hM0, hW0⟩ := meta_of (hval 0 30 v0 rfl rfl) k0
  obtain ⟨a1, rfl, rfl, rfl, w1⟩ := open_string Try.underlying9 (hval 1 9 v1 rfl rfl) h1
  have s1 : (bl a1).length ≤ reachBytes := sized_string hsz (j := 1) (t := 9) rfl rfl
  rw [bl_len] at s1
  simp only [reachBytes] at s1
  clear hA0 hval0 hsz0
  simp only [List.append_nil] at hW'
  refine (metaBack_walk hImpl v0 m0 a1 s1 W hM0 hW0).mono fun e W' ⟨he, hg⟩ => ?_
  subst he
  exact ⟨_, rfl, _, _, _, [], _, [], hW', trodAll_mk1 (shut_bool Try.underlying4 _), (trodAll_cons_mk (Below.trod laidOut (by kernel_rfl) (of_decide_eq_true (by kernel_rfl)) k0 hg lt0) (trodAll_cons_mk (shut_string Try.underlying9 w1) trodAll_mk0)), rfl, hg.frame _, fun h => by cases h⟩

theorem over : Rows.MetaBackSaid :=
  OpenClaim.holds_of_cond 6 Try.f6 rfl rfl rfl rfl rfl rfl rfl ⟨rfl, rfl, rfl, rfl, rfl⟩ rfl rfl rfl rfl rfl (by kernel_rfl) Try.func6 (by kernel_rfl)
    (of_decide_eq_true (by kernel_rfl)) (by unfold Func.isWrapper; first | (rw [if_pos (by decide +kernel)]; kernel_rfl) | (rw [if_neg (by decide +kernel)]; exact ⟨rfl, rfl⟩))
    (fun os started H enc _ F => by rw [OpenClaim.pre_eq_preRow]; exact lifted os started H enc F)

theorem proved : Rows.MetaBackSaid :=
  over
#print axioms proved
end Go.Proofs.Ytklmgdiaianlbaa.metaBack


/- Any bytes are read as a table, or refused, as the document says. -/
import Derived.Test.YtklmgdiaianlbaaQ15
import Derived.Test.YtklmgdiaianlbaaQ17
import Derived.Test.YtklmgdiaianlbaaQ18
import Derived.Test.YtklmgdiaianlbaaQ19
import Derived.Test.YtklmgdiaianlbaaQ20
import Derived.Test.YtklmgdiaianlbaaQ6
import Derived.Lib.QuietBelow
import Derived.Test.YtklmgdiaianlbaaRows
import Derived.Deep.DeepHandedRow
import Derived.ProofKit
import Derived.OpenShut
import Derived.ShutString
import Derived.SizedLaws
set_option linter.unusedVariables false
set_option linter.unusedSimpArgs false
/- A table that is stored where another one lay. -/
namespace Go.Proofs.Ytklmgdiaianlbaa.mt
open Go Go.RowKit Go.Sort Go.Proofs.Ytklmgdiaianlbaa.ib Go.Proofs.Ytklmgdiaianlbaa.wi
set_option maxRecDepth 100000

theorem mhmixed : Try.prog.follows .mixedOrders = true := by kernel_rfl
theorem mtC_eq (A0 A1 A2 : Option Addr) (c0 c1 c2 : Nat) (m : Mt) : mtC A0 A1 A2 c0 c1 c2 m = mC (.slice A0 m.live.length c0) (.slice A1 m.snaps.length c1) (.slice A2 m.tok.img.length c2) m.tok := rfl
/-- What short answers, its slices as they are. -/
theorem MtO.open_ {W : World} {B : Nat} {v : Value} {m : Mt} (h : MtO W B v m) : ∃ A0 A1 A2 c0 c1 c2, v = .agg (mtC A0 A1 A2 c0 c1 c2 m) := by
  obtain ⟨A0, A1, A2, c0, c1, c2, hv, _⟩ := h.at_
  exact ⟨A0, A1, A2, c0, c1, c2, hv⟩
theorem box_mt {W : World} {B g : Nat} {A0 A1 A2 B0 B1 B2 : Option Addr} {c0 c1 c2 d0 d1 d2 : Nat} {m m' : Mt} (hA : Blk W g 30 (mtC B0 B1 B2 d0 d1 d2 m')) (h : MtO W B (.agg (mtC A0 A1 A2 c0 c1 c2 m)) m) :
    Blk (setMt W g (.slice A0 m.live.length c0) (.slice A1 m.snaps.length c1) (.slice A2 m.tok.img.length c2) m.tok) g 30 (mtC A0 A1 A2 c0 c1 c2 m) ∧ MtO (setMt W g (.slice A0 m.live.length c0) (.slice A1 m.snaps.length c1) (.slice A2 m.tok.img.length c2) m.tok) B (.agg (mtC A0 A1 A2 c0 c1 c2 m)) m :=
  ⟨setMt_blk (u0 := .slice B0 m'.live.length d0) (u1 := .slice B1 m'.snaps.length d1) (u2 := .slice B2 m'.tok.img.length d2) (t' := m'.tok) hA, h.kp (setMt_kp hA) (by decide) (by decide)⟩
/-- The nine cells of a table, at every world that is grown. -/
theorem nine {W : World} {g : Nat} {A0 A1 A2 : Option Addr} {c0 c1 c2 : Nat} {m : Mt} (h : Blk W g 30 (mtC A0 A1 A2 c0 c1 c2 m)) (d : Nat) (os : Array Obj) :
    (grow (redrawn W d) os).cell? ⟨g, 0, none⟩ = some (.slice A0 m.live.length c0) ∧ (grow (redrawn W d) os).cell? ⟨g, 1, none⟩ = some (.slice A1 m.snaps.length c1) ∧ (grow (redrawn W d) os).cell? ⟨g, 2, none⟩ = some (.int .u64 (m.tok.base.1 : Int)) ∧ (grow (redrawn W d) os).cell? ⟨g, 3, none⟩ = some (.int .u64 (m.tok.base.2 : Int)) ∧
    (grow (redrawn W d) os).cell? ⟨g, 4, none⟩ = some (.int .u64 (m.tok.target.1 : Int)) ∧ (grow (redrawn W d) os).cell? ⟨g, 5, none⟩ = some (.int .u64 (m.tok.target.2 : Int)) ∧ (grow (redrawn W d) os).cell? ⟨g, 6, none⟩ = some (.int .i64 m.tok.next) ∧ (grow (redrawn W d) os).cell? ⟨g, 7, none⟩ = some (.int .i64 m.tok.all) ∧
    (grow (redrawn W d) os).cell? ⟨g, 8, none⟩ = some (.slice A2 m.tok.img.length c2) := by
  have hb := h.below (below_regrown W d os)
  exact ⟨hb.cell 0, hb.cell 1, hb.cell 2, hb.cell 3, hb.cell 4, hb.cell 5, hb.cell 6, hb.cell 7, hb.cell 8⟩
end Go.Proofs.Ytklmgdiaianlbaa.mt

/- MetaReads' walk, by what the program's functions do. -/
namespace Go.Proofs.Ytklmgdiaianlbaa.mt
open Go Go.RowKit Go.Sort Go.Proofs.Ytklmgdiaianlbaa.ib Go.Proofs.Ytklmgdiaianlbaa.wi Go.Proofs.Ytklmgdiaianlbaa.im
set_option maxRecDepth 100000

theorem ok_sz {m : Mt} (hB : mB m) (h : mCheck m m.live.length 1024 = 0) : mtS m := by
  obtain ⟨h1, h2, h3, h4⟩ := check_ok hB h
  refine ⟨by omega, by omega, fun s hs => ?_, ?_⟩
  · have := (h1.snaps s hs).2.1
    omega
  · have ht := h1.tok
    unfold okTk at ht
    split at ht
    · rw [ht]; decide
    · have := ht.2.2.2.2.1
      omega
theorem sz0 : mtS mt0 := ⟨by decide, by decide, fun s hs => absurd hs (by simp [mt0]), by decide⟩
theorem dec_sz (s : List UInt8) : mtS (mDec s).1 := by
  rcases dec_two s with ⟨m, h⟩ | h
  · rw [h]
    exact ok_sz (dec_B h) (dec_check h)
  · rw [h]
    exact sz0

set_option maxHeartbeats 6400000 in
theorem metaReads_walk (H : MImpl) (s : ByteArray) (hs : s.size ≤ 140737488351232) (w : World) :
    Calls Try.prog 5 #[.string s] w (okTrue w) := by
  have HH := Lib.hid H
  clear H
  obtain ⟨s2, hs2⟩ : ∃ z, s.extract 0 (min (s.size : Int) 2000).toNat = z := ⟨_, rfl⟩
  have hz2 : s2.size ≤ 2000 := by rw [← hs2]; simp; omega
  have HZ2 := Lib.hid hz2
  clear hz2
  go_enter Try.func5, Try.ntmps5
  go_wp2_with fail
  refine (HH.out.dec s2 w (by have := HZ2.out; omega)).mono ?_
  rintro e W1 ⟨v1, rfl, hm1, hb1⟩
  obtain ⟨m, hm⟩ : ∃ z, (mDec (bl s2)).1 = z := ⟨_, rfl⟩
  obtain ⟨er, her⟩ : ∃ z, (mDec (bl s2)).2 = z := ⟨_, rfl⟩
  have hsz := dec_sz (bl s2)
  rw [hm] at hm1 hsz
  rw [her]
  have HM := Lib.hid hm
  have HE := Lib.hid her
  have HSZ := Lib.hid hsz
  obtain ⟨A0, A1, A2, d0, d1, d2, rfl, hml⟩ := hm1
  have hb2 := (Below.refl _ W1).alloc (Nat.le_refl _) (.cells (mtC A0 A1 A2 d0 d1 d2 m) 30)
  have hx2 := Blk.new W1 30 (mtC A0 A1 A2 d0 d1 d2 m)
  have hv2 : MtAt (W1.alloc (.cells (mtC A0 A1 A2 d0 d1 d2 m) 30)) (.agg (mtC A0 A1 A2 d0 d1 d2 m)) m := ⟨A0, A1, A2, d0, d1, d2, rfl, hml.below hb2⟩
  obtain ⟨W2, hW2⟩ : ∃ z, W1.alloc (.cells (mtC A0 A1 A2 d0 d1 d2 m) 30) = z := ⟨_, rfl⟩
  rw [hW2] at hb2 hx2 hv2
  have HB2 := Lib.hid (below_step hb1 hb2)
  have HX2 := Lib.hid hx2
  have HV2 := Lib.hid hv2
  unfold mtC at hW2 ⊢
  clear hm her hsz hml hb1 hb2 hx2 hv2
  dsimp only
  go_wp2_with fail
  try rw [hW2]
  obtain ⟨g1, hg1⟩ : ∃ z, W1.heap.size = z := ⟨_, rfl⟩
  rw [hg1] at HX2
  try rw [hg1]
  clear hW2 hg1
  refine (mdec_any s2 W2 (by have := HZ2.out; omega)).mono ?_
  rintro e W3 ⟨v3, rfl, hm3, hb3⟩
  rw [HM.out] at hm3
  rw [HE.out]
  obtain ⟨B0, B1, B2, e0, e1, e2, rfl, hml⟩ := hm3
  have hb4 := (Below.refl _ W3).alloc (Nat.le_refl _) (.cells (mtC B0 B1 B2 e0 e1 e2 m) 30)
  have hx4 := Blk.new W3 30 (mtC B0 B1 B2 e0 e1 e2 m)
  have hv4 : MtAt (W3.alloc (.cells (mtC B0 B1 B2 e0 e1 e2 m) 30)) (.agg (mtC B0 B1 B2 e0 e1 e2 m)) m := ⟨B0, B1, B2, e0, e1, e2, rfl, hml.below hb4⟩
  obtain ⟨W4, hW4⟩ : ∃ z, W3.alloc (.cells (mtC B0 B1 B2 e0 e1 e2 m) 30) = z := ⟨_, rfl⟩
  rw [hW4] at hb4 hx4 hv4
  have HB4 := Lib.hid (below_step (below_step HB2.out hb3) hb4)
  have hbb := below_step hb3 hb4
  have hx2 := HX2.out.below hbb
  have hsm := rsame_any _ _ m m W4 (HV2.out.below hbb) hv4 HSZ.out HSZ.out
  rw [decide_eq_true (rfl : m = m)] at hsm
  have HS := Lib.hid hsm
  have a0 := hx2.cell 0
  have a1 := hx2.cell 1
  have a2 := hx2.cell 2
  have a3 := hx2.cell 3
  have a4 := hx2.cell 4
  have a5 := hx2.cell 5
  have a6 := hx2.cell 6
  have a7 := hx2.cell 7
  have a8 := hx2.cell 8
  simp only [mtC, List.getElem?_toArray, List.getElem?_cons_zero, List.getElem?_cons_succ] at a0 a1 a2 a3 a4 a5 a6 a7 a8
  have al := hx2.lt
  have b0 := hx4.cell 0
  have b1 := hx4.cell 1
  have b2 := hx4.cell 2
  have b3 := hx4.cell 3
  have b4 := hx4.cell 4
  have b5 := hx4.cell 5
  have b6 := hx4.cell 6
  have b7 := hx4.cell 7
  have b8 := hx4.cell 8
  simp only [mtC, List.getElem?_toArray, List.getElem?_cons_zero, List.getElem?_cons_succ] at b0 b1 b2 b3 b4 b5 b6 b7 b8
  have bl := hx4.lt
  unfold mtC at hW4 HS ⊢
  clear hml hb3 hb4 hx4 hv4 hbb hx2 HX2 HV2 HB2 hsm
  dsimp only
  go_wp2_with fail
  clear a0 a1 a2 a3 a4 a5 a6 a7 a8 al b0 b1 b2 b3 b4 b5 b6 b7 b8 bl hW4
  refine HS.out.mono ?_
  rintro e W5 ⟨rfl, hb5⟩
  have HB5 := Lib.hid (below_step HB4.out hb5)
  clear hb5 HS HB4
  go_wp2_with fail
  refine (works_any HH.out W5).mono ?_
  rintro e W6 ⟨rfl, hb6⟩
  have HB6 := Lib.hid (below_step HB5.out hb6)
  clear hb6
  go_wp2_with fail
  go_ret
  exact ⟨rfl, HB6.out⟩
end Go.Proofs.Ytklmgdiaianlbaa.mt

/- Any bytes are read as a table, or refused, as the document says. -/
namespace Go.Proofs.Ytklmgdiaianlbaa.metaReads
open Go.ChangeShapes Go.WideShapes Go.ChangeAt Go.RowKit
open Go.ChangeMaps (open_string shut_string)
open Go.Proofs.Ytklmgdiaianlbaa.ib Go.Proofs.Ytklmgdiaianlbaa.mt

theorem own : ownKnob Try.prog.godebug = none := by kernel_rfl

theorem witness (os : Os) {H : Type} (enc : TypeId × Value → H) :
    (OpenSpec.ofChange Rows.metaReadsSpec).preRow enc Try.prog Try.f5 Rows.metaReadsRow.domain false Rows.metaReadsRow.laid ((World.holding Try.prog os ⟨#[], #[], []⟩).forCall (fun _ _ => 0) ⟨#[], #[.string ByteArray.empty], []⟩).memory #[.string ByteArray.empty] := by
  have hw : (DataW.whole enc Try.prog ((World.holding Try.prog os ⟨#[], #[], []⟩).forCall (fun _ _ => 0) ⟨#[], #[.string ByteArray.empty], []⟩).memory Try.f5.params.toList (OpenSpec.ofChange Rows.metaReadsSpec).vars false (#[.string ByteArray.empty] : Array Value).toList 8).map (fun x => (x.1, x.2.1)) =
      some ([.lit (.string [])], []) := by kernel_rfl
  obtain ⟨⟨x1, x2, x3⟩, hx, hx1⟩ := Option.map_eq_some_iff.1 hw
  simp only [Prod.mk.injEq] at hx1
  obtain ⟨rfl, rfl⟩ := hx1
  exact OpenSpec.preRow_of_cond 8 hx (by kernel_rfl) (fun k hk => by cases hk) (by kernel_rfl) (laidMetH_nil _ _)

set_option maxRecDepth 100000 in
set_option maxHeartbeats 1600000 in
theorem lifted (os : Os) (started : os.Started) (H : Type) (enc : TypeId × Value → H) (F : Stop.Interp) :
    ReturnsInHanded {} Try.checked os 5 .any ((OpenSpec.ofChange Rows.metaReadsSpec).preRow enc Try.prog Try.f5 Rows.metaReadsRow.domain false Rows.metaReadsRow.laid) (((OpenSpec.ofChange Rows.metaReadsSpec).at F).post enc Try.prog Try.f5 false true false false) := by
  refine returnsInHanded_of_row (C := Try.checked) (s := OpenSpec.ofChange Rows.metaReadsSpec) own started (by kernel_rfl) Try.func5
    (witness_row_at (enc := enc) (C := Try.checked) false (World.holding Try.prog os ⟨#[], #[], []⟩) #[.string ByteArray.empty] rfl (by kernel_rfl) (by kernel_rfl) (by kernel_rfl) (witness os enc)) ?_
  intro W base args ds gs before hval0 hW _ _ hsz0 hL _ _
  have hsz : (DataW.weightsEach Try.prog (Try.f5.params.toList ++ (OpenSpec.ofChange Rows.metaReadsSpec).bare.plain.varTypes Try.prog) (ds ++ gs)).all (· ≤ reachBytes) = true := hsz0
  have hval : ∀ (j : Nat) t v, Try.f5.params[j]? = some t → args[j]? = some v → Value.okWide Try.prog W .any base t v := hval0
  have hW' := hW
  obtain ⟨p, q, hA0, hV, rfl, hfz, hnd⟩ := hW
  have hA : DataW.TrodAll enc Try.prog W 0 (fun _ => true) true Try.f5.params.toList args.toList ds p := hA0
  rw [Try.params5] at hA hval hsz
  obtain ⟨v0, vs0, d0, ds0, p0, q0, hargs, rfl, rfl, h0, r0⟩ := trodAll_cons hA
  obtain ⟨rfl, rfl, rfl⟩ := trodAll_nil r0
  obtain rfl : args = #[v0] := by cases args; simp_all
  obtain ⟨rfl, rfl⟩ := trodVars_none hV
  obtain ⟨a0, rfl, rfl, rfl, w0⟩ := open_string Try.underlying9 (hval 0 9 v0 rfl rfl) h0
  have s0 : (bl a0).length ≤ reachBytes := sized_string hsz (j := 0) (t := 9) rfl rfl
  rw [bl_len] at s0
  simp only [reachBytes] at s0
  clear hA0 hval0 hsz0
  simp only [List.append_nil] at hW'
  refine (metaReads_walk hImpl a0 s0 W).mono fun e W' ⟨he, hg⟩ => ?_
  subst he
  exact ⟨_, rfl, _, _, _, [], [], [], hW', trodAll_mk1 (shut_bool Try.underlying4 _), (trodAll_cons_mk (shut_string Try.underlying9 w0) trodAll_mk0), rfl, hg.frame _, fun h => by cases h⟩

theorem over : Rows.MetaReadsSaid :=
  OpenClaim.holds_of_cond 5 Try.f5 rfl rfl rfl rfl rfl rfl rfl ⟨rfl, rfl, rfl, rfl, rfl⟩ rfl rfl rfl rfl rfl (by kernel_rfl) Try.func5 (by kernel_rfl)
    (of_decide_eq_true (by kernel_rfl)) (by unfold Func.isWrapper; first | (rw [if_pos (by decide +kernel)]; kernel_rfl) | (rw [if_neg (by decide +kernel)]; exact ⟨rfl, rfl⟩))
    (fun os started H enc _ F => by rw [OpenClaim.pre_eq_preRow]; exact lifted os started H enc F)

theorem proved : Rows.MetaReadsSaid :=
  over
#print axioms proved
end Go.Proofs.Ytklmgdiaianlbaa.metaReads


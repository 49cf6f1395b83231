/- No beginning of the bytes of a table is one's, nor are they with something behind. -/
import Derived.Test.YtklmgdiaianlbaaQ0
import Derived.Test.YtklmgdiaianlbaaQ14
import Derived.Test.YtklmgdiaianlbaaQ15
import Derived.Test.YtklmgdiaianlbaaQ19
import Derived.Test.YtklmgdiaianlbaaQ20
import Derived.Test.YtklmgdiaianlbaaQ3
import Derived.Test.YtklmgdiaianlbaaQ6
import Derived.Lib.QuietBelow
import Derived.Test.YtklmgdiaianlbaaProg
import Derived.WalkKit
import Derived.OpenShut
import Derived.Lib.ConvBytes
import Derived.Test.YtklmgdiaianlbaaRows
import Derived.Deep.DeepHandedRow
import Derived.ProofKit
import Derived.ShutString
import Derived.SizedLaws
import Derived.ChangeOld
import Derived.Below
import Derived.SliceStrings
set_option linter.unusedVariables false
set_option linter.unusedSimpArgs false
/- A table that is stored where another one lay. -/
namespace Go.Proofs.Ytklmgdiaianlbaa.mt
open Go Go.RowKit Go.Sort Go.Proofs.Ytklmgdiaianlbaa.ib Go.Proofs.Ytklmgdiaianlbaa.wi
set_option maxRecDepth 100000

theorem mhmixed : Try.prog.follows .mixedOrders = true := by kernel_rfl
theorem mtC_eq (A0 A1 A2 : Option Addr) (c0 c1 c2 : Nat) (m : Mt) : mtC A0 A1 A2 c0 c1 c2 m = mC (.slice A0 m.live.length c0) (.slice A1 m.snaps.length c1) (.slice A2 m.tok.img.length c2) m.tok := rfl
/-- What short answers, its slices as they are. -/
theorem MtO.open_ {W : World} {B : Nat} {v : Value} {m : Mt} (h : MtO W B v m) : ∃ A0 A1 A2 c0 c1 c2, v = .agg (mtC A0 A1 A2 c0 c1 c2 m) := by
  obtain ⟨A0, A1, A2, c0, c1, c2, hv, _⟩ := h.at_
  exact ⟨A0, A1, A2, c0, c1, c2, hv⟩
theorem box_mt {W : World} {B g : Nat} {A0 A1 A2 B0 B1 B2 : Option Addr} {c0 c1 c2 d0 d1 d2 : Nat} {m m' : Mt} (hA : Blk W g 30 (mtC B0 B1 B2 d0 d1 d2 m')) (h : MtO W B (.agg (mtC A0 A1 A2 c0 c1 c2 m)) m) :
    Blk (setMt W g (.slice A0 m.live.length c0) (.slice A1 m.snaps.length c1) (.slice A2 m.tok.img.length c2) m.tok) g 30 (mtC A0 A1 A2 c0 c1 c2 m) ∧ MtO (setMt W g (.slice A0 m.live.length c0) (.slice A1 m.snaps.length c1) (.slice A2 m.tok.img.length c2) m.tok) B (.agg (mtC A0 A1 A2 c0 c1 c2 m)) m :=
  ⟨setMt_blk (u0 := .slice B0 m'.live.length d0) (u1 := .slice B1 m'.snaps.length d1) (u2 := .slice B2 m'.tok.img.length d2) (t' := m'.tok) hA, h.kp (setMt_kp hA) (by decide) (by decide)⟩
/-- The nine cells of a table, at every world that is grown. -/
theorem nine {W : World} {g : Nat} {A0 A1 A2 : Option Addr} {c0 c1 c2 : Nat} {m : Mt} (h : Blk W g 30 (mtC A0 A1 A2 c0 c1 c2 m)) (d : Nat) (os : Array Obj) :
    (grow (redrawn W d) os).cell? ⟨g, 0, none⟩ = some (.slice A0 m.live.length c0) ∧ (grow (redrawn W d) os).cell? ⟨g, 1, none⟩ = some (.slice A1 m.snaps.length c1) ∧ (grow (redrawn W d) os).cell? ⟨g, 2, none⟩ = some (.int .u64 (m.tok.base.1 : Int)) ∧ (grow (redrawn W d) os).cell? ⟨g, 3, none⟩ = some (.int .u64 (m.tok.base.2 : Int)) ∧
    (grow (redrawn W d) os).cell? ⟨g, 4, none⟩ = some (.int .u64 (m.tok.target.1 : Int)) ∧ (grow (redrawn W d) os).cell? ⟨g, 5, none⟩ = some (.int .u64 (m.tok.target.2 : Int)) ∧ (grow (redrawn W d) os).cell? ⟨g, 6, none⟩ = some (.int .i64 m.tok.next) ∧ (grow (redrawn W d) os).cell? ⟨g, 7, none⟩ = some (.int .i64 m.tok.all) ∧
    (grow (redrawn W d) os).cell? ⟨g, 8, none⟩ = some (.slice A2 m.tok.img.length c2) := by
  have hb := h.below (below_regrown W d os)
  exact ⟨hb.cell 0, hb.cell 1, hb.cell 2, hb.cell 3, hb.cell 4, hb.cell 5, hb.cell 6, hb.cell 7, hb.cell 8⟩
end Go.Proofs.Ytklmgdiaianlbaa.mt

/- A string's bytes in memory, one of them set, read as a string again. -/
namespace Go.Proofs.Ytklmgdiaianlbaa
open Go.RowKit
set_option maxRecDepth 100000

theorem byte_of (a : Int) (w : (Lit.int .u8 a).wf = true) : ∃ c : UInt8, a = (c.toNat : Int) := by
  have hb := bounds_u8 w
  refine ⟨UInt8.ofNat a.toNat, ?_⟩
  rw [ofNat_small _ (by omega)]
  omega

theorem bytesWorld_below (w : World) (s : ByteArray) : Below w.heap.size w (Lib.bytesWorld w 5 s) :=
  ⟨rfl, rfl, rfl, by rw [Lib.bytesWorld_size]; omega, fun k hk => Lib.bytesWorld_at_old w 5 s k hk⟩

theorem bytesWorld_at (w : World) (s : ByteArray) (i : Nat) (h : i < s.size) : (Lib.bytesWorld w 5 s).cell? ⟨w.heap.size, i, none⟩ = some (.int .u8 (((bl s)[i]'(by rw [bl_len]; exact h)).toNat : Int)) := by
  rw [Lib.bytesWorld_cell w 5 s i h]
  have : s.data.toList.getD i 0 = (bl s)[i]'(by rw [bl_len]; exact h) := by simp [bl, h]
  rw [this]

theorem bytesWorld_free (w : World) (s : ByteArray) (i : Nat) (h : i < s.size) : (Lib.bytesWorld w 5 s).frozen? ⟨w.heap.size, i, none⟩ = false := by
  have hc := grownCap_ge w s.size 0 5
  have hs : s.size ≤ (Lib.bytesCells w 5 s).size := by
    have : s.size = s.data.size := rfl
    simp [Lib.bytesCells]
  simp [World.frozen?, Lib.bytesWorld_at_new]
  omega

/-- A string's bytes, one of them set, read as a string again. -/
theorem conv_set (w : World) (s : ByteArray) (i cap : Nat) (x : UInt8) (h : i < s.size) :
    (convert 44 9 (.slice (some ⟨w.heap.size, 0, none⟩) s.size cap)).run Try.prog ((Lib.bytesWorld w 5 s).setCell ⟨w.heap.size, i, none⟩ (.int .u8 (x.toNat : Int))) =
      .ok (.string (str ((bl s).set i x))) ((Lib.bytesWorld w 5 s).setCell ⟨w.heap.size, i, none⟩ (.int .u8 (x.toNat : Int))) := by
  have hl : ((bl s).set i x).length = s.size := by rw [List.length_set, bl_len]
  have := run_convert_bytes_back (P := Try.prog) ((Lib.bytesWorld w 5 s).setCell ⟨w.heap.size, i, none⟩ (.int .u8 (x.toNat : Int))) 44 9 5 ⟨w.heap.size, 0, none⟩ cap ((bl s).set i x) Try.underlying44 Try.underlying5 Try.underlying9 ?_
  · rw [hl] at this
    exact this
  · intro j hj
    have hj' : j < s.size := by omega
    rw [addr_add, Nat.zero_add]
    by_cases e : i = j
    · subst e
      rw [World.cell?_setCell_same _ _ _ (bytesWorld_at w s i h), List.getElem_set_self]
    · rw [World.cell?_setCell_other _ _ _ _ (fun h' => e (by simpa using congrArg Addr.off h')), bytesWorld_at w s j hj', List.getElem_set_ne e]

end Go.Proofs.Ytklmgdiaianlbaa

/- MetaCut's walk, by what the program's functions do. -/
namespace Go.Proofs.Ytklmgdiaianlbaa.mt
open Go Go.RowKit Go.Sort Go.Proofs.Ytklmgdiaianlbaa.ib Go.Proofs.Ytklmgdiaianlbaa.wi Go.Proofs.Ytklmgdiaianlbaa.im
set_option maxRecDepth 100000


set_option maxHeartbeats 6400000 in
theorem metaCut_walk (H : MImpl) (v : Value) (m : Mt) (at_ : Int) (hat : (Lit.int .u16 at_).wf = true) (b : Int) (hb : (Lit.int .u8 b).wf = true) (w : World) (hM : MtAt w v m) (hW : mtW m) :
    Calls Try.prog 7 #[v, .int .u16 at_, .int .u8 b] w (okTrue w) := by
  have hat2 := bounds_u16 hat
  obtain ⟨cb, rfl⟩ := byte_of b hb
  obtain ⟨A0, A1, A2, d0, d1, d2, rfl, hm⟩ := hM
  have hb1 := (Below.refl w.heap.size w).alloc (Nat.le_refl _) (.cells (mtC A0 A1 A2 d0 d1 d2 m) 30)
  have ha1 := Blk.new w 30 (mtC A0 A1 A2 d0 d1 d2 m)
  have hv1 : MtAt (w.alloc (.cells (mtC A0 A1 A2 d0 d1 d2 m) 30)) (.agg (mtC A0 A1 A2 d0 d1 d2 m)) m := ⟨A0, A1, A2, d0, d1, d2, rfl, hm.below hb1⟩
  obtain ⟨W1, hW1⟩ : ∃ z, w.alloc (.cells (mtC A0 A1 A2 d0 d1 d2 m) 30) = z := ⟨_, rfl⟩
  rw [hW1] at hb1 ha1 hv1
  have HB1 := Lib.hid hb1
  have HS := Lib.hid (short_any _ m W1 hv1 hW)
  have HH := Lib.hid H
  have a0 := ha1.cell 0
  have a1 := ha1.cell 1
  have a2 := ha1.cell 2
  have a3 := ha1.cell 3
  have a4 := ha1.cell 4
  have a5 := ha1.cell 5
  have a6 := ha1.cell 6
  have a7 := ha1.cell 7
  have a8 := ha1.cell 8
  simp only [mtC, List.getElem?_toArray, List.getElem?_cons_zero, List.getElem?_cons_succ] at a0 a1 a2 a3 a4 a5 a6 a7 a8
  have al := ha1.lt
  unfold mtC at hW1 HS ⊢
  clear hb1 ha1 hv1 H hm hW hat hb
  go_enter Try.func7, Try.ntmps7
  go_wp2_with fail
  clear hW1 a0 a1 a2 a3 a4 a5 a6 a7 a8 al
  refine HS.out.mono ?_
  rintro e W2 ⟨v2, rfl, hmo, hb2⟩
  have HB2 := Lib.hid (below_step HB1.out hb2)
  have henc := HH.out.enc v2 _ W2 hmo.at_ (short_sz m)
  have hB := hmo.at_.mB
  obtain ⟨r, hr⟩ : ∃ z, mEnc (mShort m) = z := ⟨_, rfl⟩
  rw [hr] at henc
  obtain ⟨S, er⟩ := r
  have HEN := Lib.hid henc
  have HMB := Lib.hid hB
  have HR := Lib.hid hr
  clear hmo hb2 HS HB1 henc hB hr
  dsimp only
  go_wp2_with fail
  refine HEN.out.mono ?_
  rintro e W3 ⟨rfl, hb3⟩
  have HB3 := Lib.hid (below_step HB2.out hb3)
  clear hb3 HEN HB2
  dsimp only
  by_cases he : er = 0
  case' neg =>
    have hne : (er != 0) = true := by simpa using he
    clear he
    go_wp2_with fail
    refine (works_any HH.out W3).mono ?_
    rintro e W4 ⟨rfl, hb4⟩
    have HB4 := Lib.hid (below_step HB3.out hb4)
    clear hb4
    go_wp2_with fail
    go_ret
    exact ⟨rfl, HB4.out⟩
  subst he
  have hne := enc_some HR.out
  have hcut := fun k hk => dec_cut HMB.out HR.out k hk
  have hmore := dec_more HMB.out HR.out cb
  have hsz : S.length ≤ 1600 := by
    have := enc_size (m := mShort m)
    rw [HR.out] at this
    exact this
  have hl0 : 0 < S.length := by
    cases S with
    | nil => exact absurd rfl hne
    | cons _ _ => simp
  obtain ⟨T, hT⟩ : ∃ z, str S = z := ⟨_, rfl⟩
  have hTb : bl T = S := by rw [← hT, bl_str]
  have hTs : T.size = S.length := by rw [← bl_len, hTb]
  rw [hT]
  have hTe : (T.toList == []) = false := by
    rw [toList_bl, hTb, beq_eq_false_iff_ne]
    exact hne
  have hT0 : ¬ ((T.size : Int) = 0) := by omega
  have HCUT := Lib.hid hcut
  have HMORE := Lib.hid hmore
  have HTB := Lib.hid hTb
  have HTS := Lib.hid hTs
  have hsz' : T.size ≤ 1600 := by omega
  have hpos : 0 < T.size := by omega
  have hkn : 0 ≤ at_ % (T.size : Int) ∧ at_ % (T.size : Int) < (T.size : Int) := ⟨Int.emod_nonneg _ hT0, Int.emod_lt_of_pos _ (by omega)⟩
  obtain ⟨k, hk⟩ : ∃ k : Nat, at_ % (T.size : Int) = (k : Int) := ⟨(at_ % (T.size : Int)).toNat, by omega⟩
  have hkl : k < T.size := by omega
  have hki : (0 : Int) ≤ (k : Int) ∧ (k : Int) ≤ (T.size : Int) := by omega
  clear hcut hmore hsz hl0 hne hT hTb hTs hkn
  go_wp2_with fail
  have hdec := HH.out.dec (T.extract 0 k) W3 (by simp; omega)
  rw [bl_upto, HTB.out, HCUT.out k (by have := HTS.out; omega)] at hdec
  refine hdec.mono ?_
  rintro e W4 ⟨v4, rfl, ⟨A0', A1', A2', d0', d1', d2', rfl, _⟩, hb4⟩
  have HB4 := Lib.hid (below_step HB3.out hb4)
  clear hdec hb4 HCUT HB3
  unfold mtC
  have hb5 := (Below.refl _ W4).alloc (Nat.le_refl _) (.cells #[.slice A0' mt0.live.length d0', .slice A1' mt0.snaps.length d1', .int .u64 (mt0.tok.base.1 : Int), .int .u64 (mt0.tok.base.2 : Int), .int .u64 (mt0.tok.target.1 : Int), .int .u64 (mt0.tok.target.2 : Int), .int .i64 mt0.tok.next, .int .i64 mt0.tok.all, .slice A2' mt0.tok.img.length d2'] 30)
  obtain ⟨W5, hW5⟩ : ∃ z, W4.alloc (.cells #[.slice A0' mt0.live.length d0', .slice A1' mt0.snaps.length d1', .int .u64 (mt0.tok.base.1 : Int), .int .u64 (mt0.tok.base.2 : Int), .int .u64 (mt0.tok.target.1 : Int), .int .u64 (mt0.tok.target.2 : Int), .int .i64 mt0.tok.next, .int .i64 mt0.tok.all, .slice A2' mt0.tok.img.length d2'] 30) = z := ⟨_, rfl⟩
  rw [hW5] at hb5
  have HB5 := Lib.hid (below_step HB4.out hb5)
  clear hb5 HB4
  have hb6 := (Below.refl _ W5).alloc (Nat.le_refl _) (.cells #[.int .u8 (cb.toNat : Int)] 5)
  have hcv := conv_block [cb] W5.heap.size 1 5 (W5.alloc (.cells #[.int .u8 (cb.toNat : Int)] 5)) rfl (Blk.new W5 5 _)
  obtain ⟨W6, hW6⟩ : ∃ z, W5.alloc (.cells #[.int .u8 (cb.toNat : Int)] 5) = z := ⟨_, rfl⟩
  rw [hW6] at hb6 hcv
  have HB6 := Lib.hid (below_step HB5.out hb6)
  have hq1 : ¬ (9223372036854775807 : Int) < (T.size : Int) + ((str [cb]).size : Int) := by rw [str_size]; simp; omega
  have hq2 : ¬ (9223372036854775807 : Int) < (T.size : Int) + 1 := by omega
  clear hb6 HB5
  dsimp only
  go_wp2_with fail
  clear hq1 hq2
  have hap : bl (T ++ str [cb]) = S ++ [cb] := by
    rw [← HTB.out]
    simp [bl, str]
  have hdec := HH.out.dec (T ++ str [cb]) W6 (by rw [← bl_len, hap, List.length_append]; have := HTS.out; simp; omega)
  rw [hap, HMORE.out] at hdec
  refine hdec.mono ?_
  rintro e W7 ⟨v7, rfl, ⟨B0', B1', B2', e0', e1', e2', rfl, _⟩, hb7⟩
  have HB7 := Lib.hid (below_step HB6.out hb7)
  clear hdec hb7 HMORE HB6 hcv hap hW5 hW6
  unfold mtC
  have hb8 := (Below.refl _ W7).alloc (Nat.le_refl _) (.cells #[.slice B0' mt0.live.length e0', .slice B1' mt0.snaps.length e1', .int .u64 (mt0.tok.base.1 : Int), .int .u64 (mt0.tok.base.2 : Int), .int .u64 (mt0.tok.target.1 : Int), .int .u64 (mt0.tok.target.2 : Int), .int .i64 mt0.tok.next, .int .i64 mt0.tok.all, .slice B2' mt0.tok.img.length e2'] 30)
  obtain ⟨W8, hW8⟩ : ∃ z, W7.alloc (.cells #[.slice B0' mt0.live.length e0', .slice B1' mt0.snaps.length e1', .int .u64 (mt0.tok.base.1 : Int), .int .u64 (mt0.tok.base.2 : Int), .int .u64 (mt0.tok.target.1 : Int), .int .u64 (mt0.tok.target.2 : Int), .int .i64 mt0.tok.next, .int .i64 mt0.tok.all, .slice B2' mt0.tok.img.length e2'] 30) = z := ⟨_, rfl⟩
  rw [hW8] at hb8
  have HB8 := Lib.hid (below_step HB7.out hb8)
  clear hb8 HB7
  dsimp only
  go_wp2_with fail
  try rw [hW8]
  clear hW8
  refine (works_any HH.out W8).mono ?_
  rintro e W9 ⟨rfl, hb9⟩
  have HB9 := Lib.hid (below_step HB8.out hb9)
  clear hb9 HB8
  go_wp2_with fail
  go_ret
  exact ⟨rfl, HB9.out⟩
end Go.Proofs.Ytklmgdiaianlbaa.mt

/- No beginning of the bytes of a table is one's, nor are they with something behind. -/
namespace Go.Proofs.Ytklmgdiaianlbaa.metaCut
open Go.ChangeShapes Go.WideShapes Go.ChangeAt Go.RowKit
open Go.ChangeMaps (open_string shut_string)
open Go.Proofs.Ytklmgdiaianlbaa.ib Go.Proofs.Ytklmgdiaianlbaa.mt

theorem own : ownKnob Try.prog.godebug = none := by kernel_rfl
theorem laidOut : laidOutB Try.prog = true := by kernel_rfl

theorem witness (os : Os) {H : Type} (enc : TypeId × Value → H) :
    (OpenSpec.ofChange Rows.metaCutSpec).preRow enc Try.prog Try.f7 Rows.metaCutRow.domain false Rows.metaCutRow.laid ((World.holding Try.prog os ⟨#[], #[], []⟩).forCall (fun _ _ => 0) ⟨#[], #[.agg #[.slice none 0 0, .slice none 0 0, .int .u64 0, .int .u64 0, .int .u64 0, .int .u64 0, .int .i64 0, .int .i64 0, .slice none 0 0], .int .u16 0, .int .u8 0], []⟩).memory #[.agg #[.slice none 0 0, .slice none 0 0, .int .u64 0, .int .u64 0, .int .u64 0, .int .u64 0, .int .i64 0, .int .i64 0, .slice none 0 0], .int .u16 0, .int .u8 0] := by
  have hw : (DataW.whole enc Try.prog ((World.holding Try.prog os ⟨#[], #[], []⟩).forCall (fun _ _ => 0) ⟨#[], #[.agg #[.slice none 0 0, .slice none 0 0, .int .u64 0, .int .u64 0, .int .u64 0, .int .u64 0, .int .i64 0, .int .i64 0, .slice none 0 0], .int .u16 0, .int .u8 0], []⟩).memory Try.f7.params.toList (OpenSpec.ofChange Rows.metaCutSpec).vars false (#[.agg #[.slice none 0 0, .slice none 0 0, .int .u64 0, .int .u64 0, .int .u64 0, .int .u64 0, .int .i64 0, .int .i64 0, .slice none 0 0], .int .u16 0, .int .u8 0] : Array Value).toList 8).map (fun x => (x.1, x.2.1)) =
      some ([.agg [.nil, .nil, .agg [.agg [.lit (.int .u64 0), .lit (.int .u64 0)], .agg [.lit (.int .u64 0), .lit (.int .u64 0)], .lit (.int .i64 0), .lit (.int .i64 0), .nil]], .lit (.int .u16 0), .lit (.int .u8 0)], []) := by kernel_rfl
  obtain ⟨⟨x1, x2, x3⟩, hx, hx1⟩ := Option.map_eq_some_iff.1 hw
  simp only [Prod.mk.injEq] at hx1
  obtain ⟨rfl, rfl⟩ := hx1
  exact OpenSpec.preRow_of_cond 8 hx (by kernel_rfl) (fun k hk => by cases hk) (by kernel_rfl) (laidMetH_nil _ _)

set_option maxRecDepth 100000 in
set_option maxHeartbeats 1600000 in
theorem lifted (os : Os) (started : os.Started) (H : Type) (enc : TypeId × Value → H) (F : Stop.Interp) :
    ReturnsInHanded {} Try.checked os 7 .any ((OpenSpec.ofChange Rows.metaCutSpec).preRow enc Try.prog Try.f7 Rows.metaCutRow.domain false Rows.metaCutRow.laid) (((OpenSpec.ofChange Rows.metaCutSpec).at F).post enc Try.prog Try.f7 false true false false) := by
  refine returnsInHanded_of_row (C := Try.checked) (s := OpenSpec.ofChange Rows.metaCutSpec) own started (by kernel_rfl) Try.func7
    (witness_row_at (enc := enc) (C := Try.checked) false (World.holding Try.prog os ⟨#[], #[], []⟩) #[.agg #[.slice none 0 0, .slice none 0 0, .int .u64 0, .int .u64 0, .int .u64 0, .int .u64 0, .int .i64 0, .int .i64 0, .slice none 0 0], .int .u16 0, .int .u8 0] rfl (by kernel_rfl) (by kernel_rfl) (by kernel_rfl) (witness os enc)) ?_
  intro W base args ds gs before hval0 hW _ _ hsz0 hL _ _
  have hval : ∀ (j : Nat) t v, Try.f7.params[j]? = some t → args[j]? = some v → Value.okWide Try.prog W .any base t v := hval0
  have hW' := hW
  obtain ⟨p, q, hA0, hV, rfl, hfz, hnd⟩ := hW
  have hA : DataW.TrodAll enc Try.prog W 0 (fun _ => true) true Try.f7.params.toList args.toList ds p := hA0
  rw [Try.params7] at hA hval
  obtain ⟨v0, vs0, d0, ds0, p0, q0, hargs, rfl, rfl, h0, r0⟩ := trodAll_cons hA
  obtain ⟨v1, vs1, d1, ds1, p1, q1, rfl, rfl, rfl, h1, r1⟩ := trodAll_cons r0
  obtain ⟨v2, vs2, d2, ds2, p2, q2, rfl, rfl, rfl, h2, r2⟩ := trodAll_cons r1
  obtain ⟨rfl, rfl, rfl⟩ := trodAll_nil r2
  obtain rfl : args = #[v0, v1, v2] := by cases args; simp_all
  obtain ⟨rfl, rfl⟩ := trodVars_none hV
  have k0 := h0
  have lt0 : ∀ x ∈ p0, x.block < W.heap.size := by obtain ⟨m, hm⟩ := k0; exact DataW.trod_lt m _ _ _ hm
  obtain ⟨m0, hM0, hW0⟩ := meta_of (hval 0 30 v0 rfl rfl) k0
  obtain ⟨a1, rfl, rfl, rfl, w1⟩ := open_int Try.underlying43 (hval 1 43 v1 rfl rfl) h1
  obtain ⟨a2, rfl, rfl, rfl, w2⟩ := open_int Try.underlying5 (hval 2 5 v2 rfl rfl) h2
  clear hA0 hval0 hsz0
  simp only [List.append_nil] at hW'
  refine (metaCut_walk hImpl v0 m0 a1 w1 a2 w2 W hM0 hW0).mono fun e W' ⟨he, hg⟩ => ?_
  subst he
  exact ⟨_, rfl, _, _, _, [], _, [], hW', trodAll_mk1 (shut_bool Try.underlying4 _), (trodAll_cons_mk (Below.trod laidOut (by kernel_rfl) (of_decide_eq_true (by kernel_rfl)) k0 hg lt0) (trodAll_cons_mk (shut_int Try.underlying43 w1) (trodAll_cons_mk (shut_int Try.underlying5 w2) trodAll_mk0))), rfl, hg.frame _, fun h => by cases h⟩

theorem over : Rows.MetaCutSaid :=
  OpenClaim.holds_of_cond 7 Try.f7 rfl rfl rfl rfl rfl rfl rfl ⟨rfl, rfl, rfl, rfl, rfl⟩ rfl rfl rfl rfl rfl (by kernel_rfl) Try.func7 (by kernel_rfl)
    (of_decide_eq_true (by kernel_rfl)) (by unfold Func.isWrapper; first | (rw [if_pos (by decide +kernel)]; kernel_rfl) | (rw [if_neg (by decide +kernel)]; exact ⟨rfl, rfl⟩))
    (fun os started H enc _ F => by rw [OpenClaim.pre_eq_preRow]; exact lifted os started H enc F)

theorem proved : Rows.MetaCutSaid :=
  over
#print axioms proved
end Go.Proofs.Ytklmgdiaianlbaa.metaCut


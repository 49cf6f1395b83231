/- StreamReads, of every input: the frame. -/
import Derived.Test.YtchdamlnbmngbaaDoorQ11
import Derived.Test.YtchdamlnbmngbaaDoorQ12
import Derived.Test.YtchdamlnbmngbaaDoorQ13
import Derived.Test.YtchdamlnbmngbaaDoorRows
import Derived.Test.YtchdamlnbmngbaaDoorCards
import Derived.Test.YtchdamlnbmngbaaDoorTie
import Derived.SevenTiedAt
import Derived.Deep.DeepHandedRow
import Derived.ProofKit
import Derived.OpenShut
import Derived.ShutString
import Derived.SizedLaws
set_option linter.unusedVariables false
set_option linter.unusedSimpArgs false
/- StreamReads' walk. -/
namespace Go.Proofs.YtchdamlnbmngbaaDoor.st
open Go Go.RowKit Go.Sort Go.Proofs.YtchdamlnbmngbaaDoor.ib Go.Proofs.YtchdamlnbmngbaaDoor.wi Go.Proofs.YtchdamlnbmngbaaDoor.mt
open Go.Proofs.YtchdamlnbmngbaaDoor.ch (ChL OChs chVals infoCh)
set_option maxRecDepth 100000

theorem pDec_few (s : List UInt8) : (pDec s).1.chs.length ≤ 2 := by
  rcases dec_two s with ⟨p, h1, h2, _, _⟩ | h1
  · rw [h1]
    exact (check_ok (enc_ok h2).1).few
  · rw [h1]
    decide
set_option maxHeartbeats 12800000 in
theorem streamReads_walk (a0 : ByteArray) (s0 : a0.size ≤ 140737488351232) (w : World) (ht : CTab w) :
    Calls Tryd.prog 5 #[.string a0] w fun e w' => e = .returned (.bool true) ∧ Below w.heap.size w w' := by
  have hm1 : min (a0.size : Int) 400 = ((min a0.size 400 : Nat) : Int) := by omega
  have hm2 : (if (a0.size : Int) < 400 then (a0.size : Int) else 400) = ((min a0.size 400 : Nat) : Int) := by split <;> omega
  have hm3 : (if (400 : Int) < (a0.size : Int) then (400 : Int) else (a0.size : Int)) = ((min a0.size 400 : Nat) : Int) := by split <;> omega
  have hki : ((min a0.size 400 : Nat) : Int) ≤ (a0.size : Int) := by omega
  have hk4 : min a0.size 400 ≤ 400 := by omega
  obtain ⟨ks, hks⟩ : ∃ z, min a0.size 400 = z := ⟨_, rfl⟩
  rw [hks] at hm1 hm2 hm3 hki hk4
  have HT := Lib.hid ht
  have HT0 := Lib.hid ht
  have HB0 := Lib.hid (Below.refl w.heap.size w)
  clear hks ht
  go_enter Tryd.func5, Tryd.ntmps5
  go_upto_region 2 with fail
  obtain ⟨S0, hS0⟩ : ∃ z, a0.extract 0 ks = z := ⟨_, rfl⟩
  have hs0 : S0.size ≤ 400 := by rw [← hS0, ex_upto, str_size, List.length_take]; omega
  rw [hS0]
  obtain ⟨S1, hS1⟩ : ∃ z, str (sldB (bl S0)) = z := ⟨_, rfl⟩
  have hs1 : S1.size ≤ 404 := by rw [← hS1, str_size]; have := sldB_len (bl S0); rw [bl_len] at this; omega
  have HSE : Hid (∀ W, CTab W → Calls Tryd.prog 22 #[.string S0] W (okStr S1 W)) := fun W h => by rw [← hS1]; exact sealed_any S0 W (by omega) h
  have HD0 : Hid (∀ W, CTab W → Calls Tryd.prog 20 #[.string S0] W (endP (pDec (bl S0)) W)) := fun W h => dec_any S0 W (by omega) h
  have HR0 : Hid (∀ W, Calls Tryd.prog 21 #[.string S0] W (endP (pDec (bl S0)) W)) := fun W => rdec_any S0 W (by omega)
  have HD1 : Hid (∀ W, CTab W → Calls Tryd.prog 20 #[.string S1] W (endP (pDec (bl S1)) W)) := fun W h => dec_any S1 W (by omega) h
  have HR1 : Hid (∀ W, Calls Tryd.prog 21 #[.string S1] W (endP (pDec (bl S1)) W)) := fun W => rdec_any S1 W (by omega)
  have HF0 := Lib.hid (pDec_few (bl S0))
  have HF1 := Lib.hid (pDec_few (bl S1))
  obtain ⟨X0, hX0⟩ : ∃ z, pDec (bl S0) = z := ⟨_, rfl⟩
  obtain ⟨X1, hX1⟩ : ∃ z, pDec (bl S1) = z := ⟨_, rfl⟩
  rw [hX0] at HD0 HR0 HF0
  rw [hX1] at HD1 HR1 HF1
  obtain ⟨P, E⟩ := X0
  obtain ⟨Q, G⟩ := X1
  dsimp only at HF0 HF1
  clear hS0 hS1 hs0 hs1 hm1 hm2 hm3 hki hk4 hX0 hX1
  go_wp2_with fail
  refine (HD0.out w HT0.out).mono ?_
  rintro e V1 ⟨A1, d1, rfl, hp, _, cv⟩
  dsimp only at hp ⊢
  unfold paC
  have cb := (Below.refl V1.heap.size V1).alloc (Nat.le_refl _) (.cells #[.int .u64 (P.base.1 : Int), .int .u64 (P.base.2 : Int), .int .u64 (P.target.1 : Int), .int .u64 (P.target.2 : Int), .int .i64 P.fr, .int .i64 P.all, .slice A1 P.chs.length d1] 30)
  have kb := Blk.new V1 30 #[.int .u64 (P.base.1 : Int), .int .u64 (P.base.2 : Int), .int .u64 (P.target.1 : Int), .int .u64 (P.target.2 : Int), .int .i64 P.fr, .int .i64 P.all, .slice A1 P.chs.length d1]
  obtain ⟨W1, hWn⟩ : ∃ z, V1.alloc (.cells #[.int .u64 (P.base.1 : Int), .int .u64 (P.base.2 : Int), .int .u64 (P.target.1 : Int), .int .u64 (P.target.2 : Int), .int .i64 P.fr, .int .i64 P.all, .slice A1 P.chs.length d1] 30) = z := ⟨_, rfl⟩
  rw [hWn] at cb kb
  obtain ⟨g1, hg⟩ : ∃ z, V1.heap.size = z := ⟨_, rfl⟩
  rw [hg] at kb
  have HWn := Lib.hid hWn
  have HGn := Lib.hid hg
  have cc := below_step cv cb
  have HB1 := Lib.hid (below_step HB0.out cc)
  have HP1_1 := Lib.hid (hp.below cb)
  have HM1_1 := Lib.hid kb
  have HT1 := Lib.hid (HT.out.below HB1.out HT.out.1)
  clear cb kb hWn hg cv hp cc
  go_upto_region 3 with fail
  try rw [HWn.out]
  try rw [HGn.out]
  clear HWn HGn
  go_wp2_with fail
  refine (HR0.out W1).mono ?_
  rintro e V2 ⟨A2, d2, rfl, hp, _, cv⟩
  dsimp only at hp ⊢
  unfold paC
  have cb := (Below.refl V2.heap.size V2).alloc (Nat.le_refl _) (.cells #[.int .u64 (P.base.1 : Int), .int .u64 (P.base.2 : Int), .int .u64 (P.target.1 : Int), .int .u64 (P.target.2 : Int), .int .i64 P.fr, .int .i64 P.all, .slice A2 P.chs.length d2] 30)
  have kb := Blk.new V2 30 #[.int .u64 (P.base.1 : Int), .int .u64 (P.base.2 : Int), .int .u64 (P.target.1 : Int), .int .u64 (P.target.2 : Int), .int .i64 P.fr, .int .i64 P.all, .slice A2 P.chs.length d2]
  obtain ⟨W2, hWn⟩ : ∃ z, V2.alloc (.cells #[.int .u64 (P.base.1 : Int), .int .u64 (P.base.2 : Int), .int .u64 (P.target.1 : Int), .int .u64 (P.target.2 : Int), .int .i64 P.fr, .int .i64 P.all, .slice A2 P.chs.length d2] 30) = z := ⟨_, rfl⟩
  rw [hWn] at cb kb
  obtain ⟨g2, hg⟩ : ∃ z, V2.heap.size = z := ⟨_, rfl⟩
  rw [hg] at kb
  have HWn := Lib.hid hWn
  have HGn := Lib.hid hg
  have cc := below_step cv cb
  have HB2 := Lib.hid (below_step HB1.out cc)
  have HP1_2 := Lib.hid (HP1_1.out.below cc)
  have HM1_2 := Lib.hid (HM1_1.out.below cc)
  have HP2_2 := Lib.hid (hp.below cb)
  have HM2_2 := Lib.hid kb
  have HT2 := Lib.hid (HT.out.below HB2.out HT.out.1)
  clear cb kb hWn hg cv hp cc
  go_upto_region 4 with fail
  try rw [HWn.out]
  try rw [HGn.out]
  clear HWn HGn
  go_wp2_with fail
  refine (HSE.out W2 HT2.out).mono ?_
  rintro e W3 ⟨rfl, cc⟩
  have HB3 := Lib.hid (below_step HB2.out cc)
  have HP1_3 := Lib.hid (HP1_2.out.below cc)
  have HM1_3 := Lib.hid (HM1_2.out.below cc)
  have HP2_3 := Lib.hid (HP2_2.out.below cc)
  have HM2_3 := Lib.hid (HM2_2.out.below cc)
  have HT3 := Lib.hid (HT.out.below HB3.out HT.out.1)
  clear cc
  go_wp2_with fail
  refine (HD1.out W3 HT3.out).mono ?_
  rintro e V3 ⟨A3, d3, rfl, hp, _, cv⟩
  dsimp only at hp ⊢
  unfold paC
  have cb := (Below.refl V3.heap.size V3).alloc (Nat.le_refl _) (.cells #[.int .u64 (Q.base.1 : Int), .int .u64 (Q.base.2 : Int), .int .u64 (Q.target.1 : Int), .int .u64 (Q.target.2 : Int), .int .i64 Q.fr, .int .i64 Q.all, .slice A3 Q.chs.length d3] 30)
  have kb := Blk.new V3 30 #[.int .u64 (Q.base.1 : Int), .int .u64 (Q.base.2 : Int), .int .u64 (Q.target.1 : Int), .int .u64 (Q.target.2 : Int), .int .i64 Q.fr, .int .i64 Q.all, .slice A3 Q.chs.length d3]
  obtain ⟨W4, hWn⟩ : ∃ z, V3.alloc (.cells #[.int .u64 (Q.base.1 : Int), .int .u64 (Q.base.2 : Int), .int .u64 (Q.target.1 : Int), .int .u64 (Q.target.2 : Int), .int .i64 Q.fr, .int .i64 Q.all, .slice A3 Q.chs.length d3] 30) = z := ⟨_, rfl⟩
  rw [hWn] at cb kb
  obtain ⟨g3, hg⟩ : ∃ z, V3.heap.size = z := ⟨_, rfl⟩
  rw [hg] at kb
  have HWn := Lib.hid hWn
  have HGn := Lib.hid hg
  have cc := below_step cv cb
  have HB4 := Lib.hid (below_step HB3.out cc)
  have HP1_4 := Lib.hid (HP1_3.out.below cc)
  have HM1_4 := Lib.hid (HM1_3.out.below cc)
  have HP2_4 := Lib.hid (HP2_3.out.below cc)
  have HM2_4 := Lib.hid (HM2_3.out.below cc)
  have HP3_4 := Lib.hid (hp.below cb)
  have HM3_4 := Lib.hid kb
  have HT4 := Lib.hid (HT.out.below HB4.out HT.out.1)
  clear cb kb hWn hg cv hp cc
  go_upto_region 6 with fail
  try rw [HWn.out]
  try rw [HGn.out]
  clear HWn HGn
  go_wp2_with fail
  refine (HR1.out W4).mono ?_
  rintro e V4 ⟨A4, d4, rfl, hp, _, cv⟩
  dsimp only at hp ⊢
  unfold paC
  have cb := (Below.refl V4.heap.size V4).alloc (Nat.le_refl _) (.cells #[.int .u64 (Q.base.1 : Int), .int .u64 (Q.base.2 : Int), .int .u64 (Q.target.1 : Int), .int .u64 (Q.target.2 : Int), .int .i64 Q.fr, .int .i64 Q.all, .slice A4 Q.chs.length d4] 30)
  have kb := Blk.new V4 30 #[.int .u64 (Q.base.1 : Int), .int .u64 (Q.base.2 : Int), .int .u64 (Q.target.1 : Int), .int .u64 (Q.target.2 : Int), .int .i64 Q.fr, .int .i64 Q.all, .slice A4 Q.chs.length d4]
  obtain ⟨W5, hWn⟩ : ∃ z, V4.alloc (.cells #[.int .u64 (Q.base.1 : Int), .int .u64 (Q.base.2 : Int), .int .u64 (Q.target.1 : Int), .int .u64 (Q.target.2 : Int), .int .i64 Q.fr, .int .i64 Q.all, .slice A4 Q.chs.length d4] 30) = z := ⟨_, rfl⟩
  rw [hWn] at cb kb
  obtain ⟨g4, hg⟩ : ∃ z, V4.heap.size = z := ⟨_, rfl⟩
  rw [hg] at kb
  have HWn := Lib.hid hWn
  have HGn := Lib.hid hg
  have cc := below_step cv cb
  have HB5 := Lib.hid (below_step HB4.out cc)
  have HP1_5 := Lib.hid (HP1_4.out.below cc)
  have HM1_5 := Lib.hid (HM1_4.out.below cc)
  have HP2_5 := Lib.hid (HP2_4.out.below cc)
  have HM2_5 := Lib.hid (HM2_4.out.below cc)
  have HP3_5 := Lib.hid (HP3_4.out.below cc)
  have HM3_5 := Lib.hid (HM3_4.out.below cc)
  have HP4_5 := Lib.hid (hp.below cb)
  have HM4_5 := Lib.hid kb
  have HT5 := Lib.hid (HT.out.below HB5.out HT.out.1)
  clear cb kb hWn hg cv hp cc
  go_upto_region 7 with fail
  try rw [HWn.out]
  try rw [HGn.out]
  clear HWn HGn
  have HSA := Lib.hid (rsame_any A1 A2 d1 d2 P P W5 HP1_5.out HP2_5.out (by have := HF0.out; omega) (by have := HF0.out; omega))
  rw [decide_eq_true (rfl : P = P)] at HSA
  unfold paC at HSA
  have ah := HM1_5.out
  have a0 := ah.cell 0
  have a1 := ah.cell 1
  have a2 := ah.cell 2
  have a3 := ah.cell 3
  have a4 := ah.cell 4
  have a5 := ah.cell 5
  have a6 := ah.cell 6
  have al := ah.lt
  simp only [List.getElem?_toArray, List.getElem?_cons_zero, List.getElem?_cons_succ] at a0 a1 a2 a3 a4 a5 a6
  clear ah
  have bh := HM2_5.out
  have b0 := bh.cell 0
  have b1 := bh.cell 1
  have b2 := bh.cell 2
  have b3 := bh.cell 3
  have b4 := bh.cell 4
  have b5 := bh.cell 5
  have b6 := bh.cell 6
  have bl := bh.lt
  simp only [List.getElem?_toArray, List.getElem?_cons_zero, List.getElem?_cons_succ] at b0 b1 b2 b3 b4 b5 b6
  clear bh
  have ch := HM3_5.out
  have c0 := ch.cell 0
  have c1 := ch.cell 1
  have c2 := ch.cell 2
  have c3 := ch.cell 3
  have c4 := ch.cell 4
  have c5 := ch.cell 5
  have c6 := ch.cell 6
  have cl := ch.lt
  simp only [List.getElem?_toArray, List.getElem?_cons_zero, List.getElem?_cons_succ] at c0 c1 c2 c3 c4 c5 c6
  clear ch
  have qh := HM4_5.out
  have q0 := qh.cell 0
  have q1 := qh.cell 1
  have q2 := qh.cell 2
  have q3 := qh.cell 3
  have q4 := qh.cell 4
  have q5 := qh.cell 5
  have q6 := qh.cell 6
  have ql := qh.lt
  simp only [List.getElem?_toArray, List.getElem?_cons_zero, List.getElem?_cons_succ] at q0 q1 q2 q3 q4 q5 q6
  clear qh
  clear HSE HD0 HR0 HD1 HR1
  go_wp2_with fail
  refine HSA.out.mono ?_
  rintro e W6 ⟨rfl, cc⟩
  have HB6 := Lib.hid (below_step HB5.out cc)
  have HP1_6 := Lib.hid (HP1_5.out.below cc)
  have HM1_6 := Lib.hid (HM1_5.out.below cc)
  have HP2_6 := Lib.hid (HP2_5.out.below cc)
  have HM2_6 := Lib.hid (HM2_5.out.below cc)
  have HP3_6 := Lib.hid (HP3_5.out.below cc)
  have HM3_6 := Lib.hid (HM3_5.out.below cc)
  have HP4_6 := Lib.hid (HP4_5.out.below cc)
  have HM4_6 := Lib.hid (HM4_5.out.below cc)
  have HT6 := Lib.hid (HT.out.below HB6.out HT.out.1)
  clear a0 a1 a2 a3 a4 a5 a6 al
  clear b0 b1 b2 b3 b4 b5 b6 bl
  clear c0 c1 c2 c3 c4 c5 c6 cl
  clear q0 q1 q2 q3 q4 q5 q6 ql
  have HSB := Lib.hid (rsame_any A3 A4 d3 d4 Q Q W6 HP3_6.out HP4_6.out (by have := HF1.out; omega) (by have := HF1.out; omega))
  rw [decide_eq_true (rfl : Q = Q)] at HSB
  unfold paC at HSB
  have ch := HM3_6.out
  have c0 := ch.cell 0
  have c1 := ch.cell 1
  have c2 := ch.cell 2
  have c3 := ch.cell 3
  have c4 := ch.cell 4
  have c5 := ch.cell 5
  have c6 := ch.cell 6
  have cl := ch.lt
  simp only [List.getElem?_toArray, List.getElem?_cons_zero, List.getElem?_cons_succ] at c0 c1 c2 c3 c4 c5 c6
  clear ch
  have qh := HM4_6.out
  have q0 := qh.cell 0
  have q1 := qh.cell 1
  have q2 := qh.cell 2
  have q3 := qh.cell 3
  have q4 := qh.cell 4
  have q5 := qh.cell 5
  have q6 := qh.cell 6
  have ql := qh.lt
  simp only [List.getElem?_toArray, List.getElem?_cons_zero, List.getElem?_cons_succ] at q0 q1 q2 q3 q4 q5 q6
  clear qh
  clear cc HSA
  go_wp2_with fail
  refine HSB.out.mono ?_
  rintro e W7 ⟨rfl, cc⟩
  have HB7 := Lib.hid (below_step HB6.out cc)
  have HWK := Lib.hid (works_any W7 (HT.out.below HB7.out HT.out.1))
  clear c0 c1 c2 c3 c4 c5 c6 cl
  clear q0 q1 q2 q3 q4 q5 q6 ql
  clear cc HSB
  go_wp2_with fail
  refine HWK.out.mono ?_
  rintro e W8 ⟨rfl, cc⟩
  have HB8 := Lib.hid (below_step HB7.out cc)
  clear cc HWK
  go_wp2_with fail
  go_ret
  exact ⟨rfl, HB8.out⟩
end Go.Proofs.YtchdamlnbmngbaaDoor.st

/- StreamReads, of every input: the frame. -/
namespace Go.Proofs.YtchdamlnbmngbaaDoor.streamReads
open Go.ChangeShapes Go.WideShapes Go.ChangeAt Go.RowKit
open Go.ChangeMaps (open_string shut_string)
open Go.Proofs.YtchdamlnbmngbaaDoor.ib Go.Proofs.YtchdamlnbmngbaaDoor.wi Go.Proofs.YtchdamlnbmngbaaDoor.mt Go.Proofs.YtchdamlnbmngbaaDoor.st

theorem own : ownKnob Tryd.prog.godebug = none := by kernel_rfl

theorem laid_met (os : Os) (args : Array Value) : laidMet Tryd.prog Rows.streamReadsRow.laid ((laidWorld os).forCall (fun _ _ => 0) ⟨#[], args, []⟩).memory :=
  laidMet_of_run' 8 (by kernel_rfl) (by kernel_rfl)

theorem witness (os : Os) {H : Type} (enc : TypeId × Value → H) :
    (OpenSpec.ofChange Rows.streamReadsSpec).preRow enc Tryd.prog Tryd.f5 Rows.streamReadsRow.domain false Rows.streamReadsRow.laid ((laidWorld os).forCall (fun _ _ => 0) ⟨#[], #[.string ByteArray.empty], []⟩).memory #[.string ByteArray.empty] := by
  have hw : (DataW.whole enc Tryd.prog ((laidWorld os).forCall (fun _ _ => 0) ⟨#[], #[.string ByteArray.empty], []⟩).memory Tryd.f5.params.toList (OpenSpec.ofChange Rows.streamReadsSpec).vars false (#[.string ByteArray.empty] : Array Value).toList 8).map (fun x => (x.1, x.2.1)) =
      some ([.lit (.string [])], []) := by kernel_rfl
  obtain ⟨⟨x1, x2, x3⟩, hx, hx1⟩ := Option.map_eq_some_iff.1 hw
  simp only [Prod.mk.injEq] at hx1
  obtain ⟨rfl, rfl⟩ := hx1
  exact OpenSpec.preRow_of_cond 8 hx (by kernel_rfl) (fun k hk => by cases hk) (by kernel_rfl) (laid_met os _)

set_option maxRecDepth 100000 in
set_option maxHeartbeats 1600000 in
theorem lifted (os : Os) (started : os.Started) (H : Type) (enc : TypeId × Value → H) (F : Stop.Interp) :
    ReturnsInHanded {} Tryd.checked os 5 .any ((OpenSpec.ofChange Rows.streamReadsSpec).preRow enc Tryd.prog Tryd.f5 Rows.streamReadsRow.domain false Rows.streamReadsRow.laid) (((OpenSpec.ofChange Rows.streamReadsSpec).at F).post enc Tryd.prog Tryd.f5 false true false false) := by
  refine returnsInHanded_of_row (C := Tryd.checked) (s := OpenSpec.ofChange Rows.streamReadsSpec) own started (by kernel_rfl) Tryd.func5
    (witness_row_at (enc := enc) (C := Tryd.checked) false (laidWorld os) #[.string ByteArray.empty] rfl (by kernel_rfl) (by kernel_rfl) (by kernel_rfl) (witness os enc)) ?_
  intro W base args ds gs before hval0 hW _ _ hsz0 hL _ _
  have ht : CTab W := ctab_of_laid hL (by kernel_rfl)
  have hsz : (DataW.weightsEach Tryd.prog (Tryd.f5.params.toList ++ (OpenSpec.ofChange Rows.streamReadsSpec).bare.plain.varTypes Tryd.prog) (ds ++ gs)).all (· ≤ reachBytes) = true := hsz0
  have hval : ∀ (j : Nat) t v, Tryd.f5.params[j]? = some t → args[j]? = some v → Value.okWide Tryd.prog W .any base t v := hval0
  have hW' := hW
  obtain ⟨p, q, hA0, hV, rfl, hfz, hnd⟩ := hW
  have hA : DataW.TrodAll enc Tryd.prog W 0 (fun _ => true) true Tryd.f5.params.toList args.toList ds p := hA0
  rw [Tryd.params5] at hA hval hsz
  obtain ⟨v0, vs0, d0, ds0, p0, q0, hargs, rfl, rfl, h0, r0⟩ := trodAll_cons hA
  obtain ⟨rfl, rfl, rfl⟩ := trodAll_nil r0
  obtain rfl : args = #[v0] := by cases args; simp_all
  obtain ⟨rfl, rfl⟩ := trodVars_none hV
  obtain ⟨a0, rfl, rfl, rfl, w0⟩ := open_string Tryd.underlying9 (hval 0 9 v0 rfl rfl) h0
  have s0 : (bl a0).length ≤ reachBytes := sized_string hsz (j := 0) (t := 9) rfl rfl
  rw [bl_len] at s0
  simp only [reachBytes] at s0
  clear hA0 hval0 hsz0
  simp only [List.append_nil] at hW'
  refine (streamReads_walk a0 s0 W ht).mono fun e W' ⟨he, hg⟩ => ?_
  subst he
  exact ⟨_, rfl, _, _, _, [], [], [], hW', trodAll_mk1 (shut_bool Tryd.underlying4 _), (trodAll_cons_mk (shut_string Tryd.underlying9 w0) trodAll_mk0), rfl, hg.frame _, fun h => by cases h⟩

theorem over : Rows.StreamReadsSaid :=
  OpenClaim.holds_of_cond 5 Tryd.f5 rfl rfl rfl rfl rfl rfl rfl ⟨rfl, rfl, rfl, rfl, rfl⟩ rfl rfl rfl rfl rfl (by kernel_rfl) Tryd.func5 (by kernel_rfl)
    (of_decide_eq_true (by kernel_rfl)) (by unfold Func.isWrapper; first | (rw [if_pos (by decide +kernel)]; kernel_rfl) | (rw [if_neg (by decide +kernel)]; exact ⟨rfl, rfl⟩))
    (fun os started H enc _ F => by rw [OpenClaim.pre_eq_preRow]; exact lifted os started H enc F)

theorem proved : Rows.StreamReadsCardSaid :=
  Claim7.holds_tied_plain_at .later [] [.data] true Rows.streamReadsCard.stood.harness false
    over (fun _ h => by cases h) (by kernel_rfl) (fun _ h => by cases h) streamReads_row_tie rfl ⟨rfl, rfl⟩ (by kernel_rfl) rfl
    (fun f fn hf hfn => by
      obtain rfl : f = 5 := Option.some.inj ((show Tryd.prog.funcNamed Rows.streamReadsRow.func = some 5 by kernel_rfl).symm.trans hf) |>.symm
      obtain rfl : fn = Tryd.f5 := (Option.some.inj (Tryd.func5.symm.trans hfn)).symm
      exact ⟨by kernel_rfl, fun j t ht => by
        rw [Tryd.params5] at ht
        rcases j with _ | j
        · have : t = 9 := by simpa using ht.symm
          subst this
          exact (show Tryd.prog.wantsStandIn 9 = false by kernel_rfl)
        simp at ht⟩)
    (by kernel_rfl)
#print axioms proved
end Go.Proofs.YtchdamlnbmngbaaDoor.streamReads


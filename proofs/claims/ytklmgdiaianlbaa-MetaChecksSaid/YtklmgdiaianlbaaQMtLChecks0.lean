/- Whether any table may be is told as the document says. -/
import Derived.Test.YtklmgdiaianlbaaQ11
import Derived.Test.YtklmgdiaianlbaaQ15
import Derived.Test.YtklmgdiaianlbaaQ19
import Derived.Test.YtklmgdiaianlbaaQ20
import Derived.Test.YtklmgdiaianlbaaQ6
import Derived.Lib.QuietBelow
import Derived.Test.YtklmgdiaianlbaaRows
import Derived.Deep.DeepHandedRow
import Derived.ProofKit
import Derived.OpenShut
import Derived.ShutString
import Derived.SizedLaws
import Derived.ChangeOld
import Derived.Below
import Derived.SliceStrings
set_option linter.unusedVariables false
set_option linter.unusedSimpArgs false
/- A table that is stored where another one lay. -/
namespace Go.Proofs.Ytklmgdiaianlbaa.mt
open Go Go.RowKit Go.Sort Go.Proofs.Ytklmgdiaianlbaa.ib Go.Proofs.Ytklmgdiaianlbaa.wi
set_option maxRecDepth 100000

theorem mhmixed : Try.prog.follows .mixedOrders = true := by kernel_rfl
theorem mtC_eq (A0 A1 A2 : Option Addr) (c0 c1 c2 : Nat) (m : Mt) : mtC A0 A1 A2 c0 c1 c2 m = mC (.slice A0 m.live.length c0) (.slice A1 m.snaps.length c1) (.slice A2 m.tok.img.length c2) m.tok := rfl
/-- What short answers, its slices as they are. -/
theorem MtO.open_ {W : World} {B : Nat} {v : Value} {m : Mt} (h : MtO W B v m) : ∃ A0 A1 A2 c0 c1 c2, v = .agg (mtC A0 A1 A2 c0 c1 c2 m) := by
  obtain ⟨A0, A1, A2, c0, c1, c2, hv, _⟩ := h.at_
  exact ⟨A0, A1, A2, c0, c1, c2, hv⟩
theorem box_mt {W : World} {B g : Nat} {A0 A1 A2 B0 B1 B2 : Option Addr} {c0 c1 c2 d0 d1 d2 : Nat} {m m' : Mt} (hA : Blk W g 30 (mtC B0 B1 B2 d0 d1 d2 m')) (h : MtO W B (.agg (mtC A0 A1 A2 c0 c1 c2 m)) m) :
    Blk (setMt W g (.slice A0 m.live.length c0) (.slice A1 m.snaps.length c1) (.slice A2 m.tok.img.length c2) m.tok) g 30 (mtC A0 A1 A2 c0 c1 c2 m) ∧ MtO (setMt W g (.slice A0 m.live.length c0) (.slice A1 m.snaps.length c1) (.slice A2 m.tok.img.length c2) m.tok) B (.agg (mtC A0 A1 A2 c0 c1 c2 m)) m :=
  ⟨setMt_blk (u0 := .slice B0 m'.live.length d0) (u1 := .slice B1 m'.snaps.length d1) (u2 := .slice B2 m'.tok.img.length d2) (t' := m'.tok) hA, h.kp (setMt_kp hA) (by decide) (by decide)⟩
/-- The nine cells of a table, at every world that is grown. -/
theorem nine {W : World} {g : Nat} {A0 A1 A2 : Option Addr} {c0 c1 c2 : Nat} {m : Mt} (h : Blk W g 30 (mtC A0 A1 A2 c0 c1 c2 m)) (d : Nat) (os : Array Obj) :
    (grow (redrawn W d) os).cell? ⟨g, 0, none⟩ = some (.slice A0 m.live.length c0) ∧ (grow (redrawn W d) os).cell? ⟨g, 1, none⟩ = some (.slice A1 m.snaps.length c1) ∧ (grow (redrawn W d) os).cell? ⟨g, 2, none⟩ = some (.int .u64 (m.tok.base.1 : Int)) ∧ (grow (redrawn W d) os).cell? ⟨g, 3, none⟩ = some (.int .u64 (m.tok.base.2 : Int)) ∧
    (grow (redrawn W d) os).cell? ⟨g, 4, none⟩ = some (.int .u64 (m.tok.target.1 : Int)) ∧ (grow (redrawn W d) os).cell? ⟨g, 5, none⟩ = some (.int .u64 (m.tok.target.2 : Int)) ∧ (grow (redrawn W d) os).cell? ⟨g, 6, none⟩ = some (.int .i64 m.tok.next) ∧ (grow (redrawn W d) os).cell? ⟨g, 7, none⟩ = some (.int .i64 m.tok.all) ∧
    (grow (redrawn W d) os).cell? ⟨g, 8, none⟩ = some (.slice A2 m.tok.img.length c2) := by
  have hb := h.below (below_regrown W d os)
  exact ⟨hb.cell 0, hb.cell 1, hb.cell 2, hb.cell 3, hb.cell 4, hb.cell 5, hb.cell 6, hb.cell 7, hb.cell 8⟩
end Go.Proofs.Ytklmgdiaianlbaa.mt

/- MetaChecks' walk, by what the program's functions do. -/
namespace Go.Proofs.Ytklmgdiaianlbaa.mt
open Go Go.RowKit Go.Sort Go.Proofs.Ytklmgdiaianlbaa.ib Go.Proofs.Ytklmgdiaianlbaa.wi Go.Proofs.Ytklmgdiaianlbaa.im
set_option maxRecDepth 100000

def WChG (g0 : Nat) (B0 B1 B2 : Option Addr) (e0 e1 e2 : Nat) (ms : Mt) (b n r1 r2 : Int) : Nat → Value → World → Prop
  | 0, v, _ => v = .agg #[.slice B0 ms.live.length e0, .slice B1 ms.snaps.length e1, .int .u64 (ms.tok.base.1 : Int), .int .u64 (ms.tok.base.2 : Int), .int .u64 (ms.tok.target.1 : Int), .int .u64 (ms.tok.target.2 : Int), .int .i64 ms.tok.next, .int .i64 ms.tok.all, .slice B2 ms.tok.img.length e2]
  | 1, v, _ => v = .int .i64 b
  | 2, v, _ => v = .int .i64 n
  | 3, v, _ => v = .int .i64 r1
  | 4, v, _ => v = .agg #[.slice B0 ms.live.length e0, .slice B1 ms.snaps.length e1, .int .u64 (ms.tok.base.1 : Int), .int .u64 (ms.tok.base.2 : Int), .int .u64 (ms.tok.target.1 : Int), .int .u64 (ms.tok.target.2 : Int), .int .i64 ms.tok.next, .int .i64 ms.tok.all, .slice B2 ms.tok.img.length e2]
  | 5, v, _ => v = .int .i64 b
  | 6, v, _ => v = .int .i64 n
  | 7, v, _ => v = .int .i64 r1
  | 8, v, _ => v = .bool true
  | 9, v, _ => v = .bool true
  | 10, v, _ => v = .agg #[.slice B0 ms.live.length e0, .slice B1 ms.snaps.length e1, .int .u64 (ms.tok.base.1 : Int), .int .u64 (ms.tok.base.2 : Int), .int .u64 (ms.tok.target.1 : Int), .int .u64 (ms.tok.target.2 : Int), .int .i64 ms.tok.next, .int .i64 ms.tok.all, .slice B2 ms.tok.img.length e2]
  | 11, v, _ => v = .pointer (some ⟨g0, 0, none⟩)
  | 12, v, _ => v = .slice B0 ms.live.length e0
  | 13, v, _ => v = .int .i64 (ms.live.length : Int)
  | 14, v, _ => v = .int .i64 n
  | 15, v, _ => v = .int .i64 r2
  | 16, v, _ => v = .agg #[.slice B0 ms.live.length e0, .slice B1 ms.snaps.length e1, .int .u64 (ms.tok.base.1 : Int), .int .u64 (ms.tok.base.2 : Int), .int .u64 (ms.tok.target.1 : Int), .int .u64 (ms.tok.target.2 : Int), .int .i64 ms.tok.next, .int .i64 ms.tok.all, .slice B2 ms.tok.img.length e2]
  | 17, v, _ => v = .pointer (some ⟨g0, 0, none⟩)
  | 18, v, _ => v = .slice B0 ms.live.length e0
  | 19, v, _ => v = .int .i64 (ms.live.length : Int)
  | 20, v, _ => v = .int .i64 n
  | 21, v, _ => v = .int .i64 r2
  | 22, v, _ => v = .bool true
  | 23, v, _ => v = .bool true
  | 24, v, _ => v = .bool true
  | 25, v, _ => v = .bool true
  | 26, v, _ => v = .bool true
  | 27, v, _ => v = .bool true
  | _, _, _ => True
theorem WChG_mono (g0 : Nat) (B0 B1 B2 : Option Addr) (e0 e1 e2 : Nat) (ms : Mt) (b n r1 r2 : Int) (i : Nat) (v : Value) (w w' : World) (hi : i < 28) (h : WChG g0 B0 B1 B2 e0 e1 e2 ms b n r1 r2 i v w) (hb : Below w.heap.size w w') : WChG g0 B0 B1 B2 e0 e1 e2 ms b n r1 r2 i v w' := by
  match i, hi, h with
  | 0, _, h | 1, _, h | 2, _, h | 3, _, h | 4, _, h | 5, _, h | 6, _, h | 7, _, h | 8, _, h | 9, _, h | 10, _, h | 11, _, h | 12, _, h | 13, _, h | 14, _, h | 15, _, h | 16, _, h | 17, _, h | 18, _, h | 19, _, h | 20, _, h | 21, _, h | 22, _, h | 23, _, h | 24, _, h | 25, _, h | 26, _, h | 27, _, h => exact h
  | j + 28, hi, _ => exact absurd hi (by omega)
set_option maxHeartbeats 6400000 in
theorem metaChecks_walk (H : MImpl) (v : Value) (m : Mt) (b : Int) (hb : (Lit.int .i64 b).wf = true) (n : Int) (hn : (Lit.int .i64 n).wf = true) (w : World) (hM : MtAt w v m) (hW : mtW m) :
    Calls Try.prog 3 #[v, .int .i64 b, .int .i64 n] w (okTrue w) := by
  have hb64 : i64B b := bounds_i64 hb
  have hn64 : i64B n := bounds_i64 hn
  obtain ⟨A0, A1, A2, d0, d1, d2, rfl, hm⟩ := hM
  have hb1 := (Below.refl w.heap.size w).alloc (Nat.le_refl _) (.cells (mtC A0 A1 A2 d0 d1 d2 m) 30)
  have ha1 := Blk.new w 30 (mtC A0 A1 A2 d0 d1 d2 m)
  have hv1 : MtAt (w.alloc (.cells (mtC A0 A1 A2 d0 d1 d2 m) 30)) (.agg (mtC A0 A1 A2 d0 d1 d2 m)) m := ⟨A0, A1, A2, d0, d1, d2, rfl, hm.below hb1⟩
  obtain ⟨W1, hW1⟩ : ∃ z, w.alloc (.cells (mtC A0 A1 A2 d0 d1 d2 m) 30) = z := ⟨_, rfl⟩
  rw [hW1] at hb1 ha1 hv1
  have HB1 := Lib.hid hb1
  have HA1 := Lib.hid ha1
  have HS := Lib.hid (short_any _ m W1 hv1 hW)
  have HH := Lib.hid H
  have HB64 := Lib.hid hb64
  have HN64 := Lib.hid hn64
  have a0 := ha1.cell 0
  have a1 := ha1.cell 1
  have a2 := ha1.cell 2
  have a3 := ha1.cell 3
  have a4 := ha1.cell 4
  have a5 := ha1.cell 5
  have a6 := ha1.cell 6
  have a7 := ha1.cell 7
  have a8 := ha1.cell 8
  unfold mtC at hW1 HS ⊢
  simp only [mtC, List.getElem?_toArray, List.getElem?_cons_zero, List.getElem?_cons_succ] at a0 a1 a2 a3 a4 a5 a6 a7 a8
  have hla := ha1.lt
  clear hb1 ha1 hv1 H hm hW hb64 hn64 hb hn
  go_enter Try.func3, Try.ntmps3
  go_wp2_with fail
  refine HS.out.mono ?_
  rintro e W2 ⟨v2, rfl, hmo, hb2⟩
  obtain ⟨B0, B1, B2, e0, e1, e2, rfl⟩ := hmo.open_
  obtain ⟨hbx, hmo3⟩ := box_mt (HA1.out.below hb2) hmo
  have hb3 : Below w.heap.size w (setMt W2 w.heap.size (.slice B0 (mShort m).live.length e0) (.slice B1 (mShort m).snaps.length e1) (.slice B2 (mShort m).tok.img.length e2) (mShort m).tok) := setMt_below (below_step HB1.out hb2) (Nat.le_refl _)
  have ha2 := HA1.out.below hb2
  have hsz := short_sz m
  obtain ⟨ms, hms⟩ : ∃ z, mShort m = z := ⟨_, rfl⟩
  rw [hms] at hbx hmo3 hb3 hmo hsz ⊢
  have a0 := ha2.cell 0
  have a1 := ha2.cell 1
  have a2 := ha2.cell 2
  have a3 := ha2.cell 3
  have a4 := ha2.cell 4
  have a5 := ha2.cell 5
  have a6 := ha2.cell 6
  have a7 := ha2.cell 7
  have a8 := ha2.cell 8
  simp only [mtC, List.getElem?_toArray, List.getElem?_cons_zero, List.getElem?_cons_succ] at a0 a1 a2 a3 a4 a5 a6 a7 a8
  have f0 := ha2.frozen 0
  have f1 := ha2.frozen 1
  have f2 := ha2.frozen 2
  have f3 := ha2.frozen 3
  have f4 := ha2.frozen 4
  have f5 := ha2.frozen 5
  have f6 := ha2.frozen 6
  have f7 := ha2.frozen 7
  have f8 := ha2.frozen 8
  have hla := ha2.lt
  obtain ⟨W3, hW3⟩ : ∃ z, setMt W2 w.heap.size (.slice B0 ms.live.length e0) (.slice B1 ms.snaps.length e1) (.slice B2 ms.tok.img.length e2) ms.tok = z := ⟨_, rfl⟩
  rw [hW3] at hbx hmo3 hb3
  unfold setMt setTok at hW3
  have HBX := Lib.hid hbx
  have HMO := Lib.hid hmo3
  have HB3 := Lib.hid hb3
  have HSZ := Lib.hid hsz
  clear hbx hmo3 hb3 hsz hmo hb2 ha2 hms HS HB1 HA1 hW1
  unfold mtC
  dsimp only
  go_wp2_with fail
  try rw [hW3]
  clear hW3 a0 a1 a2 a3 a4 a5 a6 a7 a8 f0 f1 f2 f3 f4 f5 f6 f7 f8 hla
  obtain ⟨r1, hr1⟩ : ∃ r, mCheck ms b n = r := ⟨_, rfl⟩
  obtain ⟨r2, hr2⟩ : ∃ r, mCheck ms ms.live.length n = r := ⟨_, rfl⟩
  have hl64 : i64B (ms.live.length : Int) := by have := HSZ.out.live; unfold i64B; omega
  have HL64 := Lib.hid hl64
  clear hl64
  refine wp_region_inv (by kernel_rfl) [9, 10, 11, 12, 13, 14, 15, 16, 17, 18, 19, 20, 21, 22, 23, 24, 25, 26, 27, 28, 29, 30, 31, 32, 33, 34, 35, 6] (by kernel_rfl) (fun L vs W => Below W3.heap.size W3 W ∧ ∀ i, L i = true → i < 28 → WChG w.heap.size B0 B1 B2 e0 e1 e2 ms b n r1 r2 i (vs i) W) ⟨(Below.refl _ _).drew, fun i hi => by cases hi⟩ ?_ ?_ ?_
  · intro i o L vs ρ W ho hli haft hρ hgd hI
    obtain ⟨hb, hG'⟩ := hI
    have hG : ∀ j, L j = true → WChG w.heap.size B0 B1 B2 e0 e1 e2 ms b n r1 r2 j (vs j) W := fun j hj => by
      by_cases h51 : j < 28
      · exact hG' j hj h51
      · match j, h51 with
        | j + 28, _ => exact trivial
    have hi51 : i < 28 := (Array.getElem?_eq_some_iff.1 ho).1
    have hc := hρ.const
    have hfn := hρ.fn
    have next : ∀ v W', Below W.heap.size W W' → WChG w.heap.size B0 B1 B2 e0 e1 e2 ms b n r1 r2 i v W' → Below W3.heap.size W3 W' ∧ ∀ j, updB L i j = true → j < 28 → WChG w.heap.size B0 B1 B2 e0 e1 e2 ms b n r1 r2 j (updV vs i v j) W' := fun v W' h1 h2 => by
      refine ⟨below_step hb h1, fun j hj h51 => ?_⟩
      by_cases hji : j = i
      · subst hji
        simpa [updV] using h2
      · simp only [updB, if_neg hji] at hj
        simpa [updV, hji] using WChG_mono w.heap.size B0 B1 B2 e0 e1 e2 ms b n r1 r2 j _ W W' h51 (hG' j hj h51) h1
    have hqX := HBX.out.below hb
    have qx0 := hqX.cell 0
    have qx1 := hqX.cell 1
    have qx2 := hqX.cell 2
    have qx3 := hqX.cell 3
    have qx4 := hqX.cell 4
    have qx5 := hqX.cell 5
    have qx6 := hqX.cell 6
    have qx7 := hqX.cell 7
    have qx8 := hqX.cell 8
    have hlqX := hqX.lt
    simp only [mtC, List.getElem?_toArray, List.getElem?_cons_zero, List.getElem?_cons_succ] at qx0 qx1 qx2 qx3 qx4 qx5 qx6 qx7 qx8
    rcases i with _ | _ | _ | _ | _ | _ | _ | _ | _ | _ | _ | _ | _ | _ | _ | _ | _ | _ | _ | _ | _ | _ | _ | _ | _ | _ | _ | _ | i
    all_goals (first | omega | skip)
    all_goals simp only [List.getElem?_toArray, List.getElem?_cons_zero, List.getElem?_cons_succ, Option.some.injEq] at ho
    all_goals subst ho
    · have o3 : ρ (.tmp 3) = .pointer (some ⟨w.heap.size, 0, none⟩) := hρ.out 3 rfl
      exact stepTo_value (w' := W) (by unfold execOp; simp only [o3, hc]; go_simp) (next _ _ (Below.refl _ _) rfl)
    · have o1 : ρ (.tmp 1) = .int .i64 b := hρ.out 1 rfl
      exact stepTo_value (w' := W) (by unfold execOp; simp only [o1, hc]; go_simp) (next _ _ (Below.refl _ _) rfl)
    · have o2 : ρ (.tmp 2) = .int .i64 n := hρ.out 2 rfl
      exact stepTo_value (w' := W) (by unfold execOp; simp only [o2, hc]; go_simp) (next _ _ (Below.refl _ _) rfl)
    · have g9 : WChG w.heap.size B0 B1 B2 e0 e1 e2 ms b n r1 r2 0 (vs 0) W := hG 0 (haft 0 (by kernel_rfl))
      have s9 : ρ (.tmp 9) = .agg #[.slice B0 ms.live.length e0, .slice B1 ms.snaps.length e1, .int .u64 (ms.tok.base.1 : Int), .int .u64 (ms.tok.base.2 : Int), .int .u64 (ms.tok.target.1 : Int), .int .u64 (ms.tok.target.2 : Int), .int .i64 ms.tok.next, .int .i64 ms.tok.all, .slice B2 ms.tok.img.length e2] := (hρ.at_ 9 0 rfl).trans g9
      have g10 : WChG w.heap.size B0 B1 B2 e0 e1 e2 ms b n r1 r2 1 (vs 1) W := hG 1 (haft 1 (by kernel_rfl))
      have s10 : ρ (.tmp 10) = .int .i64 b := (hρ.at_ 10 1 rfl).trans g10
      have g11 : WChG w.heap.size B0 B1 B2 e0 e1 e2 ms b n r1 r2 2 (vs 2) W := hG 2 (haft 2 (by kernel_rfl))
      have s11 : ρ (.tmp 11) = .int .i64 n := (hρ.at_ 11 2 rfl).trans g11
      refine stepTo_enter (f := 10) (args := #[.agg #[.slice B0 ms.live.length e0, .slice B1 ms.snaps.length e1, .int .u64 (ms.tok.base.1 : Int), .int .u64 (ms.tok.base.2 : Int), .int .u64 (ms.tok.target.1 : Int), .int .u64 (ms.tok.target.2 : Int), .int .i64 ms.tok.next, .int .i64 ms.tok.all, .slice B2 ms.tok.img.length e2], .int .i64 b, .int .i64 n]) (w' := W) (by unfold execOp; simp only [hfn, s9, s10, s11]; go_simp) ((HH.out.check _ ms b n W (HMO.out.at_.below hb) HSZ.out HB64.out HN64.out).mono ?_)
      rintro x W' ⟨rfl, hb'⟩
      exact ⟨_, rfl, next _ _ hb' (congrArg (Value.int .i64) hr1)⟩
    · have o3 : ρ (.tmp 3) = .pointer (some ⟨w.heap.size, 0, none⟩) := hρ.out 3 rfl
      exact stepTo_value (w' := W) (by unfold execOp; simp only [o3, hc]; go_simp) (next _ _ (Below.refl _ _) rfl)
    · have o1 : ρ (.tmp 1) = .int .i64 b := hρ.out 1 rfl
      exact stepTo_value (w' := W) (by unfold execOp; simp only [o1, hc]; go_simp) (next _ _ (Below.refl _ _) rfl)
    · have o2 : ρ (.tmp 2) = .int .i64 n := hρ.out 2 rfl
      exact stepTo_value (w' := W) (by unfold execOp; simp only [o2, hc]; go_simp) (next _ _ (Below.refl _ _) rfl)
    · have g13 : WChG w.heap.size B0 B1 B2 e0 e1 e2 ms b n r1 r2 4 (vs 4) W := hG 4 (haft 4 (by kernel_rfl))
      have s13 : ρ (.tmp 13) = .agg #[.slice B0 ms.live.length e0, .slice B1 ms.snaps.length e1, .int .u64 (ms.tok.base.1 : Int), .int .u64 (ms.tok.base.2 : Int), .int .u64 (ms.tok.target.1 : Int), .int .u64 (ms.tok.target.2 : Int), .int .i64 ms.tok.next, .int .i64 ms.tok.all, .slice B2 ms.tok.img.length e2] := (hρ.at_ 13 4 rfl).trans g13
      have g14 : WChG w.heap.size B0 B1 B2 e0 e1 e2 ms b n r1 r2 5 (vs 5) W := hG 5 (haft 5 (by kernel_rfl))
      have s14 : ρ (.tmp 14) = .int .i64 b := (hρ.at_ 14 5 rfl).trans g14
      have g15 : WChG w.heap.size B0 B1 B2 e0 e1 e2 ms b n r1 r2 6 (vs 6) W := hG 6 (haft 6 (by kernel_rfl))
      have s15 : ρ (.tmp 15) = .int .i64 n := (hρ.at_ 15 6 rfl).trans g15
      refine stepTo_enter (f := 11) (args := #[.agg #[.slice B0 ms.live.length e0, .slice B1 ms.snaps.length e1, .int .u64 (ms.tok.base.1 : Int), .int .u64 (ms.tok.base.2 : Int), .int .u64 (ms.tok.target.1 : Int), .int .u64 (ms.tok.target.2 : Int), .int .i64 ms.tok.next, .int .i64 ms.tok.all, .slice B2 ms.tok.img.length e2], .int .i64 b, .int .i64 n]) (w' := W) (by unfold execOp; simp only [hfn, s13, s14, s15]; go_simp) ((mcheck_any _ ms b n W (HMO.out.at_.below hb) HSZ.out).mono ?_)
      rintro x W' ⟨rfl, hb'⟩
      exact ⟨_, rfl, next _ _ hb' (congrArg (Value.int .i64) hr1)⟩
    · have g12 : WChG w.heap.size B0 B1 B2 e0 e1 e2 ms b n r1 r2 3 (vs 3) W := hG 3 (haft 3 (by kernel_rfl))
      have s12 : ρ (.tmp 12) = .int .i64 r1 := (hρ.at_ 12 3 rfl).trans g12
      have g16 : WChG w.heap.size B0 B1 B2 e0 e1 e2 ms b n r1 r2 7 (vs 7) W := hG 7 (haft 7 (by kernel_rfl))
      have s16 : ρ (.tmp 16) = .int .i64 r1 := (hρ.at_ 16 7 rfl).trans g16
      exact stepTo_value (w' := W) (by unfold execOp; simp only [s12, s16, hc]; go_simp) (next _ _ (Below.refl _ _) rfl)
    · have g17 : WChG w.heap.size B0 B1 B2 e0 e1 e2 ms b n r1 r2 8 (vs 8) W := hG 8 (haft 8 (by kernel_rfl))
      have s17 : ρ (.tmp 17) = .bool true := (hρ.at_ 17 8 rfl).trans g17
      exact stepTo_value (w' := W) (by unfold execOp; simp only [s17, hc]; go_simp) (next _ _ (Below.refl _ _) rfl)
    · have o3 : ρ (.tmp 3) = .pointer (some ⟨w.heap.size, 0, none⟩) := hρ.out 3 rfl
      exact stepTo_value (w' := W) (by unfold execOp; simp only [o3, hc]; go_simp) (next _ _ (Below.refl _ _) rfl)
    · have o3 : ρ (.tmp 3) = .pointer (some ⟨w.heap.size, 0, none⟩) := hρ.out 3 rfl
      exact stepTo_value (w' := W) (by unfold execOp; simp only [o3, hc]; go_simp) (next _ _ (Below.refl _ _) rfl)
    · have g20 : WChG w.heap.size B0 B1 B2 e0 e1 e2 ms b n r1 r2 11 (vs 11) W := hG 11 (haft 11 (by kernel_rfl))
      have s20 : ρ (.tmp 20) = .pointer (some ⟨w.heap.size, 0, none⟩) := (hρ.at_ 20 11 rfl).trans g20
      exact stepTo_value (w' := W) (by unfold execOp; simp only [s20, hc]; go_simp) (next _ _ (Below.refl _ _) rfl)
    · have g21 : WChG w.heap.size B0 B1 B2 e0 e1 e2 ms b n r1 r2 12 (vs 12) W := hG 12 (haft 12 (by kernel_rfl))
      have s21 : ρ (.tmp 21) = .slice B0 ms.live.length e0 := (hρ.at_ 21 12 rfl).trans g21
      exact stepTo_value (w' := W) (by unfold execOp; simp only [s21, hc]; go_simp) (next _ _ (Below.refl _ _) rfl)
    · have o2 : ρ (.tmp 2) = .int .i64 n := hρ.out 2 rfl
      exact stepTo_value (w' := W) (by unfold execOp; simp only [o2, hc]; go_simp) (next _ _ (Below.refl _ _) rfl)
    · have g19 : WChG w.heap.size B0 B1 B2 e0 e1 e2 ms b n r1 r2 10 (vs 10) W := hG 10 (haft 10 (by kernel_rfl))
      have s19 : ρ (.tmp 19) = .agg #[.slice B0 ms.live.length e0, .slice B1 ms.snaps.length e1, .int .u64 (ms.tok.base.1 : Int), .int .u64 (ms.tok.base.2 : Int), .int .u64 (ms.tok.target.1 : Int), .int .u64 (ms.tok.target.2 : Int), .int .i64 ms.tok.next, .int .i64 ms.tok.all, .slice B2 ms.tok.img.length e2] := (hρ.at_ 19 10 rfl).trans g19
      have g22 : WChG w.heap.size B0 B1 B2 e0 e1 e2 ms b n r1 r2 13 (vs 13) W := hG 13 (haft 13 (by kernel_rfl))
      have s22 : ρ (.tmp 22) = .int .i64 (ms.live.length : Int) := (hρ.at_ 22 13 rfl).trans g22
      have g23 : WChG w.heap.size B0 B1 B2 e0 e1 e2 ms b n r1 r2 14 (vs 14) W := hG 14 (haft 14 (by kernel_rfl))
      have s23 : ρ (.tmp 23) = .int .i64 n := (hρ.at_ 23 14 rfl).trans g23
      refine stepTo_enter (f := 10) (args := #[.agg #[.slice B0 ms.live.length e0, .slice B1 ms.snaps.length e1, .int .u64 (ms.tok.base.1 : Int), .int .u64 (ms.tok.base.2 : Int), .int .u64 (ms.tok.target.1 : Int), .int .u64 (ms.tok.target.2 : Int), .int .i64 ms.tok.next, .int .i64 ms.tok.all, .slice B2 ms.tok.img.length e2], .int .i64 (ms.live.length : Int), .int .i64 n]) (w' := W) (by unfold execOp; simp only [hfn, s19, s22, s23]; go_simp) ((HH.out.check _ ms _ n W (HMO.out.at_.below hb) HSZ.out HL64.out HN64.out).mono ?_)
      rintro x W' ⟨rfl, hb'⟩
      exact ⟨_, rfl, next _ _ hb' (congrArg (Value.int .i64) hr2)⟩
    · have o3 : ρ (.tmp 3) = .pointer (some ⟨w.heap.size, 0, none⟩) := hρ.out 3 rfl
      exact stepTo_value (w' := W) (by unfold execOp; simp only [o3, hc]; go_simp) (next _ _ (Below.refl _ _) rfl)
    · have o3 : ρ (.tmp 3) = .pointer (some ⟨w.heap.size, 0, none⟩) := hρ.out 3 rfl
      exact stepTo_value (w' := W) (by unfold execOp; simp only [o3, hc]; go_simp) (next _ _ (Below.refl _ _) rfl)
    · have g26 : WChG w.heap.size B0 B1 B2 e0 e1 e2 ms b n r1 r2 17 (vs 17) W := hG 17 (haft 17 (by kernel_rfl))
      have s26 : ρ (.tmp 26) = .pointer (some ⟨w.heap.size, 0, none⟩) := (hρ.at_ 26 17 rfl).trans g26
      exact stepTo_value (w' := W) (by unfold execOp; simp only [s26, hc]; go_simp) (next _ _ (Below.refl _ _) rfl)
    · have g27 : WChG w.heap.size B0 B1 B2 e0 e1 e2 ms b n r1 r2 18 (vs 18) W := hG 18 (haft 18 (by kernel_rfl))
      have s27 : ρ (.tmp 27) = .slice B0 ms.live.length e0 := (hρ.at_ 27 18 rfl).trans g27
      exact stepTo_value (w' := W) (by unfold execOp; simp only [s27, hc]; go_simp) (next _ _ (Below.refl _ _) rfl)
    · have o2 : ρ (.tmp 2) = .int .i64 n := hρ.out 2 rfl
      exact stepTo_value (w' := W) (by unfold execOp; simp only [o2, hc]; go_simp) (next _ _ (Below.refl _ _) rfl)
    · have g25 : WChG w.heap.size B0 B1 B2 e0 e1 e2 ms b n r1 r2 16 (vs 16) W := hG 16 (haft 16 (by kernel_rfl))
      have s25 : ρ (.tmp 25) = .agg #[.slice B0 ms.live.length e0, .slice B1 ms.snaps.length e1, .int .u64 (ms.tok.base.1 : Int), .int .u64 (ms.tok.base.2 : Int), .int .u64 (ms.tok.target.1 : Int), .int .u64 (ms.tok.target.2 : Int), .int .i64 ms.tok.next, .int .i64 ms.tok.all, .slice B2 ms.tok.img.length e2] := (hρ.at_ 25 16 rfl).trans g25
      have g28 : WChG w.heap.size B0 B1 B2 e0 e1 e2 ms b n r1 r2 19 (vs 19) W := hG 19 (haft 19 (by kernel_rfl))
      have s28 : ρ (.tmp 28) = .int .i64 (ms.live.length : Int) := (hρ.at_ 28 19 rfl).trans g28
      have g29 : WChG w.heap.size B0 B1 B2 e0 e1 e2 ms b n r1 r2 20 (vs 20) W := hG 20 (haft 20 (by kernel_rfl))
      have s29 : ρ (.tmp 29) = .int .i64 n := (hρ.at_ 29 20 rfl).trans g29
      refine stepTo_enter (f := 11) (args := #[.agg #[.slice B0 ms.live.length e0, .slice B1 ms.snaps.length e1, .int .u64 (ms.tok.base.1 : Int), .int .u64 (ms.tok.base.2 : Int), .int .u64 (ms.tok.target.1 : Int), .int .u64 (ms.tok.target.2 : Int), .int .i64 ms.tok.next, .int .i64 ms.tok.all, .slice B2 ms.tok.img.length e2], .int .i64 (ms.live.length : Int), .int .i64 n]) (w' := W) (by unfold execOp; simp only [hfn, s25, s28, s29]; go_simp) ((mcheck_any _ ms _ n W (HMO.out.at_.below hb) HSZ.out).mono ?_)
      rintro x W' ⟨rfl, hb'⟩
      exact ⟨_, rfl, next _ _ hb' (congrArg (Value.int .i64) hr2)⟩
    · have g24 : WChG w.heap.size B0 B1 B2 e0 e1 e2 ms b n r1 r2 15 (vs 15) W := hG 15 (haft 15 (by kernel_rfl))
      have s24 : ρ (.tmp 24) = .int .i64 r2 := (hρ.at_ 24 15 rfl).trans g24
      have g30 : WChG w.heap.size B0 B1 B2 e0 e1 e2 ms b n r1 r2 21 (vs 21) W := hG 21 (haft 21 (by kernel_rfl))
      have s30 : ρ (.tmp 30) = .int .i64 r2 := (hρ.at_ 30 21 rfl).trans g30
      exact stepTo_value (w' := W) (by unfold execOp; simp only [s24, s30, hc]; go_simp) (next _ _ (Below.refl _ _) rfl)
    · have g18 : WChG w.heap.size B0 B1 B2 e0 e1 e2 ms b n r1 r2 9 (vs 9) W := hG 9 (haft 9 (by kernel_rfl))
      have s18 : ρ (.tmp 18) = .bool true := (hρ.at_ 18 9 rfl).trans g18
      have g31 : WChG w.heap.size B0 B1 B2 e0 e1 e2 ms b n r1 r2 22 (vs 22) W := hG 22 (haft 22 (by kernel_rfl))
      have s31 : ρ (.tmp 31) = .bool true := (hρ.at_ 31 22 rfl).trans g31
      exact stepTo_value (w' := W) (by unfold execOp; simp only [s18, s31, hc]; go_simp) (next _ _ (Below.refl _ _) rfl)
    · have g32 : WChG w.heap.size B0 B1 B2 e0 e1 e2 ms b n r1 r2 23 (vs 23) W := hG 23 (haft 23 (by kernel_rfl))
      have s32 : ρ (.tmp 32) = .bool true := (hρ.at_ 32 23 rfl).trans g32
      exact stepTo_value (w' := W) (by unfold execOp; simp only [s32, hc]; go_simp) (next _ _ (Below.refl _ _) rfl)
    · refine stepTo_enter (f := 12) (args := #[]) (w' := W) (by unfold execOp; simp only [hfn, ]; go_simp) ((works_any HH.out W).mono ?_)
      rintro x W' ⟨rfl, hb'⟩
      exact ⟨_, rfl, next _ _ hb' rfl⟩
    · have g33 : WChG w.heap.size B0 B1 B2 e0 e1 e2 ms b n r1 r2 24 (vs 24) W := hG 24 (haft 24 (by kernel_rfl))
      have s33 : ρ (.tmp 33) = .bool true := (hρ.at_ 33 24 rfl).trans g33
      have g34 : WChG w.heap.size B0 B1 B2 e0 e1 e2 ms b n r1 r2 25 (vs 25) W := hG 25 (haft 25 (by kernel_rfl))
      have s34 : ρ (.tmp 34) = .bool true := (hρ.at_ 34 25 rfl).trans g34
      exact stepTo_value (w' := W) (by unfold execOp; simp only [s33, s34, hc]; go_simp) (next _ _ (Below.refl _ _) rfl)
    · have g35 : WChG w.heap.size B0 B1 B2 e0 e1 e2 ms b n r1 r2 26 (vs 26) W := hG 26 (haft 26 (by kernel_rfl))
      have s35 : ρ (.tmp 35) = .bool true := (hρ.at_ 35 26 rfl).trans g35
      exact stepTo_value (w' := W) (by unfold execOp; simp only [s35, hc]; go_simp) (next _ _ (Below.refl _ _) rfl)
  · intro i o L vs W j want ho hli haft hg hv hI
    obtain ⟨hb, hG'⟩ := hI
    have hG : ∀ j, L j = true → WChG w.heap.size B0 B1 B2 e0 e1 e2 ms b n r1 r2 j (vs j) W := fun j hj => by
      by_cases h51 : j < 28
      · exact hG' j hj h51
      · match j, h51 with
        | j + 28, _ => exact trivial
    have hi51 : i < 28 := (Array.getElem?_eq_some_iff.1 ho).1
    rcases i with _ | _ | _ | _ | _ | _ | _ | _ | _ | _ | _ | _ | _ | _ | _ | _ | _ | _ | _ | _ | _ | _ | _ | _ | _ | _ | _ | _ | i
    all_goals (first | omega | skip)
    all_goals simp only [List.getElem?_toArray, List.getElem?_cons_zero, List.getElem?_cons_succ, Option.some.injEq] at ho
    all_goals subst ho
    all_goals simp only [reduceCtorEq, Option.some.injEq, Prod.mk.injEq] at hg
    · obtain ⟨rfl, rfl⟩ := hg
      exact (hv (hG 9 (haft 9 (by kernel_rfl)))).elim
    · obtain ⟨rfl, rfl⟩ := hg
      exact (hv (hG 9 (haft 9 (by kernel_rfl)))).elim
    · obtain ⟨rfl, rfl⟩ := hg
      exact (hv (hG 9 (haft 9 (by kernel_rfl)))).elim
    · obtain ⟨rfl, rfl⟩ := hg
      exact (hv (hG 9 (haft 9 (by kernel_rfl)))).elim
    · obtain ⟨rfl, rfl⟩ := hg
      exact (hv (hG 9 (haft 9 (by kernel_rfl)))).elim
    · obtain ⟨rfl, rfl⟩ := hg
      exact (hv (hG 9 (haft 9 (by kernel_rfl)))).elim
    · obtain ⟨rfl, rfl⟩ := hg
      exact (hv (hG 9 (haft 9 (by kernel_rfl)))).elim
    · obtain ⟨rfl, rfl⟩ := hg
      exact (hv (hG 9 (haft 9 (by kernel_rfl)))).elim
    · obtain ⟨rfl, rfl⟩ := hg
      exact (hv (hG 9 (haft 9 (by kernel_rfl)))).elim
    · obtain ⟨rfl, rfl⟩ := hg
      exact (hv (hG 9 (haft 9 (by kernel_rfl)))).elim
    · obtain ⟨rfl, rfl⟩ := hg
      exact (hv (hG 9 (haft 9 (by kernel_rfl)))).elim
    · obtain ⟨rfl, rfl⟩ := hg
      exact (hv (hG 9 (haft 9 (by kernel_rfl)))).elim
    · obtain ⟨rfl, rfl⟩ := hg
      exact (hv (hG 9 (haft 9 (by kernel_rfl)))).elim
    · obtain ⟨rfl, rfl⟩ := hg
      exact (hv (hG 24 (haft 24 (by kernel_rfl)))).elim
  · intro vs W hI
    have g6 : vs 27 = .bool true := hI.2 27 (by decide) (by decide)
    have hbW := Lib.hid (below_step HB3.out hI.1)
    clear hI
    go_wp2_with fail
    exact bodyPost_slot 27 rfl (by decide +kernel) (by kernel_rfl) rfl g6 ⟨rfl, hbW.out⟩
end Go.Proofs.Ytklmgdiaianlbaa.mt

/- Whether any table may be is told as the document says. -/
namespace Go.Proofs.Ytklmgdiaianlbaa.metaChecks
open Go.ChangeShapes Go.WideShapes Go.ChangeAt Go.RowKit
open Go.ChangeMaps (open_string shut_string)
open Go.Proofs.Ytklmgdiaianlbaa.ib Go.Proofs.Ytklmgdiaianlbaa.mt

theorem own : ownKnob Try.prog.godebug = none := by kernel_rfl
theorem laidOut : laidOutB Try.prog = true := by kernel_rfl

theorem witness (os : Os) {H : Type} (enc : TypeId × Value → H) :
    (OpenSpec.ofChange Rows.metaChecksSpec).preRow enc Try.prog Try.f3 Rows.metaChecksRow.domain false Rows.metaChecksRow.laid ((World.holding Try.prog os ⟨#[], #[], []⟩).forCall (fun _ _ => 0) ⟨#[], #[.agg #[.slice none 0 0, .slice none 0 0, .int .u64 0, .int .u64 0, .int .u64 0, .int .u64 0, .int .i64 0, .int .i64 0, .slice none 0 0], .int .i64 0, .int .i64 0], []⟩).memory #[.agg #[.slice none 0 0, .slice none 0 0, .int .u64 0, .int .u64 0, .int .u64 0, .int .u64 0, .int .i64 0, .int .i64 0, .slice none 0 0], .int .i64 0, .int .i64 0] := by
  have hw : (DataW.whole enc Try.prog ((World.holding Try.prog os ⟨#[], #[], []⟩).forCall (fun _ _ => 0) ⟨#[], #[.agg #[.slice none 0 0, .slice none 0 0, .int .u64 0, .int .u64 0, .int .u64 0, .int .u64 0, .int .i64 0, .int .i64 0, .slice none 0 0], .int .i64 0, .int .i64 0], []⟩).memory Try.f3.params.toList (OpenSpec.ofChange Rows.metaChecksSpec).vars false (#[.agg #[.slice none 0 0, .slice none 0 0, .int .u64 0, .int .u64 0, .int .u64 0, .int .u64 0, .int .i64 0, .int .i64 0, .slice none 0 0], .int .i64 0, .int .i64 0] : Array Value).toList 8).map (fun x => (x.1, x.2.1)) =
      some ([.agg [.nil, .nil, .agg [.agg [.lit (.int .u64 0), .lit (.int .u64 0)], .agg [.lit (.int .u64 0), .lit (.int .u64 0)], .lit (.int .i64 0), .lit (.int .i64 0), .nil]], .lit (.int .i64 0), .lit (.int .i64 0)], []) := by kernel_rfl
  obtain ⟨⟨x1, x2, x3⟩, hx, hx1⟩ := Option.map_eq_some_iff.1 hw
  simp only [Prod.mk.injEq] at hx1
  obtain ⟨rfl, rfl⟩ := hx1
  exact OpenSpec.preRow_of_cond 8 hx (by kernel_rfl) (fun k hk => by cases hk) (by kernel_rfl) (laidMetH_nil _ _)

set_option maxRecDepth 100000 in
set_option maxHeartbeats 1600000 in
theorem lifted (os : Os) (started : os.Started) (H : Type) (enc : TypeId × Value → H) (F : Stop.Interp) :
    ReturnsInHanded {} Try.checked os 3 .any ((OpenSpec.ofChange Rows.metaChecksSpec).preRow enc Try.prog Try.f3 Rows.metaChecksRow.domain false Rows.metaChecksRow.laid) (((OpenSpec.ofChange Rows.metaChecksSpec).at F).post enc Try.prog Try.f3 false true false false) := by
  refine returnsInHanded_of_row (C := Try.checked) (s := OpenSpec.ofChange Rows.metaChecksSpec) own started (by kernel_rfl) Try.func3
    (witness_row_at (enc := enc) (C := Try.checked) false (World.holding Try.prog os ⟨#[], #[], []⟩) #[.agg #[.slice none 0 0, .slice none 0 0, .int .u64 0, .int .u64 0, .int .u64 0, .int .u64 0, .int .i64 0, .int .i64 0, .slice none 0 0], .int .i64 0, .int .i64 0] rfl (by kernel_rfl) (by kernel_rfl) (by kernel_rfl) (witness os enc)) ?_
  intro W base args ds gs before hval0 hW _ _ hsz0 hL _ _
  have hval : ∀ (j : Nat) t v, Try.f3.params[j]? = some t → args[j]? = some v → Value.okWide Try.prog W .any base t v := hval0
  have hW' := hW
  obtain ⟨p, q, hA0, hV, rfl, hfz, hnd⟩ := hW
  have hA : DataW.TrodAll enc Try.prog W 0 (fun _ => true) true Try.f3.params.toList args.toList ds p := hA0
  rw [Try.params3] at hA hval
  obtain ⟨v0, vs0, d0, ds0, p0, q0, hargs, rfl, rfl, h0, r0⟩ := trodAll_cons hA
  obtain ⟨v1, vs1, d1, ds1, p1, q1, rfl, rfl, rfl, h1, r1⟩ := trodAll_cons r0
  obtain ⟨v2, vs2, d2, ds2, p2, q2, rfl, rfl, rfl, h2, r2⟩ := trodAll_cons r1
  obtain ⟨rfl, rfl, rfl⟩ := trodAll_nil r2
  obtain rfl : args = #[v0, v1, v2] := by cases args; simp_all
  obtain ⟨rfl, rfl⟩ := trodVars_none hV
  have k0 := h0
  have lt0 : ∀ x ∈ p0, x.block < W.heap.size := by obtain ⟨m, hm⟩ := k0; exact DataW.trod_lt m _ _ _ hm
  obtain ⟨m0, hM0, hW0⟩ := meta_of (hval 0 30 v0 rfl rfl) k0
  obtain ⟨a1, rfl, rfl, rfl, w1⟩ := open_int Try.underlying3 (hval 1 3 v1 rfl rfl) h1
  obtain ⟨a2, rfl, rfl, rfl, w2⟩ := open_int Try.underlying3 (hval 2 3 v2 rfl rfl) h2
  clear hA0 hval0 hsz0
  simp only [List.append_nil] at hW'
  refine (metaChecks_walk hImpl v0 m0 a1 w1 a2 w2 W hM0 hW0).mono fun e W' ⟨he, hg⟩ => ?_
  subst he
  exact ⟨_, rfl, _, _, _, [], _, [], hW', trodAll_mk1 (shut_bool Try.underlying4 _), (trodAll_cons_mk (Below.trod laidOut (by kernel_rfl) (of_decide_eq_true (by kernel_rfl)) k0 hg lt0) (trodAll_cons_mk (shut_int Try.underlying3 w1) (trodAll_cons_mk (shut_int Try.underlying3 w2) trodAll_mk0))), rfl, hg.frame _, fun h => by cases h⟩

theorem over : Rows.MetaChecksSaid :=
  OpenClaim.holds_of_cond 3 Try.f3 rfl rfl rfl rfl rfl rfl rfl ⟨rfl, rfl, rfl, rfl, rfl⟩ rfl rfl rfl rfl rfl (by kernel_rfl) Try.func3 (by kernel_rfl)
    (of_decide_eq_true (by kernel_rfl)) (by unfold Func.isWrapper; first | (rw [if_pos (by decide +kernel)]; kernel_rfl) | (rw [if_neg (by decide +kernel)]; exact ⟨rfl, rfl⟩))
    (fun os started H enc _ F => by rw [OpenClaim.pre_eq_preRow]; exact lifted os started H enc F)

theorem proved : Rows.MetaChecksSaid :=
  over
#print axioms proved
end Go.Proofs.Ytklmgdiaianlbaa.metaChecks


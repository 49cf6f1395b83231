/- MtKnW, MtKnP. -/
import Derived.Test.YtklmgdiaianlbaaQMtLKnown1
set_option linter.unusedVariables false
set_option linter.unusedSimpArgs false
/- The closure with of MetaKnown: a copy of the example's table, as a closure made it. -/
namespace Go.Proofs.Ytklmgdiaianlbaa.mt
open Go Go.RowKit Go.Sort Go.Proofs.Ytklmgdiaianlbaa.ib Go.Proofs.Ytklmgdiaianlbaa.wi
set_option maxRecDepth 100000

theorem two_of {xs : List OSn} (h : xs.map (·.1) = [sA, sB]) : ∃ u0 u1, xs = [(sA, u0), (sB, u1)] := by
  match xs, h with
  | [(a, u0), (b, u1)], h =>
    simp only [List.map_cons, List.map_nil, List.cons.injEq, and_true] at h
    obtain ⟨rfl, rfl⟩ := h
    exact ⟨u0, u1, rfl⟩
theorem mtwW : mtW mW := ⟨by decide, by decide, fun s hs => by simp only [mW, List.mem_cons, List.not_mem_nil, or_false] at hs; rcases hs with rfl | rfl <;> decide, by decide⟩

set_option maxHeartbeats 6400000 in
theorem with_any {f : FuncId} {m' : Mt} (hD : Do f m') (hcf : ∀ (a : Array Value) (W : World), Sem.run Try.prog (callFunc f a) W = Result.ok (Next.enter f a) W) (g : Nat) (A0 A1 A2 : Option Addr) (c0 c1 c2 : Nat) (w : World) (hg : Blk w g 30 (mtC A0 A1 A2 c0 c1 c2 mW)) (hm : MtAt w (.agg (mtC A0 A1 A2 c0 c1 c2 mW)) mW) :
    Calls Try.prog 20 #[.func (.func f) #[] #[], .pointer (some ⟨g, 0, none⟩)] w (endV m' w) := by
  have hb1 := (Below.refl w.heap.size w).alloc (Nat.le_refl _) (.cells #[.slice none 0 0, .slice none 0 0, .int .u64 0, .int .u64 0, .int .u64 0, .int .u64 0, .int .i64 0, .int .i64 0, .slice none 0 0] 30)
  have hr1 : Blk _ w.heap.size 30 (mC nlS nlS nlS tk0) := Blk.new w 30 #[.slice none 0 0, .slice none 0 0, .int .u64 0, .int .u64 0, .int .u64 0, .int .u64 0, .int .i64 0, .int .i64 0, .slice none 0 0]
  obtain ⟨W1, hW1⟩ : ∃ z, w.alloc (.cells #[.slice none 0 0, .slice none 0 0, .int .u64 0, .int .u64 0, .int .u64 0, .int .u64 0, .int .i64 0, .int .i64 0, .slice none 0 0] 30) = z := ⟨_, rfl⟩
  rw [hW1] at hb1 hr1
  have hg1 := hg.below hb1
  have hs := short_f _ mW W1 (hm.below hb1) mtwW
  rw [short_mW] at hs
  have a0 := hg1.cell 0
  have a1 := hg1.cell 1
  have a2 := hg1.cell 2
  have a3 := hg1.cell 3
  have a4 := hg1.cell 4
  have a5 := hg1.cell 5
  have a6 := hg1.cell 6
  have a7 := hg1.cell 7
  have a8 := hg1.cell 8
  simp only [mtC, List.getElem?_toArray, List.getElem?_cons_zero, List.getElem?_cons_succ] at a0 a1 a2 a3 a4 a5 a6 a7 a8
  have hla := hg1.lt
  unfold mtC at hs
  have HS := Lib.hid hs
  have HB1 := Lib.hid hb1
  have HR1 := Lib.hid hr1
  have HD := Lib.hid hD
  clear hg hm hb1 hr1 hg1 hs hD
  go_enter Try.func20, Try.ntmps20
  go_wp2_with fail
  clear hW1 a0 a1 a2 a3 a4 a5 a6 a7 a8 hla
  refine HS.out.mono ?_
  rintro e W2 ⟨v, rfl, ⟨v0, v1, v2, xs, rfl, h0, h1, hx, h2, _, hap⟩, hb2⟩
  obtain ⟨u0, u1, rfl⟩ := two_of hx
  obtain ⟨B0, e0, rfl⟩ := own_form h0
  obtain ⟨B1, e1, rfl⟩ := own_form h1.1
  obtain ⟨B2, e2, rfl⟩ := own_form h2
  have hbb := (Below.refl _ W2).alloc (Nat.le_refl _) (.cells (mC (.slice B0 mW.live.length e0) (.slice B1 [(sA, u0), (sB, u1)].length e1) (.slice B2 mW.tok.img.length e2) mW.tok) 30)
  have hbx := Blk.new W2 30 (mC (.slice B0 mW.live.length e0) (.slice B1 [(sA, u0), (sB, u1)].length e1) (.slice B2 mW.tok.img.length e2) mW.tok)
  obtain ⟨W3, hW3⟩ : ∃ z, W2.alloc (.cells (mC (.slice B0 mW.live.length e0) (.slice B1 [(sA, u0), (sB, u1)].length e1) (.slice B2 mW.tok.img.length e2) mW.tok) 30) = z := ⟨_, rfl⟩
  rw [hW3] at hbb hbx
  have HOB : Hid (OB W3 W1.heap.size W2.heap.size) := ⟨_, _, _, u0, u1, hbx, oi_below h0 hbb, h1.below hbb, oi_below h2 hbb, hap, hb2.size⟩
  have HB3 := Lib.hid (below_step (below_step HB1.out hb2) hbb)
  have HR3 := Lib.hid ((HR1.out.below hb2).below hbb)
  have HL3 : Hid (w.heap.size < W2.heap.size) := (HR1.out.below hb2).lt
  have HL1 := Lib.hid HB1.out.size
  unfold mC at hW3 ⊢
  rw [show [(sA, u0), (sB, u1)].length = 2 from rfl] at hW3 ⊢
  clear h0 h1 h2 hx hap hbb hbx hb2 HS
  dsimp only
  go_wp2_with fail
  try rw [hW3]
  obtain ⟨gm, hgm⟩ : ∃ z, W2.heap.size = z := ⟨_, rfl⟩
  rw [hgm] at HOB HL3
  try rw [hgm]
  clear hW3 hgm
  refine (HD.out W3 _ gm HOB.out).mono ?_
  rintro e W4 ⟨rfl, ⟨v0, v1, v2, hbx, hmo⟩, hbu⟩
  have hr4 := HR3.out.of_block (hbu.block _ HR3.out.lt (fun e => by have h1 := HB1.out.size; have h2 := HR1.out.lt; omega))
  have hb4 : Below w.heap.size w W4 := HB3.out.trans (hbu.below (fun i hi => by have := HL1.out; omega) HB3.out.size)
  obtain ⟨C0, C1, C2, f0, f1, f2, hv⟩ := hmo.open_
  simp only [mC, mtC, Value.agg.injEq, Array.mk.injEq, List.cons.injEq, and_true] at hv
  obtain ⟨rfl, rfl, _, _, _, _, _, _, rfl⟩ := hv
  have hk5 := setMt_kp (v0 := .slice C0 m'.live.length f0) (v1 := .slice C1 m'.snaps.length f1) (v2 := .slice C2 m'.tok.img.length f2) (t := m'.tok) hr4
  have hm5 := hmo.kp hk5 (by decide) (by decide)
  have hbx5 := setMt_blk (v0 := .slice C0 m'.live.length f0) (v1 := .slice C1 m'.snaps.length f1) (v2 := .slice C2 m'.tok.img.length f2) (t := m'.tok) hr4
  have hb5 := setMt_below (v0 := .slice C0 m'.live.length f0) (v1 := .slice C1 m'.snaps.length f1) (v2 := .slice C2 m'.tok.img.length f2) (t := m'.tok) hb4 (Nat.le_refl _)
  have r0 := hr4.cell 0
  have r1 := hr4.cell 1
  have r2 := hr4.cell 2
  have r3 := hr4.cell 3
  have r4 := hr4.cell 4
  have r5 := hr4.cell 5
  have r6 := hr4.cell 6
  have r7 := hr4.cell 7
  have r8 := hr4.cell 8
  have q0 := hr4.frozen 0
  have q1 := hr4.frozen 1
  have q2 := hr4.frozen 2
  have q3 := hr4.frozen 3
  have q4 := hr4.frozen 4
  have q5 := hr4.frozen 5
  have q6 := hr4.frozen 6
  have q7 := hr4.frozen 7
  have q8 := hr4.frozen 8
  have b0 := hbx.cell 0
  have b1 := hbx.cell 1
  have b2 := hbx.cell 2
  have b3 := hbx.cell 3
  have b4 := hbx.cell 4
  have b5 := hbx.cell 5
  have b6 := hbx.cell 6
  have b7 := hbx.cell 7
  have b8 := hbx.cell 8
  simp only [mC, nlS, List.getElem?_toArray, List.getElem?_cons_zero, List.getElem?_cons_succ] at r0 r1 r2 r3 r4 r5 r6 r7 r8 b0 b1 b2 b3 b4 b5 b6 b7 b8
  have hlr := hr4.lt
  have hlb := hbx.lt
  have hl3 := HL3.out
  have n1 : ¬ gm = w.heap.size := by omega
  have n2 : ¬ w.heap.size = gm := by omega
  obtain ⟨WF, hWF⟩ : ∃ z, setMt W4 w.heap.size (.slice C0 m'.live.length f0) (.slice C1 m'.snaps.length f1) (.slice C2 m'.tok.img.length f2) m'.tok = z := ⟨_, rfl⟩
  rw [hWF] at hm5 hbx5 hb5
  have HM5 := Lib.hid hm5
  have HB5 := Lib.hid hb5
  have HX5 := Lib.hid hbx5
  have HWF := Lib.hid hWF
  clear hm5 hb5 hbx5 hWF hk5 hmo hbx hbu hr4 hb4 hl3
  dsimp only
  go_wp2_with fail
  show bodyPost _ _ _ _ _ (setMt W4 w.heap.size (.slice C0 m'.live.length f0) (.slice C1 m'.snaps.length f1) (.slice C2 m'.tok.img.length f2) m'.tok)
  rw [HWF.out]
  have e0 := HX5.out.cell 0
  have e1 := HX5.out.cell 1
  have e2 := HX5.out.cell 2
  have e3 := HX5.out.cell 3
  have e4 := HX5.out.cell 4
  have e5 := HX5.out.cell 5
  have e6 := HX5.out.cell 6
  have e7 := HX5.out.cell 7
  have e8 := HX5.out.cell 8
  simp only [mC, List.getElem?_toArray, List.getElem?_cons_zero, List.getElem?_cons_succ] at e0 e1 e2 e3 e4 e5 e6 e7 e8
  refine bodyPost_ret (v := .agg (mC (.slice C0 m'.live.length f0) (.slice C1 m'.snaps.length f1) (.slice C2 m'.tok.img.length f2) m'.tok)) (by simp [results, Try.results20, go_sem, mC, e0, e1, e2, e3, e4, e5, e6, e7, e8]) rfl ?_
  exact ⟨_, rfl, HM5.out.at_, HB5.out⟩
end Go.Proofs.Ytklmgdiaianlbaa.mt

/- The examples of MetaKnown as plain data. -/
namespace Go.Proofs.Ytklmgdiaianlbaa.mt
open Go Go.RowKit Go.Proofs.Ytklmgdiaianlbaa.ib Go.Proofs.Ytklmgdiaianlbaa.wi Go.Proofs.Ytklmgdiaianlbaa.im
set_option maxRecDepth 100000

def mE : Mt := ⟨[0], [], tk0⟩
theorem kn_e : mEnc mE = ([1, 1, 0, 0, 0], 0) := by decide +kernel
def bW : List UInt8 := (mEnc mW).1
theorem kn_w : mEnc mW = (bW, 0) := Prod.ext rfl (by decide +kernel)
theorem kn_wl : bW.length ≤ 1600 := enc_size
theorem kn_c : mCheck mW 2 303 = 0 ∧ mCheck mW 2 302 = 2 ∧ mCheck mW 1 400 = 2 := by decide +kernel
def knL : List (Mt × Int) := [(m1, 16), (m2, 2), (m3, 2), (m4, 16), (m5, 2), (m6, 2), (m7, 2), (m8, 2), (m9, 2), (m10, 2), (m11, 16), (m12, 2), (m13, 2), (m14, 0), (m15, 0), (m16, 0), (m17, 3), (m18, 2)]
theorem knL_len : knL.length = 18 := rfl
theorem knL_chk : ∀ x ∈ knL, mCheck x.1 2 400 = x.2 := by decide +kernel
def szQ (m : Mt) : Bool := decide (m.live.length ≤ 1000) && decide (m.snaps.length ≤ 1000) && m.snaps.all (fun s => decide (s.img.length ≤ 1000)) && decide (m.tok.img.length ≤ 1000)
theorem sz_q {m : Mt} (h : szQ m = true) : mtS m := by
  unfold szQ at h
  simp only [Bool.and_eq_true, List.all_eq_true, decide_eq_true_eq] at h
  exact ⟨h.1.1.1, h.1.1.2, h.1.2, h.2⟩
theorem knL_sz : ∀ x ∈ knL, mtS x.1 := fun x hx => sz_q ((by decide +kernel : ∀ x ∈ knL, szQ x.1 = true) x hx)
def knS : List ByteArray := [⟨#[]⟩, ⟨#[0]⟩, ⟨#[1, 1, 0, 0]⟩, ⟨#[1, 1, 0, 0, 1, 2]⟩, ⟨#[1, 1, 1, 192, 0, 0]⟩, ⟨#[1, 9, 0, 0, 0, 0, 0, 0, 0, 0, 0, 0, 0]⟩, ⟨#[1, 1, 1, 193, 1, 1, 1, 1, 1, 2, 1, 2, 1, 193, 0]⟩, ⟨#[1, 1, 8, 255, 255, 255, 255, 255, 255, 255, 255, 0, 0]⟩]
theorem knS_dec : ∀ s ∈ knS, mDec (bl s) = (mt0, 4) := by
  have h : ∀ s ∈ knS.map bl, mDec s = (mt0, 4) := by decide +kernel
  intro s hs
  exact h _ (List.mem_map_of_mem hs)
def mosL (k : Nat) : List Int := (List.range k).map fun (i : Nat) => (500 : Int) + (i : Int)
def mosA (k : Nat) : List Sp := (List.range k).map fun i => ⟨(9223372036854775808, 9223372036854775808 + i), mosL 8, false⟩
def mosB (k : Nat) : List Sp := ((List.range k).map fun i => ⟨(100000, 100000 + i), mosL 8, false⟩) ++ (mosA 20).drop k
def mM : Mt := ⟨mosL 8, mosA 20, tk0⟩
def mF : Mt := ⟨mosL 8, mosB 20, tk0⟩
theorem kn_m : ((mEnc mM).2 = 0 ∨ (mEnc mM).2 = 3) ∧ (mEnc mF).2 = 0 ∧ 600 < (mEnc mF).1.length := by decide +kernel
def mO : Mt := ⟨[200, 0], [sA, sB], ⟨(2, 1), (2, 2), 0, 2, [302, 301]⟩⟩
theorem kn_o : decide (mO = mW) = false := by decide +kernel

/-- The example's table in a box. -/
def KW (W : World) (g : Nat) (A0 A1 A2 : Option Addr) (c0 c1 c2 : Nat) : Prop := Blk W g 30 (mtC A0 A1 A2 c0 c1 c2 mW) ∧ MtAt W (.agg (mtC A0 A1 A2 c0 c1 c2 mW)) mW
theorem KW.below {W W' : World} {g : Nat} {A0 A1 A2 : Option Addr} {c0 c1 c2 : Nat} (h : KW W g A0 A1 A2 c0 c1 c2) (hb : Below W.heap.size W W') : KW W' g A0 A1 A2 c0 c1 c2 := ⟨h.1.below hb, h.2.below hb⟩
end Go.Proofs.Ytklmgdiaianlbaa.mt


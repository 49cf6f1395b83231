/- MgLay, MgSame, MgChk, MtAbove, ImRefI. -/
import Derived.Test.YtklmgdiaianlbaaQ0
import Derived.Test.YtklmgdiaianlbaaQ1
import Derived.Test.YtklmgdiaianlbaaQ3
import Derived.Test.YtklmgdiaianlbaaQ7
import Derived.LoopTactic
import Derived.Lib.QuietBelow
import Derived.Deep.QuietTactic
import Derived.BigQuiet
import Derived.Laws.AppendOwn
import Derived.Laws.AppendOwnNone
set_option linter.unusedVariables false
set_option linter.unusedSimpArgs false
/- Numbers one behind the other, as the program lays them; a flag; how many sectors a text takes. -/
namespace Go.Proofs.Ytklmgdiaianlbaa.mt.pg
open Go Go.RowKit Go.Proofs.Ytklmgdiaianlbaa.ib Go.Proofs.Ytklmgdiaianlbaa.wi Go.Proofs.Ytklmgdiaianlbaa.mt
set_option maxRecDepth 100000

def endT (r : List UInt8) (w : World) (e : Ending) (w' : World) : Prop := e = .returned (.string (str r)) ∧ Below w.heap.size w w'
def LyRel (L : List UInt8) (l : List Int) (w : World) (v x i : Value) (wr : World) : Prop :=
  ∃ k : Nat, k ≤ l.length ∧ i = .int .i64 (k : Int) ∧ v = .string (str (L ++ intsB (l.take k))) ∧ Below w.heap.size w wr
theorem intsB_snoc (l : List Int) (k : Nat) (h : k < l.length) : intsB (l.take (k + 1)) = intsB (l.take k) ++ intB l[k] := by
  unfold intsB
  rw [List.take_succ_eq_append_getElem h, List.flatMap_append]
  simp
theorem numB_len (n : Nat) : (numB n).length ≤ 9 := by
  unfold numB
  have := digs_len n
  simp only [List.length_cons]
  omega
theorem intsB_len : ∀ l : List Int, (intsB l).length ≤ 9 * l.length
  | [] => by simp [intsB]
  | z :: l => by
    have h1 := numB_len z.toNat
    have h2 := intsB_len l
    simp only [intsB, List.flatMap_cons, List.length_append, List.length_cons, intB] at h2 ⊢
    omega

set_option maxHeartbeats 1600000 in
theorem lay_any (L : List UInt8) (A : Option Addr) (c : Nat) (l : List Int) (w : World) (hl : IntsAt w A l) (h0 : ∀ z ∈ l, 0 ≤ z) (hs : L.length ≤ 100000) (h1 : l.length ≤ 1000) :
    Calls Try.prog 68 #[.string (str L), .slice A l.length c] w (endT (L ++ intsB l) w) := by
  have HL := Lib.hid hl
  have HN := Lib.hid h0
  have HS := Lib.hid hs
  have HI0 : Hid (str L = str (L ++ intsB (l.take 0))) := by unfold Hid; simp [intsB]
  clear hl h0 hs
  obtain ⟨P0, hP0⟩ : ∃ P, str L = P := ⟨_, rfl⟩
  rw [hP0] at HI0 ⊢
  clear hP0
  go_enter Try.func68, Try.ntmps68
  go_wp2_with fail
  go_loopw [0, 6, 9] (fun v x i wr => LyRel L l w v x i wr) (fun _ _ i _ => l.length - (intOf i).toNat)
  case atStart => exact ⟨0, Nat.zero_le _, rfl, by rw [HI0.out], Below.refl _ _⟩
  case round =>
    obtain ⟨k, hk, rfl, rfl, hb⟩ := hrel
    have HB := Lib.hid hb
    clear hb
    by_cases hlt : k < l.length
    · have hki : (k : Int) < (l.length : Int) := by omega
      obtain ⟨b, o, rfl, hbl, hc, hz⟩ := HL.out k hlt
      have hz0 := HN.out l[k] (List.getElem_mem hlt)
      have HSN := Lib.hid (intsB_snoc l k hlt)
      have HLN := Lib.hid (intsB_len (l.take k))
      have e0 : wr.cell? ⟨b, o + k, none⟩ = some (.int .i64 l[k]) := by rw [HB.out.cell (p := ⟨b, o + k, none⟩) hbl]; exact hc
      have l0 : b < wr.heap.size := Nat.lt_of_lt_of_le hbl HB.out.size
      clear hc hbl
      obtain ⟨u, hu⟩ : ∃ u : Nat, l[k] = (u : Int) := ⟨l[k].toNat, by omega⟩
      rw [hu] at e0
      have hu64 : (u : Int) ≤ 9223372036854775807 := by rw [← hu]; exact hz.2
      have HU := Lib.hid hu
      obtain ⟨P, hP⟩ : ∃ P, str (L ++ intsB (l.take k)) = P := ⟨_, rfl⟩
      have hPs : P.size ≤ 140737488355000 := by
        rw [← hP, str_size, List.length_append]
        have := HLN.out
        have := HS.out
        simp at *
        omega
      have HP := Lib.hid hP
      have HPS := Lib.hid hPs
      rw [hP]
      clear hP hPs hu hz hz0
      go_wp2_with fail
      refine (putNum_nat P u wr (by omega) HPS.out).mono ?_
      rintro e w' ⟨rfl, hb'⟩
      have HB' := Lib.hid (below_step HB.out hb')
      clear hb'
      go_wp2_with fail
      go_roundw
      case rel =>
        refine ⟨k + 1, by omega, by go_num, ?_, HB'.out⟩
        rw [HSN.out, HU.out, ← HP.out, bl_str, List.append_assoc]
        rfl
      case measure => simp [intOf]; omega
    · have hki : ¬ (k : Int) < (l.length : Int) := by omega
      obtain rfl : k = l.length := by omega
      rw [List.take_length]
      go_wp2_with fail
      go_ret
      exact ⟨rfl, HB.out⟩

/-! ### Numbers of a guid -/
def NatsAt (w : World) (a : Option Addr) (l : List Nat) : Prop :=
  ∀ i (h : i < l.length), ∃ b o, a = some ⟨b, o, none⟩ ∧ b < w.heap.size ∧ w.cell? ⟨b, o + i, none⟩ = some (.int .u64 (l[i] : Int)) ∧ l[i] < 18446744073709551616
def natsB (l : List Nat) : List UInt8 := l.flatMap numB
theorem natsB_snoc (l : List Nat) (k : Nat) (h : k < l.length) : natsB (l.take (k + 1)) = natsB (l.take k) ++ numB l[k] := by
  unfold natsB
  rw [List.take_succ_eq_append_getElem h, List.flatMap_append]
  simp
theorem natsB_len : ∀ l : List Nat, (natsB l).length ≤ 9 * l.length
  | [] => by simp [natsB]
  | z :: l => by
    have h1 := numB_len z
    have h2 := natsB_len l
    simp only [natsB, List.flatMap_cons, List.length_append, List.length_cons] at h2 ⊢
    omega
def LuRel (L : List UInt8) (l : List Nat) (w : World) (v x i : Value) (wr : World) : Prop :=
  ∃ k : Nat, k ≤ l.length ∧ i = .int .i64 (k : Int) ∧ v = .string (str (L ++ natsB (l.take k))) ∧ Below w.heap.size w wr
set_option maxHeartbeats 1600000 in
theorem layU_any (L : List UInt8) (A : Option Addr) (c : Nat) (l : List Nat) (w : World) (hl : NatsAt w A l) (hs : L.length ≤ 100000) (h1 : l.length ≤ 1000) :
    Calls Try.prog 69 #[.string (str L), .slice A l.length c] w (endT (L ++ natsB l) w) := by
  have HL := Lib.hid hl
  have HS := Lib.hid hs
  have HI0 : Hid (str L = str (L ++ natsB (l.take 0))) := by unfold Hid; simp [natsB]
  clear hl hs
  obtain ⟨P0, hP0⟩ : ∃ P, str L = P := ⟨_, rfl⟩
  rw [hP0] at HI0 ⊢
  clear hP0
  go_enter Try.func69, Try.ntmps69
  go_wp2_with fail
  go_loopw [0, 6, 9] (fun v x i wr => LuRel L l w v x i wr) (fun _ _ i _ => l.length - (intOf i).toNat)
  case atStart => exact ⟨0, Nat.zero_le _, rfl, by rw [HI0.out], Below.refl _ _⟩
  case round =>
    obtain ⟨k, hk, rfl, rfl, hb⟩ := hrel
    have HB := Lib.hid hb
    clear hb
    by_cases hlt : k < l.length
    · have hki : (k : Int) < (l.length : Int) := by omega
      obtain ⟨b, o, rfl, hbl, hc, hz⟩ := HL.out k hlt
      have HSN := Lib.hid (natsB_snoc l k hlt)
      have HLN := Lib.hid (natsB_len (l.take k))
      have e0 : wr.cell? ⟨b, o + k, none⟩ = some (.int .u64 (l[k] : Int)) := by rw [HB.out.cell (p := ⟨b, o + k, none⟩) hbl]; exact hc
      have l0 : b < wr.heap.size := Nat.lt_of_lt_of_le hbl HB.out.size
      clear hc hbl
      obtain ⟨u, hu⟩ : ∃ u : Nat, l[k] = u := ⟨_, rfl⟩
      rw [hu] at e0 hz
      have HU := Lib.hid hu
      have HZ := Lib.hid hz
      obtain ⟨P, hP⟩ : ∃ P, str (L ++ natsB (l.take k)) = P := ⟨_, rfl⟩
      have hPs : P.size ≤ 140737488355000 := by
        rw [← hP, str_size, List.length_append]
        have := HLN.out
        have := HS.out
        simp at *
        omega
      have HP := Lib.hid hP
      have HPS := Lib.hid hPs
      rw [hP]
      clear hP hPs hu hz
      go_wp2_with fail
      refine (putNum_nat P u wr HZ.out HPS.out).mono ?_
      rintro e w' ⟨rfl, hb'⟩
      have HB' := Lib.hid (below_step HB.out hb')
      clear hb'
      go_wp2_with fail
      go_roundw
      case rel =>
        refine ⟨k + 1, by omega, by go_num, ?_, HB'.out⟩
        rw [HSN.out, HU.out, ← HP.out, bl_str, List.append_assoc]
      case measure => simp [intOf]; omega
    · have hki : ¬ (k : Int) < (l.length : Int) := by omega
      obtain rfl : k = l.length := by omega
      rw [List.take_length]
      go_wp2_with fail
      go_ret
      exact ⟨rfl, HB.out⟩

theorem flag_any (b : Bool) (w : World) : Calls Try.prog 70 #[.bool b] w (fun e w' => e = .returned (.int .i64 (if b then 1 else 0)) ∧ w' = w) := by
  cases b
  · go_enter Try.func70, Try.ntmps70
    go_wp2_with fail
    go_ret
    exact ⟨rfl, rfl⟩
  · go_enter Try.func70, Try.ntmps70
    go_wp2_with fail
    go_ret
    exact ⟨rfl, rfl⟩
theorem size_any (s : ByteArray) (w : World) (hs : s.size ≤ 4611686018427387904) :
    Calls Try.prog 67 #[.string s] w fun e w' => e = .returned (.int .i64 (nsec s.size : Int)) ∧ w' = w := by
  have e1 : (nsec s.size : Int) = (s.size : Int) / 32 + (6 + (s.size : Int) % 32 + 32 - 1) / 32 := by unfold nsec; omega
  have E1 := Lib.hid e1
  clear e1
  go_enter Try.func67, Try.ntmps67
  go_wp2
  go_ret
  exact ⟨by rw [E1.out]; rfl, rfl⟩
def fitR (l : List UInt8) : List UInt8 × Int := if 48 < nsec l.length then ([], 3) else (l, 0)
theorem fit_any (l : List UInt8) (w : World) (hs : l.length ≤ 100000) : Calls Try.prog 46 #[.string (str l)] w (fun e w' => e = .returned (.tuple #[.string (str (fitR l).1), .int .i64 (fitR l).2]) ∧ w' = w) := by
  have HZ := Lib.hid (size_any (str l) w (by rw [str_size]; omega))
  rw [str_size] at HZ
  have HR : Hid (fitR l = if 48 < nsec l.length then ([], 3) else (l, 0)) := rfl
  obtain ⟨n, hn⟩ : ∃ n, nsec l.length = n := ⟨_, rfl⟩
  rw [hn] at HZ HR
  obtain ⟨S, hS⟩ : ∃ S, str l = S := ⟨_, rfl⟩
  have HS := Lib.hid hS
  rw [hS] at HZ ⊢
  clear hS hn
  by_cases h : 48 < n
  · have hi : (48 : Int) < (n : Int) := by omega
    have HR2 : Hid (fitR l = ([], 3)) := by unfold Hid; rw [HR.out, if_pos h]
    clear h
    go_enter Try.func46, Try.ntmps46
    go_wp2_with fail
    refine HZ.out.mono ?_
    rintro e _ ⟨rfl, rfl⟩
    go_wp2_with fail
    go_ret2
    exact ⟨by rw [HR2.out]; rfl, rfl⟩
  · have hi : ¬ (48 : Int) < (n : Int) := by omega
    have HR2 : Hid (fitR l = (l, 0)) := by unfold Hid; rw [HR.out, if_neg h]
    clear h
    go_enter Try.func46, Try.ntmps46
    go_wp2_with fail
    refine HZ.out.mono ?_
    rintro e _ ⟨rfl, rfl⟩
    go_wp2_with fail
    go_ret2
    exact ⟨by rw [HR2.out, HS.out]; rfl, rfl⟩
end Go.Proofs.Ytklmgdiaianlbaa.mt.pg

/- Two snapshots, two tables: are they alike, as the program tells it. -/
namespace Go.Proofs.Ytklmgdiaianlbaa.mt.pg
open Go Go.RowKit Go.Proofs.Ytklmgdiaianlbaa.ib Go.Proofs.Ytklmgdiaianlbaa.wi Go.Proofs.Ytklmgdiaianlbaa.im Go.Proofs.Ytklmgdiaianlbaa.mt
set_option maxRecDepth 100000

set_option maxHeartbeats 3200000 in
theorem sameSnap_any (x y : Sp) (A B : Option Addr) (c d : Nat) (w : World) (hx : SlAt w A x.img c) (hy : SlAt w B y.img d) (hl : x.img.length ≤ 1000) :
    Calls Try.prog 53 #[.agg (snC x A c), .agg (snC y B d)] w (endB (decide (x = y)) w) := by
  obtain ⟨W, hW⟩ : ∃ z, (w.alloc (.cells (snC x A c) 48)).alloc (.cells (snC y B d) 48) = z := ⟨_, rfl⟩
  have htw := two_boxes w 48 (snC x A c) (snC y B d) W hW
  obtain ⟨hA, hB, hb⟩ := htw
  have HXI := Lib.hid (hx.below hb)
  have HYI := Lib.hid (hy.below hb)
  have HB := Lib.hid hb
  have HL := Lib.hid hl
  clear hx hy hl hb
  have x0 := hA.cell 0
  have x1 := hA.cell 1
  have x2 := hA.cell 2
  have x3 := hA.cell 3
  have y0 := hB.cell 0
  have y1 := hB.cell 1
  have y2 := hB.cell 2
  have y3 := hB.cell 3
  have hla := hA.lt
  have hlb := hB.lt
  clear hA hB
  unfold snC at hW ⊢
  simp only [snC, List.getElem?_toArray, List.getElem?_cons_zero, List.getElem?_cons_succ] at x0 x1 x2 x3 y0 y1 y2 y3
  obtain ⟨res, hres⟩ : ∃ r, decide (x = y) = r := ⟨_, rfl⟩
  rw [hres]
  have HTK : Hid (res = true ↔ x.g = y.g ∧ x.hid = y.hid ∧ x.img = y.img) := by unfold Hid; rw [← hres, decide_eq_true_iff, sp_eq]
  have HNO : Hid (¬ (x.g = y.g ∧ x.hid = y.hid ∧ x.img = y.img) → res = false) := fun hn => by
    cases hr : res with
    | false => rfl
    | true => exact absurd (HTK.out.1 hr) hn
  clear hres
  go_enter Try.func53, Try.ntmps53
  go_upto_region 1 with fail
  try rw [hW]
  clear hW
  by_cases hg : x.g = y.g
  case' neg =>
    have hr := HNO.out (fun e => hg e.1)
    have HR := Lib.hid hr
    have hgn := gd_ne hg
    clear hr hg
    rcases hgn with hgn | ⟨hgn, hgn2⟩
    · go_wp2_with fail
      go_ret
      exact ⟨by rw [HR.out]; rfl, HB.out⟩
    · go_wp2_with fail
      go_ret
      exact ⟨by rw [HR.out]; rfl, HB.out⟩
  rw [← hg] at y0 y1
  have HG0 := Lib.hid hg
  clear hg
  by_cases hh : x.hid = y.hid
  case' neg =>
    have hr := HNO.out (fun e => hh e.2.1)
    have HR := Lib.hid hr
    have hq : (x.hid == y.hid) = false := by simpa using hh
    clear hr hh
    go_wp2_with fail
    go_ret
    exact ⟨by rw [HR.out]; rfl, HB.out⟩
  rw [← hh] at y3
  have HH := Lib.hid hh
  have hq : (x.hid == x.hid) = true := by simp
  clear hh
  go_wp2_with fail
  refine (equal_any A B c d x.img y.img W HXI.out.ints HYI.out.ints (by have := HL.out; omega)).mono ?_
  rintro e W9 ⟨rfl, hb9⟩
  have HB9 := Lib.hid (below_step HB.out hb9)
  have hr : decide (x.img = y.img) = res := by
    cases hr : res with
    | true => exact decide_eq_true (HTK.out.1 hr).2.2
    | false =>
      rw [decide_eq_false_iff_not]
      intro h
      rw [HTK.out.2 ⟨HG0.out, HH.out, h⟩] at hr
      cases hr
  rw [hr]
  clear hr hb9
  go_wp2_with fail
  go_ret
  exact ⟨rfl, HB9.out⟩

theorem take_next {xs ys : List Sp} {k : Nat} (hx : k < xs.length) (hy : k < ys.length) (h : xs.take k = ys.take k) (e : xs[k] = ys[k]) : xs.take (k + 1) = ys.take (k + 1) := by
  rw [List.take_succ_eq_append_getElem hx, List.take_succ_eq_append_getElem hy, h, e]
theorem take_ne {xs ys : List Sp} {k : Nat} (hx : k < xs.length) (hy : k < ys.length) (e : xs[k] ≠ ys[k]) : xs ≠ ys := by
  intro h
  subst h
  exact e rfl
def SmRel (xs ys : List Sp) (w : World) (i : Value) (wr : World) : Prop := ∃ k : Nat, k ≤ xs.length ∧ i = .int .i64 (k : Int) ∧ xs.take k = ys.take k ∧ Below w.heap.size w wr
/-- A slice of snapshots, with its room. -/
structure SnsL (w : World) (A : Option Addr) (xs : List Sp) (c : Nat) : Prop where
  at_ : SnsAt w A xs
  room : xs.length ≤ c ∧ (A = none → xs.length = 0 ∧ c = 0)

set_option maxHeartbeats 3200000 in
theorem eqFunc_any (xs ys : List Sp) (A B : Option Addr) (c d : Nat) (w : World) (hx : SnsAt w A xs) (hy : SnsAt w B ys) (hl : xs.length ≤ 1000) (hi : ∀ s ∈ xs, s.img.length ≤ 1000) :
    Calls Try.prog 52 #[.slice A xs.length c, .slice B ys.length d, .func (.func 53) #[] #[]] w (endB (decide (xs = ys)) w) := by
  have HX := Lib.hid hx
  have HY := Lib.hid hy
  have HI := Lib.hid hi
  clear hx hy hi
  by_cases hlen : xs.length = ys.length
  case' neg =>
    have hli : ((xs.length : Int) != (ys.length : Int)) = true := by simp; omega
    have HR : Hid (decide (xs = ys) = false) := by
      unfold Hid
      rw [decide_eq_false_iff_not]
      exact fun e => hlen (congrArg List.length e)
    clear hlen
    go_enter Try.func52, Try.ntmps52
    go_wp2_with fail
    go_ret
    exact ⟨by rw [HR.out]; rfl, Below.refl _ _⟩
  rw [← hlen]
  obtain ⟨n, hn⟩ : ∃ n, xs.length = n := ⟨_, rfl⟩
  have HLN := Lib.hid hn
  have HLN' : Hid (ys.length = n) := hlen.symm.trans hn
  rw [hn] at hl ⊢
  clear hlen hn
  go_enter Try.func52, Try.ntmps52
  go_wp2_with fail
  go_loopw [7, 8, 9, 17] (fun _ _ _ i wr => SmRel xs ys w i wr) (fun _ _ _ i _ => n - (intOf i).toNat)
  case atStart => exact ⟨0, Nat.zero_le _, rfl, by rw [List.take_zero, List.take_zero], Below.refl _ _⟩
  case round =>
    obtain ⟨k, hk, rfl, htk, hbw⟩ := hrel
    have HTK := Lib.hid htk
    have HBW := Lib.hid hbw
    rw [HLN.out] at hk
    clear htk hbw
    by_cases hlt : k < n
    · have hki : (k : Int) < (n : Int) := by omega
      have hkx : k < xs.length := by rw [HLN.out]; exact hlt
      have hky : k < ys.length := by rw [HLN'.out]; exact hlt
      obtain ⟨xb, xo, XB, xc, hx1, hx2, hx3, hx4, hx5, hx6, hx7, hx8⟩ := (HX.out.below HBW.out) k hkx
      obtain ⟨yb, yo, YB, yc, hy1, hy2, hy3, hy4, hy5, hy6, hy7, hy8⟩ := (HY.out.below HBW.out) k hky
      obtain ⟨x, hx⟩ : ∃ x, xs[k] = x := ⟨_, rfl⟩
      obtain ⟨y, hy⟩ : ∃ y, ys[k] = y := ⟨_, rfl⟩
      have HXL : Hid (x.img.length ≤ 1000) := by rw [← hx]; exact HI.out _ (List.getElem_mem hkx)
      rw [hx] at hx3 hx4 hx5 hx6 hx7
      rw [hy] at hy3 hy4 hy5 hy6 hy7
      have HXE := Lib.hid hx
      have HYE := Lib.hid hy
      have HXI := Lib.hid hx7
      have HYI := Lib.hid hy7
      subst hx1 hy1
      clear hx hy hx7 hy7 hx8 hy8
      obtain ⟨W1, hW1⟩ : ∃ z, wr.alloc (.cells (snC x XB xc) 48) = z := ⟨_, rfl⟩
      have hb1 : Below wr.heap.size wr W1 := by rw [← hW1]; exact (Below.refl _ wr).alloc (Nat.le_refl _) _
      have hA1 : Blk W1 wr.heap.size 48 (snC x XB xc) := by rw [← hW1]; exact Blk.new _ _ _
      have y3 : W1.cell? ⟨yb, yo + k * 4, none⟩ = some (.int .u64 (y.g.1 : Int)) := by rw [hb1.cell (p := ⟨yb, yo + k * 4, none⟩) hy2]; exact hy3
      have y4 : W1.cell? ⟨yb, yo + k * 4 + 1, none⟩ = some (.int .u64 (y.g.2 : Int)) := by rw [hb1.cell (p := ⟨yb, yo + k * 4 + 1, none⟩) hy2]; exact hy4
      have y5 : W1.cell? ⟨yb, yo + k * 4 + 2, none⟩ = some (.slice YB y.img.length yc) := by rw [hb1.cell (p := ⟨yb, yo + k * 4 + 2, none⟩) hy2]; exact hy5
      have y6 : W1.cell? ⟨yb, yo + k * 4 + 3, none⟩ = some (.bool y.hid) := by rw [hb1.cell (p := ⟨yb, yo + k * 4 + 3, none⟩) hy2]; exact hy6
      have hly := Nat.lt_of_lt_of_le hy2 hb1.size
      obtain ⟨W2, hW2⟩ : ∃ z, W1.alloc (.cells (snC y YB yc) 48) = z := ⟨_, rfl⟩
      have hb2 : Below W1.heap.size W1 W2 := by rw [← hW2]; exact (Below.refl _ W1).alloc (Nat.le_refl _) _
      have hA2 : Blk W2 W1.heap.size 48 (snC y YB yc) := by rw [← hW2]; exact Blk.new _ _ _
      have hA12 := hA1.below hb2
      have HB2 := Lib.hid (below_step hb1 hb2)
      have c0 := hA12.cell 0
      have c1 := hA12.cell 1
      have c2 := hA12.cell 2
      have c3 := hA12.cell 3
      have d0 := hA2.cell 0
      have d1 := hA2.cell 1
      have d2 := hA2.cell 2
      have d3 := hA2.cell 3
      have hlc := hA12.lt
      have hld := hA2.lt
      simp only [snC, List.getElem?_toArray, List.getElem?_cons_zero, List.getElem?_cons_succ] at c0 c1 c2 c3 d0 d1 d2 d3
      unfold snC at hW1 hW2
      clear hb1 hA1 hb2 hA2 hA12
      go_upto_region 6 with fail
      try rw [hW1]
      go_upto_region 7 with fail
      try rw [hW2]
      clear hW1 hW2 hx3 hx4 hx5 hx6 y3 y4 y5 y6 hy3 hy4 hy5 hy6
      go_wp2_with fail
      refine (sameSnap_any x y XB YB xc yc W2 (HXI.out.below HB2.out) (HYI.out.below HB2.out) HXL.out).mono ?_
      rintro e W9 ⟨rfl, hb9⟩
      have HB9 := Lib.hid (below_step (below_step HBW.out HB2.out) hb9)
      clear hb9 c0 c1 c2 c3 d0 d1 d2 d3
      by_cases hxy : x = y
      · have hq : decide (x = y) = true := decide_eq_true hxy
        have HN : Hid (xs.take (k + 1) = ys.take (k + 1)) := take_next hkx hky HTK.out (by rw [HXE.out, HYE.out, hxy])
        rw [hq]
        clear hxy hq
        go_wp2_with fail
        go_roundw
        case rel => exact ⟨k + 1, by omega, by go_num, HN.out, HB9.out⟩
        case measure => simp [intOf]; omega
      · have hq : decide (x = y) = false := decide_eq_false hxy
        have HR : Hid (decide (xs = ys) = false) := decide_eq_false (take_ne hkx hky (by rw [HXE.out, HYE.out]; exact hxy))
        rw [hq]
        clear hxy hq
        go_wp2_with fail
        go_ret
        exact ⟨by rw [HR.out]; rfl, HB9.out⟩
    · obtain rfl : k = n := by omega
      have HR : Hid (decide (xs = ys) = true) := by
        refine decide_eq_true ?_
        have h := HTK.out
        rw [List.take_of_length_le (by have := HLN.out; omega), List.take_of_length_le (by have := HLN'.out; omega)] at h
        exact h
      go_wp2_with fail
      go_ret
      exact ⟨by rw [HR.out]; rfl, HBW.out⟩
end Go.Proofs.Ytklmgdiaianlbaa.mt.pg

/- Two tables: are they alike; a token, a table: may it be; as the program tells it. -/
namespace Go.Proofs.Ytklmgdiaianlbaa.mt.pg
open Go Go.RowKit Go.Proofs.Ytklmgdiaianlbaa.ib Go.Proofs.Ytklmgdiaianlbaa.wi Go.Proofs.Ytklmgdiaianlbaa.im Go.Proofs.Ytklmgdiaianlbaa.mt
set_option maxRecDepth 100000

theorem mt_eq (m m' : Mt) : m = m' ↔ m.live = m'.live ∧ m.snaps = m'.snaps ∧ m.tok = m'.tok := by cases m; cases m'; simp

set_option maxHeartbeats 3200000 in
theorem same_any (v v' : Value) (m m' : Mt) (w : World) (h : MtAt w v m) (h' : MtAt w v' m') (hs : mtS m) (hs' : mtS m') : Calls Try.prog 15 #[v, v'] w (endB (decide (m = m')) w) := by
  obtain ⟨A0, A1, A2, d0, d1, d2, rfl, hm⟩ := h
  obtain ⟨B0, B1, B2, e0, e1, e2, rfl, hm'⟩ := h'
  have HM := Lib.hid hm
  have HN := Lib.hid hm'
  have HS := Lib.hid hs
  clear hm hm' hs hs'
  obtain ⟨W, hW⟩ : ∃ z, (w.alloc (.cells (mtC A0 A1 A2 d0 d1 d2 m) 30)).alloc (.cells (mtC B0 B1 B2 e0 e1 e2 m') 30) = z := ⟨_, rfl⟩
  obtain ⟨hA, hB, hb⟩ := two_boxes w 30 _ _ W hW
  have HA := Lib.hid hA
  have HB := Lib.hid hB
  have HW := Lib.hid hb
  clear hb
  have a0 := hA.cell 0
  have b0 := hB.cell 0
  have hla := hA.lt
  have hlb := hB.lt
  simp only [mtC, List.getElem?_toArray, List.getElem?_cons_zero, List.getElem?_cons_succ] at a0 b0
  clear hA hB
  obtain ⟨res, hres⟩ : ∃ r, decide (m = m') = r := ⟨_, rfl⟩
  rw [hres]
  have HRES : Hid (res = true ↔ m.live = m'.live ∧ m.snaps = m'.snaps ∧ m.tok = m'.tok) := by unfold Hid; rw [← hres, decide_eq_true_iff, mt_eq]
  have HNO : Hid (¬ (m.live = m'.live ∧ m.snaps = m'.snaps ∧ m.tok = m'.tok) → res = false) := fun hn => by
    cases hr : res with
    | false => rfl
    | true => exact absurd (HRES.out.1 hr) hn
  clear hres
  unfold mtC at hW ⊢
  go_enter Try.func15, Try.ntmps15
  go_upto_region 1 with fail
  try rw [hW]
  clear hW
  go_wp2_with fail
  refine (equal_any A0 B0 d0 e0 m.live m'.live W (HM.out.live.below HW.out).ints (HN.out.live.below HW.out).ints (by have := HS.out.live; omega)).mono ?_
  rintro e W3 ⟨rfl, hb3⟩
  have HB3 := Lib.hid (below_step HW.out hb3)
  have hA := HA.out.below hb3
  have hB := HB.out.below hb3
  have HA3 := Lib.hid hA
  have HC3 := Lib.hid hB
  have a1 := hA.cell 1
  have b1 := hB.cell 1
  have hla := hA.lt
  have hlb := hB.lt
  simp only [mtC, List.getElem?_toArray, List.getElem?_cons_zero, List.getElem?_cons_succ] at a1 b1
  clear hb3 a0 b0 hA hB HA HB
  by_cases hq : m.live = m'.live
  case' neg =>
    rw [decide_eq_false hq]
    have HR := Lib.hid (HNO.out (fun e => hq e.1))
    clear hq
    go_wp2_with fail
    go_ret
    exact ⟨by rw [HR.out]; rfl, HB3.out⟩
  rw [decide_eq_true hq]
  have HQ := Lib.hid hq
  clear hq
  go_wp2_with fail
  refine (eqFunc_any m.snaps m'.snaps A1 B1 d1 e1 W3 (HM.out.below HB3.out).snaps (HN.out.below HB3.out).snaps HS.out.snaps HS.out.imgs).mono ?_
  rintro e W4 ⟨rfl, hb4⟩
  have HB4 := Lib.hid (below_step HB3.out hb4)
  have hA := HA3.out.below hb4
  have hB := HC3.out.below hb4
  have a2 := hA.cell 2
  have a3 := hA.cell 3
  have a4 := hA.cell 4
  have a5 := hA.cell 5
  have a6 := hA.cell 6
  have a7 := hA.cell 7
  have a8 := hA.cell 8
  have b2 := hB.cell 2
  have b3 := hB.cell 3
  have b4 := hB.cell 4
  have b5 := hB.cell 5
  have b6 := hB.cell 6
  have b7 := hB.cell 7
  have b8 := hB.cell 8
  have hla := hA.lt
  have hlb := hB.lt
  simp only [mtC, List.getElem?_toArray, List.getElem?_cons_zero, List.getElem?_cons_succ] at a2 a3 a4 a5 a6 a7 a8 b2 b3 b4 b5 b6 b7 b8
  clear hb4 a1 b1 hA hB HA3 HC3
  by_cases hq : m.snaps = m'.snaps
  case' neg =>
    rw [decide_eq_false hq]
    have HR := Lib.hid (HNO.out (fun e => hq e.2.1))
    clear hq
    go_wp2_with fail
    go_ret
    exact ⟨by rw [HR.out]; rfl, HB4.out⟩
  rw [decide_eq_true hq]
  have HT := Lib.hid (sameToken_any m.tok m'.tok A2 B2 d2 e2 W4 (HM.out.below HB4.out).img (HN.out.below HB4.out).img HS.out.img)
  have hr : decide (m.tok = m'.tok) = res := by
    cases hr : res with
    | true => exact decide_eq_true (HRES.out.1 hr).2.2
    | false =>
      rw [decide_eq_false_iff_not]
      intro h
      rw [HRES.out.2 ⟨HQ.out, hq, h⟩] at hr
      cases hr
  rw [hr] at HT
  clear hq hr
  go_wp2_with fail
  refine HT.out.mono ?_
  rintro e W9 ⟨rfl, hb9⟩
  have HB9 := Lib.hid (below_step HB4.out hb9)
  clear hb9 a2 a3 a4 a5 a6 a7 a8 b2 b3 b4 b5 b6 b7 b8 hla hlb
  go_wp2_with fail
  go_ret
  exact ⟨rfl, HB9.out⟩

/-! ### A token -/
set_option maxHeartbeats 1600000 in
theorem isNone_any (t : Tk) (A : Option Addr) (c : Nat) (w : World) (h : SlAt w A t.img c) (hl : t.img.length ≤ 1000) : Calls Try.prog 66 #[.agg (tkC t A c)] w (endB (decide (t = tk0)) w) := by
  have hb := (Below.refl w.heap.size w).alloc (Nat.le_refl _) (.cells (tkC t A c) 28)
  have ha := Blk.new w 28 (tkC t A c)
  obtain ⟨W, hW⟩ : ∃ z, w.alloc (.cells (tkC t A c) 28) = z := ⟨_, rfl⟩
  rw [hW] at hb ha
  have HT := Lib.hid (sameToken_any t tk0 A none c 0 W (h.below hb) (SlAt.none _) hl)
  have HB := Lib.hid hb
  have a0 := ha.cell 0
  have a1 := ha.cell 1
  have a2 := ha.cell 2
  have a3 := ha.cell 3
  have a4 := ha.cell 4
  have a5 := ha.cell 5
  have a6 := ha.cell 6
  have hla := ha.lt
  simp only [tkC, List.getElem?_toArray, List.getElem?_cons_zero, List.getElem?_cons_succ] at a0 a1 a2 a3 a4 a5 a6
  clear hb ha h hl
  unfold tkC at hW ⊢
  go_enter Try.func66, Try.ntmps66
  go_upto_region 1 with fail
  try rw [hW]
  clear hW
  go_wp2_with fail
  refine HT.out.mono ?_
  rintro e W9 ⟨rfl, hb9⟩
  have HB9 := Lib.hid (below_step HB.out hb9)
  clear hb9 a0 a1 a2 a3 a4 a5 a6 hla
  go_wp2_with fail
  go_ret
  exact ⟨rfl, HB9.out⟩
theorem tkChk_none (b n : Int) (last : Gd) : tkChk b n last tk0 = 0 := by unfold tkChk; rw [if_pos (show tk0.target = (0, 0) from rfl), if_pos (show tkNone tk0 = true by decide)]
theorem above_zero (last : Gd) : above (0, 0) last = false := by unfold above; simp
theorem tkChk_bad {b n : Int} {last : Gd} {t : Tk} (h : t ≠ tk0) (hb : tkBad t last b = true) : tkChk b n last t = 2 := by
  unfold tkChk
  by_cases h0 : t.target = (0, 0)
  · rw [if_pos h0, if_neg]
    intro h1
    apply h
    unfold tkNone at h1
    simp only [Bool.and_eq_true, decide_eq_true_eq] at h1
    obtain ⟨⟨⟨e1, e2⟩, e3⟩, e4⟩ := h1
    cases t
    simp only at e1 e2 e3 e4 h0
    subst e1 e2 e3 e4 h0
    rfl
  · rw [if_neg h0, if_pos hb]
theorem tkChk_good {b n : Int} {last : Gd} {t : Tk} (hb : tkBad t last b = false) : tkChk b n last t = iCheck t.img b n := by
  unfold tkChk
  rw [if_neg, if_neg (by rw [hb]; decide)]
  intro h0
  unfold tkBad at hb
  rw [h0, above_zero] at hb
  simp at hb

set_option maxHeartbeats 6400000 in
theorem checkToken_any (t : Tk) (A : Option Addr) (c : Nat) (last : Gd) (b n : Int) (w : World) (h : SlAt w A t.img c) (hl : t.img.length ≤ 1000) (hb : i64B b) (hn : i64B n) :
    Calls Try.prog 42 #[.agg (tkC t A c), gv last, .int .i64 b, .int .i64 n] w (endI (tkChk b n last t) w) := by
  have HN := Lib.hid (And.intro hb hn)
  have HL := Lib.hid hl
  have hb1 := (Below.refl w.heap.size w).alloc (Nat.le_refl _) (.cells (tkC t A c) 28)
  have ha1 := Blk.new w 28 (tkC t A c)
  obtain ⟨W1, hW1⟩ : ∃ z, w.alloc (.cells (tkC t A c) 28) = z := ⟨_, rfl⟩
  rw [hW1] at hb1 ha1
  have hb2 := (Below.refl W1.heap.size W1).alloc (Nat.le_refl _) (.cells #[.int .u64 (last.1 : Int), .int .u64 (last.2 : Int)] 26)
  have ha2 := Blk.new W1 26 #[.int .u64 (last.1 : Int), .int .u64 (last.2 : Int)]
  obtain ⟨W2, hW2⟩ : ∃ z, W1.alloc (.cells #[.int .u64 (last.1 : Int), .int .u64 (last.2 : Int)] 26) = z := ⟨_, rfl⟩
  rw [hW2] at hb2 ha2
  have HB := Lib.hid (below_step hb1 hb2)
  have HA := Lib.hid (ha1.below hb2)
  have HG := Lib.hid ha2
  have HI := Lib.hid (h.below HB.out)
  have HT := Lib.hid (isNone_any t A c W2 HI.out hl)
  have a0 := HA.out.cell 0
  have a1 := HA.out.cell 1
  have a2 := HA.out.cell 2
  have a3 := HA.out.cell 3
  have a4 := HA.out.cell 4
  have a5 := HA.out.cell 5
  have a6 := HA.out.cell 6
  have hla := HA.out.lt
  simp only [tkC, List.getElem?_toArray, List.getElem?_cons_zero, List.getElem?_cons_succ] at a0 a1 a2 a3 a4 a5 a6
  clear hb1 ha1 hb2 ha2 h hl hb hn
  obtain ⟨res, hres⟩ : ∃ r, tkChk b n last t = r := ⟨_, rfl⟩
  rw [hres]
  have HRES := Lib.hid hres
  clear hres
  unfold tkC at hW1 ⊢
  unfold gv
  go_enter Try.func42, Try.ntmps42
  go_upto_region 1 with fail
  try rw [hW2]
  clear hW1 hW2
  obtain ⟨gg, hgg⟩ : ∃ g, W1.heap.size = g := ⟨_, rfl⟩
  rw [hgg] at HG
  try rw [hgg]
  clear hgg
  go_wp2_with fail
  refine HT.out.mono ?_
  rintro e W3 ⟨rfl, hb3⟩
  have HB3 := Lib.hid (below_step HB.out hb3)
  have hA := HA.out.below hb3
  have hG := HG.out.below hb3
  have HI3 := Lib.hid (HI.out.below hb3)
  have HA3 := Lib.hid hA
  have HG3 := Lib.hid hG
  have a0 := hA.cell 0
  have a1 := hA.cell 1
  have a2 := hA.cell 2
  have a3 := hA.cell 3
  have a4 := hA.cell 4
  have a5 := hA.cell 5
  have a6 := hA.cell 6
  have g0 := hG.cell 0
  have g1 := hG.cell 1
  have hla := hA.lt
  have hlg := hG.lt
  simp only [tkC, List.getElem?_toArray, List.getElem?_cons_zero, List.getElem?_cons_succ] at a0 a1 a2 a3 a4 a5 a6 g0 g1
  clear hb3 hA hG HA HG HI
  by_cases h0 : t = tk0
  case' pos =>
    rw [decide_eq_true h0]
    have HR : Hid (res = 0) := by unfold Hid; rw [← HRES.out, h0, tkChk_none]
    clear h0
    go_wp2_with fail
    go_ret
    exact ⟨by rw [HR.out]; rfl, HB3.out⟩
  rw [decide_eq_false h0]
  have HNO : Hid (tkBad t last b = true → res = 2) := fun hq => by rw [← HRES.out]; exact tkChk_bad h0 hq
  have HYES : Hid (tkBad t last b = false → res = iCheck t.img b n) := fun hq => by rw [← HRES.out]; exact tkChk_good hq
  have HBAD : Hid (tkBad t last b = (!decide (t.base = last) || !above t.target last || decide (t.next < 1) || decide (t.all ≤ t.next) || decide (b < t.all))) := rfl
  clear h0 HRES
  by_cases h1 : t.base = last
  case' neg =>
    have HR : Hid (res = 2) := HNO.out (by rw [HBAD.out, decide_eq_false h1]; simp)
    have hgn := gd_ne h1
    clear h1
    rcases hgn with hgn | ⟨hgn, hgn2⟩
    · go_wp2_with fail
      go_ret
      exact ⟨by rw [HR.out]; rfl, HB3.out⟩
    · go_wp2_with fail
      go_ret
      exact ⟨by rw [HR.out]; rfl, HB3.out⟩
  rw [h1] at a0 a1
  have H1 := Lib.hid h1
  have HAB := Lib.hid (above_any t.target last W3)
  clear h1
  unfold gv at HAB
  go_wp2_with fail
  refine HAB.out.mono ?_
  rintro e W4 ⟨rfl, hb4⟩
  have HB4 := Lib.hid (below_step HB3.out hb4)
  have hA := HA3.out.below hb4
  have HI4 := Lib.hid (HI3.out.below hb4)
  have a4 := hA.cell 4
  have a5 := hA.cell 5
  have a6 := hA.cell 6
  have hla := hA.lt
  simp only [tkC, List.getElem?_toArray, List.getElem?_cons_zero, List.getElem?_cons_succ] at a4 a5 a6
  clear hb4 hA a0 a1 a2 a3 g0 g1 hlg HA3 HG3 HI3
  obtain ⟨q, hq⟩ : ∃ q, above t.target last = q := ⟨_, rfl⟩
  rw [hq]
  cases q with
  | false =>
    have HR : Hid (res = 2) := HNO.out (by rw [HBAD.out, hq]; simp)
    clear hq
    go_wp2_with fail
    go_ret
    exact ⟨by rw [HR.out]; rfl, HB4.out⟩
  | true =>
    have HQ := Lib.hid hq
    clear hq
    by_cases h2 : t.next < 1
    · have HR : Hid (res = 2) := HNO.out (by rw [HBAD.out, decide_eq_true h2]; simp)
      go_wp2_with fail
      go_ret
      exact ⟨by rw [HR.out]; rfl, HB4.out⟩
    by_cases h3 : t.all ≤ t.next
    · have HR : Hid (res = 2) := HNO.out (by rw [HBAD.out, decide_eq_true h3]; simp)
      go_wp2_with fail
      go_ret
      exact ⟨by rw [HR.out]; rfl, HB4.out⟩
    by_cases h4 : b < t.all
    · have HR : Hid (res = 2) := HNO.out (by rw [HBAD.out, decide_eq_true h4]; simp)
      go_wp2_with fail
      go_ret
      exact ⟨by rw [HR.out]; rfl, HB4.out⟩
    have HR : Hid (res = iCheck t.img b n) := HYES.out (by rw [HBAD.out, HQ.out, decide_eq_true H1.out, decide_eq_false h2, decide_eq_false h3, decide_eq_false h4]; rfl)
    go_wp2_with fail
    refine (hcheck_any A c t.img b n W4 HI4.out HL.out HN.out.1 HN.out.2).mono ?_
    rintro e W5 ⟨rfl, hb5⟩
    have HB5 := Lib.hid (below_step HB4.out hb5)
    rw [← HR.out]
    clear hb5 a4 a5 a6 hla h2 h3 h4
    go_wp2_with fail
    go_ret
    exact ⟨rfl, HB5.out⟩
end Go.Proofs.Ytklmgdiaianlbaa.mt.pg

/- Is a guid above another one. -/
namespace Go.Proofs.Ytklmgdiaianlbaa.mt
open Go Go.RowKit Go.Sort Go.Proofs.Ytklmgdiaianlbaa.ib
set_option maxRecDepth 100000

set_option maxHeartbeats 1600000 in
theorem rabove_any (a b : Gd) (w : World) : Calls Try.prog 44 #[gv a, gv b] w (endB (above a b) w) := by
  obtain ⟨a1, a2⟩ := a
  obtain ⟨b1, b2⟩ := b
  have HR : Hid (above (a1, a2) (b1, b2) = (decide ((b1 : Int) < (a1 : Int)) || (decide ((a1 : Int) = (b1 : Int)) && decide ((b2 : Int) < (a2 : Int))))) := by
    unfold Hid above
    simp [Int.ofNat_inj]
  show Calls Try.prog 44 #[.agg #[.int .u64 (a1 : Int), .int .u64 (a2 : Int)], .agg #[.int .u64 (b1 : Int), .int .u64 (b2 : Int)]] w _
  obtain ⟨r, hr⟩ : ∃ r, above (a1, a2) (b1, b2) = r := ⟨_, rfl⟩
  rw [hr] at HR ⊢
  generalize (a1 : Int) = x1 at *
  generalize (a2 : Int) = x2 at *
  generalize (b1 : Int) = y1 at *
  generalize (b2 : Int) = y2 at *
  clear hr
  have hB1 := (Below.refl w.heap.size w).alloc (Nat.le_refl _) (.cells #[.int .u64 x1, .int .u64 x2] 26)
  have HB := Lib.hid (hB1.alloc hB1.size (.cells #[.int .u64 y1, .int .u64 y2] 26))
  clear hB1
  by_cases h1 : y1 < x1
  · have HT : Hid (r = true) := by unfold Hid; rw [HR.out]; simp [h1]
    clear HR
    go_enter Try.func44, Try.ntmps44
    go_wp2_with fail
    go_ret
    rw [HT.out]
    exact ⟨rfl, HB.out⟩
  · by_cases h2 : x1 = y1
    · subst h2
      by_cases h3 : y2 < x2
      · have HT : Hid (r = true) := by unfold Hid; rw [HR.out]; simp [h3]
        clear HR
        go_enter Try.func44, Try.ntmps44
        go_wp2_with fail
        go_ret
        rw [HT.out]
        exact ⟨rfl, HB.out⟩
      · have HT : Hid (r = false) := by unfold Hid; rw [HR.out]; simp [h3]
        clear HR
        go_enter Try.func44, Try.ntmps44
        go_wp2_with fail
        go_ret
        rw [HT.out]
        exact ⟨rfl, HB.out⟩
    · have HT : Hid (r = false) := by unfold Hid; rw [HR.out]; simp [h1, h2]
      have hq : (x1 == y1) = false := by simpa using h2
      clear HR
      go_enter Try.func44, Try.ntmps44
      go_wp2_with fail
      go_ret
      rw [HT.out]
      exact ⟨rfl, HB.out⟩
end Go.Proofs.Ytklmgdiaianlbaa.mt

/- The statements' and the document's own small functions. -/
namespace Go.Proofs.Ytklmgdiaianlbaa.im
open Go Go.RowKit Go.Proofs.Ytklmgdiaianlbaa.ib
set_option maxRecDepth 100000

/-! ### Are two lists alike -/
def AlikeRel (ps qs : List Int) (w : World) (i : Value) (wr : World) : Prop := ∃ k : Nat, k ≤ ps.length ∧ i = .int .i64 (k : Int) ∧ ps.take k = qs.take k ∧ Below w.heap.size w wr
theorem drewA {w wr : World} (h : Below w.heap.size w wr) (n : Nat) : Below w.heap.size w (wr.drewN n) := ⟨h.os, h.tape, h.output, h.size, h.block⟩

set_option maxHeartbeats 1600000 in
theorem rints_any (A A' : Option Addr) (c c' : Nat) (ps qs : List Int) (w : World) (hp : IntsAt w A ps) (hq : IntsAt w A' qs) (hl : ps.length ≤ 9223372036854775807) :
    Calls Try.prog 55 #[.slice A ps.length c, .slice A' qs.length c'] w (endB (decide (ps = qs)) w) := by
  have HP := Lib.hid hp
  have HQ := Lib.hid hq
  clear hp hq
  by_cases hne : ps.length = qs.length
  · have HNE := Lib.hid hne
    have hlb : ((ps.length : Int) != (qs.length : Int)) = false := by rw [hne]; simp
    clear hne
    go_enter Try.func55, Try.ntmps55
    go_wp2_with fail
    go_loopw [5] (fun i wr => AlikeRel ps qs w i wr) (fun i _ => ps.length - (intOf i).toNat)
    case atStart => exact ⟨0, Nat.zero_le _, rfl, by simp, Below.refl _ _⟩
    case round =>
      obtain ⟨k, hk, rfl, he, hb⟩ := hrel
      have HE := Lib.hid he
      have HB := Lib.hid hb
      clear he hb
      by_cases hlt : k < ps.length
      · obtain ⟨b, o, rfl, hbl, hc, hz⟩ := HP.out k hlt
        have hlq : k < qs.length := by have := HNE.out; omega
        obtain ⟨b', o', rfl, hbl', hc', hz'⟩ := HQ.out k hlq
        have h1 : ps.take (k + 1) = ps.take k ++ [ps[k]] := List.take_succ_eq_append_getElem hlt
        have h2 : qs.take (k + 1) = qs.take k ++ [qs[k]] := List.take_succ_eq_append_getElem hlq
        have hps : ps = qs → ps[k] = qs[k] := fun h => by subst h; rfl
        have HPS := Lib.hid hps
        have H1 := Lib.hid h1
        have H2 := Lib.hid h2
        have e0 : wr.cell? ⟨b, o + k, none⟩ = some (.int .i64 ps[k]) := by rw [HB.out.cell (p := ⟨b, o + k, none⟩) hbl]; exact hc
        have e1 : wr.cell? ⟨b', o' + k, none⟩ = some (.int .i64 qs[k]) := by rw [HB.out.cell (p := ⟨b', o' + k, none⟩) hbl']; exact hc'
        have l0 : b < wr.heap.size := Nat.lt_of_lt_of_le hbl HB.out.size
        have l1 : b' < wr.heap.size := Nat.lt_of_lt_of_le hbl' HB.out.size
        have hklt : (k : Int) < (ps.length : Int) := by omega
        have hklq : (k : Int) < (qs.length : Int) := by omega
        clear hc hc' h1 h2 hps hz hz'
        generalize ps[k] = x at *
        generalize qs[k] = y at *
        by_cases hxy : x = y
        · subst hxy
          have hq : (x != x) = false := by simp
          go_wp2_with fail
          go_quiet (fail)
          go_wp2_with fail
          go_roundw
          case rel => exact ⟨k + 1, by omega, by go_num, by rw [H1.out, H2.out, HE.out], by first | exact drewA HB.out _ | exact HB.out⟩
          case measure => simp [intOf]; omega
        · have hq : (x != y) = true := by simpa using hxy
          have hd : decide (ps = qs) = false := decide_eq_false fun h => hxy (HPS.out h)
          have HD := Lib.hid hd
          clear hd
          go_wp2_with fail
          go_quiet (fail)
          go_wp2_with fail
          go_ret
          rw [HD.out]
          exact ⟨rfl, by first | exact drewA HB.out _ | exact HB.out⟩
      · have hke : k = ps.length := by omega
        have hd : decide (ps = qs) = true := by
          apply decide_eq_true
          have := HE.out
          rw [hke, List.take_length, HNE.out, List.take_length] at this
          exact this
        have HD := Lib.hid hd
        have hkl : ¬ (k : Int) < (ps.length : Int) := by omega
        clear hd hke
        go_wp2_with fail
        go_ret
        rw [HD.out]
        exact ⟨rfl, HB.out⟩
  · have hlb : ((ps.length : Int) != (qs.length : Int)) = true := by simp; omega
    have hd : decide (ps = qs) = false := decide_eq_false fun h => hne (by rw [h])
    have HD := Lib.hid hd
    clear hd hne
    go_enter Try.func55, Try.ntmps55
    go_wp2_with fail
    go_ret
    rw [HD.out]
    exact ⟨rfl, Below.refl _ _⟩

end Go.Proofs.Ytklmgdiaianlbaa.im


/- StWKn. -/
import Derived.Test.YtdpbdkacngaemaaDoorQ11
import Derived.LoopTactic
import Derived.Great.BuildSlice
import Derived.Great.FillDense
set_option linter.unusedVariables false
set_option linter.unusedSimpArgs false
/- StreamKnown's walk. -/
namespace Go.Proofs.YtdpbdkacngaemaaDoor.st
open Go Go.RowKit Go.Sort Go.Great Go.Proofs.YtdpbdkacngaemaaDoor.ib Go.Proofs.YtdpbdkacngaemaaDoor.wi Go.Proofs.YtdpbdkacngaemaaDoor.mt
open Go.Proofs.YtdpbdkacngaemaaDoor.ch (ChL OChs chVals infoCh)
set_option maxRecDepth 100000

def mkC : List Mk → List Value
  | [] => []
  | m :: r => .int .i64 m.b :: .int .u8 (m.c.toNat : Int) :: .bool m.s :: mkC r
theorem mkC_get : ∀ (l : List Mk) (i : Nat) (h : i < l.length), (mkC l)[i * 3]? = some (.int .i64 l[i].b) ∧ (mkC l)[i * 3 + 1]? = some (.int .u8 (l[i].c.toNat : Int)) ∧ (mkC l)[i * 3 + 2]? = some (.bool l[i].s)
  | m :: r, 0, _ => ⟨rfl, rfl, rfl⟩
  | m :: r, i + 1, h => by
    have := mkC_get r i (by simpa using h)
    rw [show (i + 1) * 3 = i * 3 + 1 + 1 + 1 from by omega]
    exact this
theorem mkl_of {W : World} {g : Nat} {l : List Mk} (h : Blk W g 36 (mkC l).toArray) (hq : l.all (fun m => decide (-9223372036854775808 ≤ m.b) && decide (m.b ≤ 9223372036854775807)) = true) : MkL W (some ⟨g, 0, none⟩) l := by
  intro i hi
  obtain ⟨h0, h1, h2⟩ := mkC_get l i hi
  have hb := List.all_eq_true.1 hq _ (List.getElem_mem hi)
  simp only [Bool.and_eq_true, decide_eq_true_eq] at hb
  refine ⟨g, 0, rfl, h.lt, ?_, ?_, ?_, hb⟩
  · rw [h.cell, Nat.zero_add, List.getElem?_toArray]; exact h0
  · rw [h.cell, Nat.zero_add, List.getElem?_toArray]; exact h1
  · rw [h.cell, Nat.zero_add, List.getElem?_toArray]; exact h2
/-- A list of changes that a call made: all that cutting it asks. -/
structure LsOk (W : World) (A : Option Addr) (cp : Nat) (l : List Ch) : Prop where
  chs : ChL W A l
  cap : l.length ≤ cp
  at_ : (A = none ∧ cp = 0) ∨ ∃ b o, A = some ⟨b, o, none⟩
  len : l.length ≤ 1000
  thin : ∀ c ∈ l, c.2.length ≤ 1000000
theorem LsOk.below {W W' : World} {A : Option Addr} {cp : Nat} {l : List Ch} (h : LsOk W A cp l) (hb : Below W.heap.size W W') : LsOk W' A cp l := ⟨h.chs.below hb, h.cap, h.at_, h.len, h.thin⟩
theorem ls_of {W : World} {B : Nat} {v : Value} {zs : List Mk} (h : OChs W B v (mdOf zs)) (hz : ∀ x ∈ mdOf zs, b64 x.1) : ∃ A cp, v = .slice A (mdOf zs).length cp ∧ LsOk W A cp (mdOf zs) := by
  obtain ⟨A, cp, h1, h2, h3, h4, _⟩ := ochs_cut h hz
  exact ⟨A, cp, h1, h2, h3, h4, by rw [mdOf_len]; omega, fun c hc => by have := mdOf_len32 zs c hc; omega⟩
structure Ik where
  b : Gd
  t : Gd
  A : Option Addr
  cp : Nat
  l : List Ch
  fr : Int
def itV (x : Ik) : Value := .agg #[.int .u64 (x.b.1 : Int), .int .u64 (x.b.2 : Int), .int .u64 (x.t.1 : Int), .int .u64 (x.t.2 : Int), .slice x.A x.l.length x.cp, .int .i64 x.fr]
theorem infoRow : (Tryd.prog.info? 39).map (fun i => (i.zero, i.size, i.bytes)) = some (some (.agg #[.int .u64 0, .int .u64 0, .int .u64 0, .int .u64 0, .slice none 0 0, .int .i64 0]), 6, 64) := by kernel_rfl
def TabAt (W : World) (l : List Ik) : Prop := ∀ k (_ : k < 10), ∃ x, l[k]? = some x ∧ (x.b, x.t, x.l, x.fr) ∈ kA ∧ LsOk W x.A x.cp x.l
theorem kA_ok : ∀ x ∈ kA, gdB x.1 ∧ gdB x.2.1 ∧ b64 x.2.2.2 := by
  have h : ∀ x ∈ kA, decide (x.1.1 < 18446744073709551616) && decide (x.1.2 < 18446744073709551616) && decide (x.2.1.1 < 18446744073709551616) && decide (x.2.1.2 < 18446744073709551616) && decide (-9223372036854775808 ≤ x.2.2.2) && decide (x.2.2.2 ≤ 9223372036854775807) = true := by decide +kernel
  intro x hx
  have := h x hx
  simp only [Bool.and_eq_true, decide_eq_true_eq] at this
  obtain ⟨⟨⟨⟨⟨h1, h2⟩, h3⟩, h4⟩, h5⟩, h6⟩ := this
  exact ⟨⟨h1, h2⟩, ⟨h3, h4⟩, h5, h6⟩
theorem tab_cell {W : World} {g : Nat} {items : List Ik} {k : Nat} {x : Ik} (h : Blk W g 39 ((items.map itV).flatMap fun v => v.cells.toList).toArray) (hx : items[k]? = some x) : ∀ j, j < 6 → W.cell? ⟨g, k * 6 + j, none⟩ = (itV x).cells[j]? := by
  intro j hj
  rw [h.cell, List.getElem?_toArray, flat_get (s := 6) (by decide) _ (fun v hv => by obtain ⟨y, _, rfl⟩ := List.mem_map.1 hv; rfl)]
  rw [show (k * 6 + j) / 6 = k from by omega, show (k * 6 + j) % 6 = j from by omega, List.getElem?_map, hx]
  rfl
theorem nil_ls (W : World) : LsOk W none 0 [] := ⟨ChL.nil _ _, Nat.le_refl _, .inl ⟨rfl, rfl⟩, by decide, fun c hc => absurd hc (by simp)⟩
theorem wr_b : ∀ x ∈ mdOf wrL, b64 x.1 := by
  have h : ∀ x ∈ mdOf wrL, decide (-9223372036854775808 ≤ x.1) && decide (x.1 ≤ 9223372036854775807) = true := by decide +kernel
  exact fun x hx => by have := h x hx; unfold b64; simpa using this
theorem tw_b : ∀ x ∈ mdOf twL, b64 x.1 := by
  have h : ∀ x ∈ mdOf twL, decide (-9223372036854775808 ≤ x.1) && decide (x.1 ≤ 9223372036854775807) = true := by decide +kernel
  exact fun x hx => by have := h x hx; unfold b64; simpa using this
theorem fa_b : ∀ x ∈ mdOf faL, b64 x.1 := by
  have h : ∀ x ∈ mdOf faL, decide (-9223372036854775808 ≤ x.1) && decide (x.1 ≤ 9223372036854775807) = true := by decide +kernel
  exact fun x hx => by have := h x hx; unfold b64; simpa using this
theorem th_b : ∀ x ∈ mdOf thL, b64 x.1 := by
  have h : ∀ x ∈ mdOf thL, decide (-9223372036854775808 ≤ x.1) && decide (x.1 ≤ 9223372036854775807) = true := by decide +kernel
  exact fun x hx => by have := h x hx; unfold b64; simpa using this
/-- The k-th example that cannot be cut, in memory. -/
def RowOk (W : World) (gs k : Nat) : Prop := ∃ (b t : Gd) (A : Option Addr) (cp : Nat) (l : List Ch) (fr : Int), (b, t, l, fr) ∈ kA ∧ LsOk W A cp l ∧ W.cell? ⟨gs, k * 6, none⟩ = some (.int .u64 (b.1 : Int)) ∧ W.cell? ⟨gs, k * 6 + 1, none⟩ = some (.int .u64 (b.2 : Int)) ∧ W.cell? ⟨gs, k * 6 + 2, none⟩ = some (.int .u64 (t.1 : Int)) ∧ W.cell? ⟨gs, k * 6 + 3, none⟩ = some (.int .u64 (t.2 : Int)) ∧ W.cell? ⟨gs, k * 6 + 4, none⟩ = some (.slice A l.length cp) ∧ W.cell? ⟨gs, k * 6 + 5, none⟩ = some (.int .i64 fr)
def KnR (n : Nat) (w : World) (i : Value) (wr : World) : Prop := ∃ k : Nat, k ≤ n ∧ i = .int .i64 (k : Int) ∧ Below w.heap.size w wr
theorem pal_oth {W : World} {j k : Nat} {u : Value} {A : Option Addr} {c : Nat} {p : Pa} (h : PaL W A c p) (hn : ∀ b o, A = some ⟨b, o, none⟩ → b ≠ j) : PaL (W.setCell ⟨j, k, none⟩ u) A c p := by
  refine ⟨fun i hi => ?_, h.base, h.target, h.fr, h.all⟩
  obtain ⟨b', o, e1, e2, e3, e4, e5⟩ := h.chs i hi
  have hblk := set_oth W j k u b' (hn b' o e1)
  exact ⟨b', o, e1, by rw [World.size_setCell]; exact e2, by rw [World.cell?_of_block (a := ⟨b', o + i * 2, none⟩) hblk]; exact e3, by rw [World.cell?_of_block (a := ⟨b', o + i * 2 + 1, none⟩) hblk]; exact e4, e5⟩
/-- The k-th part that may not be, in memory. -/
def ParOk (W : World) (gs k : Nat) : Prop := ∃ (p : Pa) (A : Option Addr) (c : Nat), p ∈ kB ∧ PaL W A c p ∧ W.cell? ⟨gs, k * 7, none⟩ = some (.int .u64 (p.base.1 : Int)) ∧ W.cell? ⟨gs, k * 7 + 1, none⟩ = some (.int .u64 (p.base.2 : Int)) ∧ W.cell? ⟨gs, k * 7 + 2, none⟩ = some (.int .u64 (p.target.1 : Int)) ∧ W.cell? ⟨gs, k * 7 + 3, none⟩ = some (.int .u64 (p.target.2 : Int)) ∧ W.cell? ⟨gs, k * 7 + 4, none⟩ = some (.int .i64 p.fr) ∧ W.cell? ⟨gs, k * 7 + 5, none⟩ = some (.int .i64 p.all) ∧ W.cell? ⟨gs, k * 7 + 6, none⟩ = some (.slice A p.chs.length c)
def RawR (w : World) (v i : Value) (wr : World) : Prop := ∃ k : Nat, k ≤ 7 ∧ v = .string (str (numsB (rwL.take k))) ∧ i = .int .i64 (k : Int) ∧ Below w.heap.size w wr
theorem raw_next (k : Nat) (h : k < rwL.length) : str (bl (str (numsB (rwL.take k))) ++ numB rwL[k]) = str (numsB (rwL.take (k + 1))) := by
  rw [bl_str, numsB_snoc rwL k h]
theorem raw_len (k : Nat) : (str (numsB (rwL.take k))).size ≤ 1000 := by
  rw [str_size]
  have := numsB_len (rwL.take k)
  rw [List.length_take, show rwL.length = 7 from rfl] at this
  omega
theorem bl_app (a b : ByteArray) : bl (a ++ b) = bl a ++ bl b := by
  have := str_append a (bl b)
  rw [str_bl] at this
  rw [this, bl_str]
theorem bl_one0 : bl ⟨#[0]⟩ = [0] := rfl
theorem bl_one120 : bl ⟨#[120]⟩ = [120] := rfl
theorem bl_none0 : bl ⟨#[]⟩ = [] := rfl
theorem kS_mem : ([] : List UInt8) ∈ kS ∧ tB.take (tB.length - 1) ∈ kS ∧ tB ++ [120] ∈ kS ∧ [120] ++ tB ∈ kS ∧ sealB (rwB ++ [0]) ∈ kS ∧ sealB (rwB.take 9) ∈ kS ∧ sealB [] ∈ kS ∧ rwB ∈ kS := by
  unfold kS
  simp only [List.mem_cons, List.singleton_append, true_or, or_true, and_self]
def KsG (T R R1 Z1 Z2 Z3 : ByteArray) (tl tl1 : Nat) : Nat → Value → World → Prop
  | 0, v, _ => v = .string T
  | 1, v, _ => v = .string T
  | 2, v, _ => v = .int .i64 (tl : Int)
  | 3, v, _ => v = .int .i64 (tl1 : Int)
  | 4, v, _ => v = .string (T.extract 0 tl1)
  | 5, v, _ => v = .string T
  | 6, v, _ => v = .string (T ++ ⟨#[120]⟩)
  | 7, v, _ => v = .string T
  | 8, v, _ => v = .string ((⟨#[120]⟩ : ByteArray) ++ T)
  | 9, v, _ => v = .string R
  | 10, v, _ => v = .string R1
  | 11, v, _ => v = .string Z1
  | 12, v, _ => v = .string R
  | 13, v, _ => v = .string (R.extract 0 9)
  | 14, v, _ => v = .string Z2
  | 15, v, _ => v = .string Z3
  | 16, v, _ => v = .string R
  | 17, v, W => ∃ g, v = .slice (some ⟨g, 0, none⟩) 8 8 ∧ Blk W g 9 #[.string ⟨#[]⟩, .string (T.extract 0 tl1), .string (T ++ ⟨#[120]⟩), .string ((⟨#[120]⟩ : ByteArray) ++ T), .string Z1, .string Z2, .string Z3, .string R]
  | 18, v, _ => v = .int .i64 8
  | 19, v, _ => v = .int .i64 0
  | _, _, _ => True
theorem KsG_mono (T R R1 Z1 Z2 Z3 : ByteArray) (tl tl1 : Nat) (i : Nat) (v : Value) (w w' : World) (hi : i < 20) (h : KsG T R R1 Z1 Z2 Z3 tl tl1 i v w) (hb : Below w.heap.size w w') : KsG T R R1 Z1 Z2 Z3 tl tl1 i v w' := by
  match i, hi, h with
  | 0, _, h | 1, _, h | 2, _, h | 3, _, h | 4, _, h | 5, _, h | 6, _, h | 7, _, h | 8, _, h | 9, _, h | 10, _, h | 11, _, h | 12, _, h | 13, _, h | 14, _, h | 15, _, h | 16, _, h | 18, _, h | 19, _, h => exact h
  | 17, _, ⟨g, h1, h2⟩ => exact ⟨g, h1, h2.below hb⟩
  | j + 20, hi, _ => exact absurd hi (by omega)
/-- The k-th text that cannot be read, in memory. -/
def StrOk (W : World) (gs k : Nat) : Prop := ∃ s, W.cell? ⟨gs, k, none⟩ = some (.string s) ∧ bl s ∈ kS
def OtG (gO j c : Nat) (D : ByteArray) : Nat → Value → Prop
  | 0, v => v = .pointer (some ⟨gO, 6, none⟩)
  | 1, v => v = .slice (some ⟨j, 0, none⟩) 2 c
  | 2, v => v = .pointer (some ⟨gO, 6, none⟩)
  | 3, v => v = .slice (some ⟨j, 0, none⟩) 2 c
  | 4, v => v = .pointer (some ⟨j, 0, none⟩)
  | 5, v => v = .pointer (some ⟨j, 1, none⟩)
  | 6, v => v = .string D
  | 7, v => v = .pointer (some ⟨j, 2, none⟩)
  | 8, v => v = .pointer (some ⟨j, 3, none⟩)
  | _, _ => True
structure OtI (V : World) (gO j c : Nat) (D : ByteArray) (L1 : Nat → Bool) (vs : Nat → Value) (W : World) : Prop where
  g : ∀ i, L1 i = true → OtG gO j c D i (vs i)
  o : L1 8 = true → L1 7 = true
  a : L1 9 = true → ∀ i, i < 9 → L1 i = true
  n : L1 9 = false → Below V.heap.size V W
  y : L1 9 = true → ∃ W', Below V.heap.size V W' ∧ W = W'.setCell ⟨j, 3, none⟩ (.string D)
theorem OtI.val {V W : World} {gO j c : Nat} {D : ByteArray} {L1 : Nat → Bool} {vs : Nat → Value} (h : OtI V gO j c D L1 vs W) (i : Nat) (v : Value) (hi : i < 9) (hli : L1 i = false) (hv : OtG gO j c D i v) (h8 : i = 8 → L1 7 = true) : OtI V gO j c D (updB L1 i) (updV vs i v) W := by
  have f9 : L1 9 = true → False := fun h9 => by have := h.a h9 i hi; rw [hli] at this; cases this
  have n9 : updB L1 i 9 = L1 9 := by simp only [updB]; rw [if_neg (by omega)]
  refine ⟨fun k hk => ?_, fun hk => ?_, fun h9 => ?_, fun h9 => ?_, fun h9 => ?_⟩
  · by_cases hki : k = i
    · subst hki
      simpa [updV] using hv
    · simp only [updB, if_neg hki] at hk
      simpa [updV, hki] using h.g k hk
  · by_cases h7 : 7 = i
    · subst h7; simp [updB]
    · simp only [updB, if_neg h7]
      by_cases h8' : 8 = i
      · exact h8 h8'.symm
      · simp only [updB, if_neg h8'] at hk
        exact h.o hk
  · rw [n9] at h9; exact (f9 h9).elim
  · rw [n9] at h9; exact h.n h9
  · rw [n9] at h9; exact (f9 h9).elim
set_option maxHeartbeats 51200000 in
theorem streamKnown_walk (w : World) (ht : CTab w) : Calls Tryd.prog 3 #[] w fun e w' => e = .returned (.bool true) ∧ Below w.heap.size w w' := by
  have HT := Lib.hid ht
  obtain ⟨W0, hW0⟩ : ∃ z, z = w := ⟨w, rfl⟩
  have HB0 : Hid (Below w.heap.size w W0) := by rw [hW0]; exact Below.refl _ _
  rw [← hW0]
  have hS : (fun (e : Ending) (w' : World) => e = .returned (.bool true) ∧ Below W0.heap.size W0 w') = (fun e w' => e = .returned (.bool true) ∧ Below w.heap.size w w') := by rw [hW0]
  rw [hS]
  clear hS hW0 ht
  go_enter Tryd.func3, Tryd.ntmps3
  go_wp2_with fail
  refine (sguid_any 1 1 W0).mono ?_
  rintro e W1 ⟨rfl, hb⟩
  unfold gv
  dsimp only
  have HB1 := Lib.hid (below_step HB0.out hb)
  clear HB0 hb
  go_wp2_with fail
  refine (sguid_any 1 2 W1).mono ?_
  rintro e W2 ⟨rfl, hb⟩
  unfold gv
  dsimp only
  have HB2 := Lib.hid (below_step HB1.out hb)
  clear HB1 hb
  have HC := Lib.hid (cut_any (1, 1) (1, 2) none 0 [] 0 W2 ⟨by decide, by decide⟩ ⟨by decide, by decide⟩ (ChL.nil _ _) (by decide) (by decide) (.inl ⟨rfl, rfl⟩) (fun c hc => absurd hc (by simp)) ⟨by decide, by decide⟩)
  rw [kn_cut] at HC
  go_wp2_with fail
  refine HC.out.mono ?_
  rintro e W3 ⟨A1, d1, rfl, hp, _, hb⟩
  dsimp only at hp ⊢
  rw [show paC nP A1 d1 = #[.int .u64 1, .int .u64 1, .int .u64 1, .int .u64 2, .int .i64 0, .int .i64 0, .slice A1 0 d1] from rfl]
  clear HC
  have HP := Lib.hid hp
  clear hp
  have HB3 := Lib.hid (below_step HB2.out hb)
  clear HB2 hb
  have cb := (Below.refl W3.heap.size W3).alloc (Nat.le_refl _) (.cells #[.int .u64 1, .int .u64 1, .int .u64 1, .int .u64 2, .int .i64 0, .int .i64 0, .slice A1 0 d1] 27)
  have kb := Blk.new W3 27 #[.int .u64 1, .int .u64 1, .int .u64 1, .int .u64 2, .int .i64 0, .int .i64 0, .slice A1 0 d1]
  obtain ⟨W4, hWn⟩ : ∃ z, W3.alloc (.cells #[.int .u64 1, .int .u64 1, .int .u64 1, .int .u64 2, .int .i64 0, .int .i64 0, .slice A1 0 d1] 27) = z := ⟨_, rfl⟩
  rw [hWn] at cb kb
  obtain ⟨gp, hg⟩ : ∃ z, W3.heap.size = z := ⟨_, rfl⟩
  rw [hg] at kb
  have HWn := Lib.hid hWn
  have HGn := Lib.hid hg
  clear hWn hg
  have HM := Lib.hid kb
  clear kb
  have HB4 := Lib.hid (below_step HB3.out cb)
  replace HP := Lib.hid (HP.out.below cb)
  clear HB3 cb
  go_upto_region 2 with fail
  try rw [HWn.out]
  try rw [HGn.out]
  clear HWn HGn
  have HEN := Lib.hid (enc_any A1 d1 nP W4 HP.out (by decide) (HT.out.below HB4.out HT.out.1))
  rw [kn_enc, show paC nP A1 d1 = #[.int .u64 1, .int .u64 1, .int .u64 1, .int .u64 2, .int .i64 0, .int .i64 0, .slice A1 0 d1] from rfl] at HEN
  have ah := HM.out
  have a0 := ah.cell 0
  have a1 := ah.cell 1
  have a2 := ah.cell 2
  have a3 := ah.cell 3
  have a4 := ah.cell 4
  have a5 := ah.cell 5
  have a6 := ah.cell 6
  have al := ah.lt
  simp only [paC, List.getElem?_toArray, List.getElem?_cons_zero, List.getElem?_cons_succ] at a0 a1 a2 a3 a4 a5 a6
  clear ah
  go_wp2_with fail
  refine HEN.out.mono ?_
  rintro e W5 ⟨rfl, hb⟩
  dsimp only
  clear HEN
  clear a0 a1 a2 a3 a4 a5 a6 al
  have HB5 := Lib.hid (below_step HB4.out hb)
  replace HP := Lib.hid (HP.out.below hb)
  replace HM := Lib.hid (HM.out.below hb)
  clear HB4 hb
  have hsz : (str nB).size = 15 := by rw [str_size]; exact kn_nb.1
  have hex : (str nB).extract 0 11 = ⟨#[1, 1, 1, 1, 1, 1, 1, 2, 0, 0, 0]⟩ := by rw [ex_upto, bl_str, kn_nb.2]; rfl
  obtain ⟨S, hS⟩ : ∃ z, str nB = z := ⟨_, rfl⟩
  rw [hS] at hsz hex ⊢
  clear hS
  have ah := HM.out
  have a0 := ah.cell 0
  have a1 := ah.cell 1
  have a2 := ah.cell 2
  have a3 := ah.cell 3
  have a4 := ah.cell 4
  have a5 := ah.cell 5
  have a6 := ah.cell 6
  have al := ah.lt
  simp only [paC, List.getElem?_toArray, List.getElem?_cons_zero, List.getElem?_cons_succ] at a0 a1 a2 a3 a4 a5 a6
  clear ah
  have cb := (Below.refl W5.heap.size W5).alloc (Nat.le_refl _) (.cells #[.int .i64 3, .int .u8 97, .bool false, .int .i64 0, .int .u8 98, .bool false] 36)
  have kb := Blk.new W5 36 #[.int .i64 3, .int .u8 97, .bool false, .int .i64 0, .int .u8 98, .bool false]
  obtain ⟨W6, hWn⟩ : ∃ z, W5.alloc (.cells #[.int .i64 3, .int .u8 97, .bool false, .int .i64 0, .int .u8 98, .bool false] 36) = z := ⟨_, rfl⟩
  rw [hWn] at cb kb
  obtain ⟨gk, hg⟩ : ∃ z, W5.heap.size = z := ⟨_, rfl⟩
  rw [hg] at kb
  have HWn := Lib.hid hWn
  have HGn := Lib.hid hg
  clear hWn hg
  have HMD := Lib.hid (made_any (some ⟨gk, 0, none⟩) 2 wrL W6 (mkl_of kb (by decide)) (by decide))
  rw [show wrL.length = 2 from rfl] at HMD
  clear kb
  have HB6 := Lib.hid (below_step HB5.out cb)
  replace HP := Lib.hid (HP.out.below cb)
  replace HM := Lib.hid (HM.out.below cb)
  clear HB5 cb
  go_wp2_with fail
  try rw [HWn.out]
  try rw [HGn.out]
  clear HWn HGn
  clear a0 a1 a2 a3 a4 a5 a6 al
  clear hsz hex
  refine HMD.out.mono ?_
  rintro e W7 ⟨v, rfl, ho, hb⟩
  obtain ⟨Awr, cwr, rfl, hls⟩ := ls_of ho wr_b
  rw [show (mdOf wrL).length = 2 from rfl]
  have HLwr := Lib.hid hls
  clear hls ho HMD
  clear HP HM
  have HB7 := Lib.hid (below_step HB6.out hb)
  clear HB6 hb
  have cb := (Below.refl W7.heap.size W7).alloc (Nat.le_refl _) (.cells #[.int .i64 3, .int .u8 97, .bool false, .int .i64 3, .int .u8 98, .bool false] 36)
  have kb := Blk.new W7 36 #[.int .i64 3, .int .u8 97, .bool false, .int .i64 3, .int .u8 98, .bool false]
  obtain ⟨W8, hWn⟩ : ∃ z, W7.alloc (.cells #[.int .i64 3, .int .u8 97, .bool false, .int .i64 3, .int .u8 98, .bool false] 36) = z := ⟨_, rfl⟩
  rw [hWn] at cb kb
  obtain ⟨gk, hg⟩ : ∃ z, W7.heap.size = z := ⟨_, rfl⟩
  rw [hg] at kb
  have HWn := Lib.hid hWn
  have HGn := Lib.hid hg
  clear hWn hg
  have HMD := Lib.hid (made_any (some ⟨gk, 0, none⟩) 2 twL W8 (mkl_of kb (by decide)) (by decide))
  rw [show twL.length = 2 from rfl] at HMD
  clear kb
  have HB8 := Lib.hid (below_step HB7.out cb)
  replace HLwr := Lib.hid (HLwr.out.below cb)
  clear HB7 cb
  go_wp2_with fail
  try rw [HWn.out]
  try rw [HGn.out]
  clear HWn HGn
  refine HMD.out.mono ?_
  rintro e W9 ⟨v, rfl, ho, hb⟩
  obtain ⟨Atw, ctw, rfl, hls⟩ := ls_of ho tw_b
  rw [show (mdOf twL).length = 2 from rfl]
  have HLtw := Lib.hid hls
  clear hls ho HMD
  have HB9 := Lib.hid (below_step HB8.out hb)
  replace HLwr := Lib.hid (HLwr.out.below hb)
  clear HB8 hb
  have cb := (Below.refl W9.heap.size W9).alloc (Nat.le_refl _) (.cells #[.int .i64 8, .int .u8 97, .bool false] 36)
  have kb := Blk.new W9 36 #[.int .i64 8, .int .u8 97, .bool false]
  obtain ⟨W10, hWn⟩ : ∃ z, W9.alloc (.cells #[.int .i64 8, .int .u8 97, .bool false] 36) = z := ⟨_, rfl⟩
  rw [hWn] at cb kb
  obtain ⟨gk, hg⟩ : ∃ z, W9.heap.size = z := ⟨_, rfl⟩
  rw [hg] at kb
  have HWn := Lib.hid hWn
  have HGn := Lib.hid hg
  clear hWn hg
  have HMD := Lib.hid (made_any (some ⟨gk, 0, none⟩) 1 faL W10 (mkl_of kb (by decide)) (by decide))
  rw [show faL.length = 1 from rfl] at HMD
  clear kb
  have HB10 := Lib.hid (below_step HB9.out cb)
  replace HLwr := Lib.hid (HLwr.out.below cb)
  replace HLtw := Lib.hid (HLtw.out.below cb)
  clear HB9 cb
  go_wp2_with fail
  try rw [HWn.out]
  try rw [HGn.out]
  clear HWn HGn
  refine HMD.out.mono ?_
  rintro e W11 ⟨v, rfl, ho, hb⟩
  obtain ⟨Afa, cfa, rfl, hls⟩ := ls_of ho fa_b
  rw [show (mdOf faL).length = 1 from rfl]
  have HLfa := Lib.hid hls
  clear hls ho HMD
  have HB11 := Lib.hid (below_step HB10.out hb)
  replace HLwr := Lib.hid (HLwr.out.below hb)
  replace HLtw := Lib.hid (HLtw.out.below hb)
  clear HB10 hb
  have cb := (Below.refl W11.heap.size W11).alloc (Nat.le_refl _) (.cells #[.int .i64 1, .int .u8 97, .bool true] 36)
  have kb := Blk.new W11 36 #[.int .i64 1, .int .u8 97, .bool true]
  obtain ⟨W12, hWn⟩ : ∃ z, W11.alloc (.cells #[.int .i64 1, .int .u8 97, .bool true] 36) = z := ⟨_, rfl⟩
  rw [hWn] at cb kb
  obtain ⟨gk, hg⟩ : ∃ z, W11.heap.size = z := ⟨_, rfl⟩
  rw [hg] at kb
  have HWn := Lib.hid hWn
  have HGn := Lib.hid hg
  clear hWn hg
  have HMD := Lib.hid (made_any (some ⟨gk, 0, none⟩) 1 thL W12 (mkl_of kb (by decide)) (by decide))
  rw [show thL.length = 1 from rfl] at HMD
  clear kb
  have HB12 := Lib.hid (below_step HB11.out cb)
  replace HLwr := Lib.hid (HLwr.out.below cb)
  replace HLtw := Lib.hid (HLtw.out.below cb)
  replace HLfa := Lib.hid (HLfa.out.below cb)
  clear HB11 cb
  go_wp2_with fail
  try rw [HWn.out]
  try rw [HGn.out]
  clear HWn HGn
  refine HMD.out.mono ?_
  rintro e W13 ⟨v, rfl, ho, hb⟩
  obtain ⟨Ath, cth, rfl, hls⟩ := ls_of ho th_b
  rw [show (mdOf thL).length = 1 from rfl]
  have HLth := Lib.hid hls
  clear hls ho HMD
  have HB13 := Lib.hid (below_step HB12.out hb)
  replace HLwr := Lib.hid (HLwr.out.below hb)
  replace HLtw := Lib.hid (HLtw.out.below hb)
  replace HLfa := Lib.hid (HLfa.out.below hb)
  clear HB12 hb
  go_wp2_with fail
  refine (sguid_any 1 1 W13).mono ?_
  rintro e W14 ⟨rfl, hb⟩
  unfold gv
  dsimp only
  have HB14 := Lib.hid (below_step HB13.out hb)
  replace HLwr := Lib.hid (HLwr.out.below hb)
  replace HLtw := Lib.hid (HLtw.out.below hb)
  replace HLfa := Lib.hid (HLfa.out.below hb)
  replace HLth := Lib.hid (HLth.out.below hb)
  clear HB13 hb
  go_wp2_with fail
  refine (sguid_any 1 2 W14).mono ?_
  rintro e W15 ⟨rfl, hb⟩
  unfold gv
  dsimp only
  have HB15 := Lib.hid (below_step HB14.out hb)
  replace HLwr := Lib.hid (HLwr.out.below hb)
  replace HLtw := Lib.hid (HLtw.out.below hb)
  replace HLfa := Lib.hid (HLfa.out.below hb)
  replace HLth := Lib.hid (HLth.out.below hb)
  clear HB14 hb
  go_wp2_with fail
  refine (three_any W15).mono ?_
  rintro e W16 ⟨v, rfl, ho, hb⟩
  obtain ⟨Ax1, cx1, rfl, hls⟩ := ls_of (zs := m3) ho c3_b
  rw [show (mdOf m3).length = 3 from rfl]
  have HLx1 := Lib.hid hls
  clear hls ho
  have HB16 := Lib.hid (below_step HB15.out hb)
  replace HLwr := Lib.hid (HLwr.out.below hb)
  replace HLtw := Lib.hid (HLtw.out.below hb)
  replace HLfa := Lib.hid (HLfa.out.below hb)
  replace HLth := Lib.hid (HLth.out.below hb)
  clear HB15 hb
  go_wp2_with fail
  refine (sguid_any 1 1 W16).mono ?_
  rintro e W17 ⟨rfl, hb⟩
  unfold gv
  dsimp only
  have HB17 := Lib.hid (below_step HB16.out hb)
  replace HLwr := Lib.hid (HLwr.out.below hb)
  replace HLtw := Lib.hid (HLtw.out.below hb)
  replace HLfa := Lib.hid (HLfa.out.below hb)
  replace HLth := Lib.hid (HLth.out.below hb)
  replace HLx1 := Lib.hid (HLx1.out.below hb)
  clear HB16 hb
  go_wp2_with fail
  refine (sguid_any 1 2 W17).mono ?_
  rintro e W18 ⟨rfl, hb⟩
  unfold gv
  dsimp only
  have HB18 := Lib.hid (below_step HB17.out hb)
  replace HLwr := Lib.hid (HLwr.out.below hb)
  replace HLtw := Lib.hid (HLtw.out.below hb)
  replace HLfa := Lib.hid (HLfa.out.below hb)
  replace HLth := Lib.hid (HLth.out.below hb)
  replace HLx1 := Lib.hid (HLx1.out.below hb)
  clear HB17 hb
  go_wp2_with fail
  refine (three_any W18).mono ?_
  rintro e W19 ⟨v, rfl, ho, hb⟩
  obtain ⟨Ax2, cx2, rfl, hls⟩ := ls_of (zs := m3) ho c3_b
  rw [show (mdOf m3).length = 3 from rfl]
  have HLx2 := Lib.hid hls
  clear hls ho
  have HB19 := Lib.hid (below_step HB18.out hb)
  replace HLwr := Lib.hid (HLwr.out.below hb)
  replace HLtw := Lib.hid (HLtw.out.below hb)
  replace HLfa := Lib.hid (HLfa.out.below hb)
  replace HLth := Lib.hid (HLth.out.below hb)
  replace HLx1 := Lib.hid (HLx1.out.below hb)
  clear HB18 hb
  go_wp2_with fail
  refine (sguid_any 1 2 W19).mono ?_
  rintro e W20 ⟨rfl, hb⟩
  unfold gv
  dsimp only
  have HB20 := Lib.hid (below_step HB19.out hb)
  replace HLwr := Lib.hid (HLwr.out.below hb)
  replace HLtw := Lib.hid (HLtw.out.below hb)
  replace HLfa := Lib.hid (HLfa.out.below hb)
  replace HLth := Lib.hid (HLth.out.below hb)
  replace HLx1 := Lib.hid (HLx1.out.below hb)
  replace HLx2 := Lib.hid (HLx2.out.below hb)
  clear HB19 hb
  go_wp2_with fail
  refine (sguid_any 1 2 W20).mono ?_
  rintro e W21 ⟨rfl, hb⟩
  unfold gv
  dsimp only
  have HB21 := Lib.hid (below_step HB20.out hb)
  replace HLwr := Lib.hid (HLwr.out.below hb)
  replace HLtw := Lib.hid (HLtw.out.below hb)
  replace HLfa := Lib.hid (HLfa.out.below hb)
  replace HLth := Lib.hid (HLth.out.below hb)
  replace HLx1 := Lib.hid (HLx1.out.below hb)
  replace HLx2 := Lib.hid (HLx2.out.below hb)
  clear HB20 hb
  go_wp2_with fail
  refine (three_any W21).mono ?_
  rintro e W22 ⟨v, rfl, ho, hb⟩
  obtain ⟨Ax3, cx3, rfl, hls⟩ := ls_of (zs := m3) ho c3_b
  rw [show (mdOf m3).length = 3 from rfl]
  have HLx3 := Lib.hid hls
  clear hls ho
  have HB22 := Lib.hid (below_step HB21.out hb)
  replace HLwr := Lib.hid (HLwr.out.below hb)
  replace HLtw := Lib.hid (HLtw.out.below hb)
  replace HLfa := Lib.hid (HLfa.out.below hb)
  replace HLth := Lib.hid (HLth.out.below hb)
  replace HLx1 := Lib.hid (HLx1.out.below hb)
  replace HLx2 := Lib.hid (HLx2.out.below hb)
  clear HB21 hb
  go_wp2_with fail
  refine (sguid_any 2 1 W22).mono ?_
  rintro e W23 ⟨rfl, hb⟩
  unfold gv
  dsimp only
  have HB23 := Lib.hid (below_step HB22.out hb)
  replace HLwr := Lib.hid (HLwr.out.below hb)
  replace HLtw := Lib.hid (HLtw.out.below hb)
  replace HLfa := Lib.hid (HLfa.out.below hb)
  replace HLth := Lib.hid (HLth.out.below hb)
  replace HLx1 := Lib.hid (HLx1.out.below hb)
  replace HLx2 := Lib.hid (HLx2.out.below hb)
  replace HLx3 := Lib.hid (HLx3.out.below hb)
  clear HB22 hb
  go_wp2_with fail
  refine (sguid_any 1 9 W23).mono ?_
  rintro e W24 ⟨rfl, hb⟩
  unfold gv
  dsimp only
  have HB24 := Lib.hid (below_step HB23.out hb)
  replace HLwr := Lib.hid (HLwr.out.below hb)
  replace HLtw := Lib.hid (HLtw.out.below hb)
  replace HLfa := Lib.hid (HLfa.out.below hb)
  replace HLth := Lib.hid (HLth.out.below hb)
  replace HLx1 := Lib.hid (HLx1.out.below hb)
  replace HLx2 := Lib.hid (HLx2.out.below hb)
  replace HLx3 := Lib.hid (HLx3.out.below hb)
  clear HB23 hb
  go_wp2_with fail
  refine (three_any W24).mono ?_
  rintro e W25 ⟨v, rfl, ho, hb⟩
  obtain ⟨Ax4, cx4, rfl, hls⟩ := ls_of (zs := m3) ho c3_b
  rw [show (mdOf m3).length = 3 from rfl]
  have HLx4 := Lib.hid hls
  clear hls ho
  have HB25 := Lib.hid (below_step HB24.out hb)
  replace HLwr := Lib.hid (HLwr.out.below hb)
  replace HLtw := Lib.hid (HLtw.out.below hb)
  replace HLfa := Lib.hid (HLfa.out.below hb)
  replace HLth := Lib.hid (HLth.out.below hb)
  replace HLx1 := Lib.hid (HLx1.out.below hb)
  replace HLx2 := Lib.hid (HLx2.out.below hb)
  replace HLx3 := Lib.hid (HLx3.out.below hb)
  clear HB24 hb
  go_wp2_with fail
  refine (sguid_any 0 0 W25).mono ?_
  rintro e W26 ⟨rfl, hb⟩
  unfold gv
  dsimp only
  have HB26 := Lib.hid (below_step HB25.out hb)
  replace HLwr := Lib.hid (HLwr.out.below hb)
  replace HLtw := Lib.hid (HLtw.out.below hb)
  replace HLfa := Lib.hid (HLfa.out.below hb)
  replace HLth := Lib.hid (HLth.out.below hb)
  replace HLx1 := Lib.hid (HLx1.out.below hb)
  replace HLx2 := Lib.hid (HLx2.out.below hb)
  replace HLx3 := Lib.hid (HLx3.out.below hb)
  replace HLx4 := Lib.hid (HLx4.out.below hb)
  clear HB25 hb
  go_wp2_with fail
  refine (sguid_any 0 0 W26).mono ?_
  rintro e W27 ⟨rfl, hb⟩
  unfold gv
  dsimp only
  have HB27 := Lib.hid (below_step HB26.out hb)
  replace HLwr := Lib.hid (HLwr.out.below hb)
  replace HLtw := Lib.hid (HLtw.out.below hb)
  replace HLfa := Lib.hid (HLfa.out.below hb)
  replace HLth := Lib.hid (HLth.out.below hb)
  replace HLx1 := Lib.hid (HLx1.out.below hb)
  replace HLx2 := Lib.hid (HLx2.out.below hb)
  replace HLx3 := Lib.hid (HLx3.out.below hb)
  replace HLx4 := Lib.hid (HLx4.out.below hb)
  clear HB26 hb
  go_wp2_with fail
  refine (three_any W27).mono ?_
  rintro e W28 ⟨v, rfl, ho, hb⟩
  obtain ⟨Ax5, cx5, rfl, hls⟩ := ls_of (zs := m3) ho c3_b
  rw [show (mdOf m3).length = 3 from rfl]
  have HLx5 := Lib.hid hls
  clear hls ho
  have HB28 := Lib.hid (below_step HB27.out hb)
  replace HLwr := Lib.hid (HLwr.out.below hb)
  replace HLtw := Lib.hid (HLtw.out.below hb)
  replace HLfa := Lib.hid (HLfa.out.below hb)
  replace HLth := Lib.hid (HLth.out.below hb)
  replace HLx1 := Lib.hid (HLx1.out.below hb)
  replace HLx2 := Lib.hid (HLx2.out.below hb)
  replace HLx3 := Lib.hid (HLx3.out.below hb)
  replace HLx4 := Lib.hid (HLx4.out.below hb)
  clear HB27 hb
  go_wp2_with fail
  refine (sguid_any 0 0 W28).mono ?_
  rintro e W29 ⟨rfl, hb⟩
  unfold gv
  dsimp only
  have HB29 := Lib.hid (below_step HB28.out hb)
  replace HLwr := Lib.hid (HLwr.out.below hb)
  replace HLtw := Lib.hid (HLtw.out.below hb)
  replace HLfa := Lib.hid (HLfa.out.below hb)
  replace HLth := Lib.hid (HLth.out.below hb)
  replace HLx1 := Lib.hid (HLx1.out.below hb)
  replace HLx2 := Lib.hid (HLx2.out.below hb)
  replace HLx3 := Lib.hid (HLx3.out.below hb)
  replace HLx4 := Lib.hid (HLx4.out.below hb)
  replace HLx5 := Lib.hid (HLx5.out.below hb)
  clear HB28 hb
  go_wp2_with fail
  refine (sguid_any 1 1 W29).mono ?_
  rintro e W30 ⟨rfl, hb⟩
  unfold gv
  dsimp only
  have HB30 := Lib.hid (below_step HB29.out hb)
  replace HLwr := Lib.hid (HLwr.out.below hb)
  replace HLtw := Lib.hid (HLtw.out.below hb)
  replace HLfa := Lib.hid (HLfa.out.below hb)
  replace HLth := Lib.hid (HLth.out.below hb)
  replace HLx1 := Lib.hid (HLx1.out.below hb)
  replace HLx2 := Lib.hid (HLx2.out.below hb)
  replace HLx3 := Lib.hid (HLx3.out.below hb)
  replace HLx4 := Lib.hid (HLx4.out.below hb)
  replace HLx5 := Lib.hid (HLx5.out.below hb)
  clear HB29 hb
  go_wp2_with fail
  refine (sguid_any 0 0 W30).mono ?_
  rintro e W31 ⟨rfl, hb⟩
  unfold gv
  dsimp only
  have HB31 := Lib.hid (below_step HB30.out hb)
  replace HLwr := Lib.hid (HLwr.out.below hb)
  replace HLtw := Lib.hid (HLtw.out.below hb)
  replace HLfa := Lib.hid (HLfa.out.below hb)
  replace HLth := Lib.hid (HLth.out.below hb)
  replace HLx1 := Lib.hid (HLx1.out.below hb)
  replace HLx2 := Lib.hid (HLx2.out.below hb)
  replace HLx3 := Lib.hid (HLx3.out.below hb)
  replace HLx4 := Lib.hid (HLx4.out.below hb)
  replace HLx5 := Lib.hid (HLx5.out.below hb)
  clear HB30 hb
  go_wp2_with fail
  refine (sguid_any 1 1 W31).mono ?_
  rintro e W32 ⟨rfl, hb⟩
  unfold gv
  dsimp only
  have HB32 := Lib.hid (below_step HB31.out hb)
  replace HLwr := Lib.hid (HLwr.out.below hb)
  replace HLtw := Lib.hid (HLtw.out.below hb)
  replace HLfa := Lib.hid (HLfa.out.below hb)
  replace HLth := Lib.hid (HLth.out.below hb)
  replace HLx1 := Lib.hid (HLx1.out.below hb)
  replace HLx2 := Lib.hid (HLx2.out.below hb)
  replace HLx3 := Lib.hid (HLx3.out.below hb)
  replace HLx4 := Lib.hid (HLx4.out.below hb)
  replace HLx5 := Lib.hid (HLx5.out.below hb)
  clear HB31 hb
  go_wp2_with fail
  refine (sguid_any 0 0 W32).mono ?_
  rintro e W33 ⟨rfl, hb⟩
  unfold gv
  dsimp only
  have HB33 := Lib.hid (below_step HB32.out hb)
  replace HLwr := Lib.hid (HLwr.out.below hb)
  replace HLtw := Lib.hid (HLtw.out.below hb)
  replace HLfa := Lib.hid (HLfa.out.below hb)
  replace HLth := Lib.hid (HLth.out.below hb)
  replace HLx1 := Lib.hid (HLx1.out.below hb)
  replace HLx2 := Lib.hid (HLx2.out.below hb)
  replace HLx3 := Lib.hid (HLx3.out.below hb)
  replace HLx4 := Lib.hid (HLx4.out.below hb)
  replace HLx5 := Lib.hid (HLx5.out.below hb)
  clear HB32 hb
  go_wp2_with fail
  refine (sguid_any 1 1 W33).mono ?_
  rintro e W34 ⟨rfl, hb⟩
  unfold gv
  dsimp only
  have HB34 := Lib.hid (below_step HB33.out hb)
  replace HLwr := Lib.hid (HLwr.out.below hb)
  replace HLtw := Lib.hid (HLtw.out.below hb)
  replace HLfa := Lib.hid (HLfa.out.below hb)
  replace HLth := Lib.hid (HLth.out.below hb)
  replace HLx1 := Lib.hid (HLx1.out.below hb)
  replace HLx2 := Lib.hid (HLx2.out.below hb)
  replace HLx3 := Lib.hid (HLx3.out.below hb)
  replace HLx4 := Lib.hid (HLx4.out.below hb)
  replace HLx5 := Lib.hid (HLx5.out.below hb)
  clear HB33 hb
  go_wp2_with fail
  refine (sguid_any 0 0 W34).mono ?_
  rintro e W35 ⟨rfl, hb⟩
  unfold gv
  dsimp only
  have HB35 := Lib.hid (below_step HB34.out hb)
  replace HLwr := Lib.hid (HLwr.out.below hb)
  replace HLtw := Lib.hid (HLtw.out.below hb)
  replace HLfa := Lib.hid (HLfa.out.below hb)
  replace HLth := Lib.hid (HLth.out.below hb)
  replace HLx1 := Lib.hid (HLx1.out.below hb)
  replace HLx2 := Lib.hid (HLx2.out.below hb)
  replace HLx3 := Lib.hid (HLx3.out.below hb)
  replace HLx4 := Lib.hid (HLx4.out.below hb)
  replace HLx5 := Lib.hid (HLx5.out.below hb)
  clear HB34 hb
  go_wp2_with fail
  refine (sguid_any 1 1 W35).mono ?_
  rintro e W36 ⟨rfl, hb⟩
  unfold gv
  dsimp only
  have HB36 := Lib.hid (below_step HB35.out hb)
  replace HLwr := Lib.hid (HLwr.out.below hb)
  replace HLtw := Lib.hid (HLtw.out.below hb)
  replace HLfa := Lib.hid (HLfa.out.below hb)
  replace HLth := Lib.hid (HLth.out.below hb)
  replace HLx1 := Lib.hid (HLx1.out.below hb)
  replace HLx2 := Lib.hid (HLx2.out.below hb)
  replace HLx3 := Lib.hid (HLx3.out.below hb)
  replace HLx4 := Lib.hid (HLx4.out.below hb)
  replace HLx5 := Lib.hid (HLx5.out.below hb)
  clear HB35 hb
  go_wp2_with fail
  refine (sguid_any 0 0 W36).mono ?_
  rintro e W37 ⟨rfl, hb⟩
  unfold gv
  dsimp only
  have HB37 := Lib.hid (below_step HB36.out hb)
  replace HLwr := Lib.hid (HLwr.out.below hb)
  replace HLtw := Lib.hid (HLtw.out.below hb)
  replace HLfa := Lib.hid (HLfa.out.below hb)
  replace HLth := Lib.hid (HLth.out.below hb)
  replace HLx1 := Lib.hid (HLx1.out.below hb)
  replace HLx2 := Lib.hid (HLx2.out.below hb)
  replace HLx3 := Lib.hid (HLx3.out.below hb)
  replace HLx4 := Lib.hid (HLx4.out.below hb)
  replace HLx5 := Lib.hid (HLx5.out.below hb)
  clear HB36 hb
  go_wp2_with fail
  refine (sguid_any 1 1 W37).mono ?_
  rintro e W38 ⟨rfl, hb⟩
  unfold gv
  dsimp only
  have HB38 := Lib.hid (below_step HB37.out hb)
  replace HLwr := Lib.hid (HLwr.out.below hb)
  replace HLtw := Lib.hid (HLtw.out.below hb)
  replace HLfa := Lib.hid (HLfa.out.below hb)
  replace HLth := Lib.hid (HLth.out.below hb)
  replace HLx1 := Lib.hid (HLx1.out.below hb)
  replace HLx2 := Lib.hid (HLx2.out.below hb)
  replace HLx3 := Lib.hid (HLx3.out.below hb)
  replace HLx4 := Lib.hid (HLx4.out.below hb)
  replace HLx5 := Lib.hid (HLx5.out.below hb)
  clear HB37 hb
  have cb := (Below.refl W38.heap.size W38).alloc (Nat.le_refl _) (.cells #[.int .u64 1, .int .u64 1, .int .u64 1, .int .u64 2, .slice Ax1 3 cx1, .int .i64 3, .int .u64 1, .int .u64 1, .int .u64 1, .int .u64 2, .slice Ax2 3 cx2, .int .i64 (-1), .int .u64 1, .int .u64 2, .int .u64 1, .int .u64 2, .slice Ax3 3 cx3, .int .i64 0, .int .u64 2, .int .u64 1, .int .u64 1, .int .u64 9, .slice Ax4 3 cx4, .int .i64 0, .int .u64 0, .int .u64 0, .int .u64 0, .int .u64 0, .slice Ax5 3 cx5, .int .i64 0, .int .u64 0, .int .u64 0, .int .u64 1, .int .u64 1, .slice Awr 2 cwr, .int .i64 0, .int .u64 0, .int .u64 0, .int .u64 1, .int .u64 1, .slice Atw 2 ctw, .int .i64 1, .int .u64 0, .int .u64 0, .int .u64 1, .int .u64 1, .slice Afa 1 cfa, .int .i64 0, .int .u64 0, .int .u64 0, .int .u64 1, .int .u64 1, .slice Ath 1 cth, .int .i64 0, .int .u64 0, .int .u64 0, .int .u64 1, .int .u64 1, .slice none 0 0, .int .i64 1] 39)
  have kb := Blk.new W38 39 #[.int .u64 1, .int .u64 1, .int .u64 1, .int .u64 2, .slice Ax1 3 cx1, .int .i64 3, .int .u64 1, .int .u64 1, .int .u64 1, .int .u64 2, .slice Ax2 3 cx2, .int .i64 (-1), .int .u64 1, .int .u64 2, .int .u64 1, .int .u64 2, .slice Ax3 3 cx3, .int .i64 0, .int .u64 2, .int .u64 1, .int .u64 1, .int .u64 9, .slice Ax4 3 cx4, .int .i64 0, .int .u64 0, .int .u64 0, .int .u64 0, .int .u64 0, .slice Ax5 3 cx5, .int .i64 0, .int .u64 0, .int .u64 0, .int .u64 1, .int .u64 1, .slice Awr 2 cwr, .int .i64 0, .int .u64 0, .int .u64 0, .int .u64 1, .int .u64 1, .slice Atw 2 ctw, .int .i64 1, .int .u64 0, .int .u64 0, .int .u64 1, .int .u64 1, .slice Afa 1 cfa, .int .i64 0, .int .u64 0, .int .u64 0, .int .u64 1, .int .u64 1, .slice Ath 1 cth, .int .i64 0, .int .u64 0, .int .u64 0, .int .u64 1, .int .u64 1, .slice none 0 0, .int .i64 1]
  obtain ⟨W39, hWn⟩ : ∃ z, W38.alloc (.cells #[.int .u64 1, .int .u64 1, .int .u64 1, .int .u64 2, .slice Ax1 3 cx1, .int .i64 3, .int .u64 1, .int .u64 1, .int .u64 1, .int .u64 2, .slice Ax2 3 cx2, .int .i64 (-1), .int .u64 1, .int .u64 2, .int .u64 1, .int .u64 2, .slice Ax3 3 cx3, .int .i64 0, .int .u64 2, .int .u64 1, .int .u64 1, .int .u64 9, .slice Ax4 3 cx4, .int .i64 0, .int .u64 0, .int .u64 0, .int .u64 0, .int .u64 0, .slice Ax5 3 cx5, .int .i64 0, .int .u64 0, .int .u64 0, .int .u64 1, .int .u64 1, .slice Awr 2 cwr, .int .i64 0, .int .u64 0, .int .u64 0, .int .u64 1, .int .u64 1, .slice Atw 2 ctw, .int .i64 1, .int .u64 0, .int .u64 0, .int .u64 1, .int .u64 1, .slice Afa 1 cfa, .int .i64 0, .int .u64 0, .int .u64 0, .int .u64 1, .int .u64 1, .slice Ath 1 cth, .int .i64 0, .int .u64 0, .int .u64 0, .int .u64 1, .int .u64 1, .slice none 0 0, .int .i64 1] 39) = z := ⟨_, rfl⟩
  rw [hWn] at cb kb
  obtain ⟨gs, hg⟩ : ∃ z, W38.heap.size = z := ⟨_, rfl⟩
  rw [hg] at kb
  have HWn := Lib.hid hWn
  have HGn := Lib.hid hg
  clear hWn hg
  have HB39 := Lib.hid (below_step HB38.out cb)
  replace HLwr := Lib.hid (HLwr.out.below cb)
  replace HLtw := Lib.hid (HLtw.out.below cb)
  replace HLfa := Lib.hid (HLfa.out.below cb)
  replace HLth := Lib.hid (HLth.out.below cb)
  replace HLx1 := Lib.hid (HLx1.out.below cb)
  replace HLx2 := Lib.hid (HLx2.out.below cb)
  replace HLx3 := Lib.hid (HLx3.out.below cb)
  replace HLx4 := Lib.hid (HLx4.out.below cb)
  replace HLx5 := Lib.hid (HLx5.out.below cb)
  clear HB38 cb
  go_wp2_with fail
  try rw [HWn.out]
  try rw [HGn.out]
  clear HWn HGn
  have HTA : Hid (∀ k, k < 10 → RowOk W39 gs k) := by
    intro k hk
    rcases k with _ | _ | _ | _ | _ | _ | _ | _ | _ | _ | k
    · exact ⟨(1, 1), (1, 2), Ax1, cx1, c3, 3, List.mem_of_getElem? (i := 0) rfl, HLx1.out, by rw [kb.cell]; rfl, by rw [kb.cell]; rfl, by rw [kb.cell]; rfl, by rw [kb.cell]; rfl, by rw [kb.cell]; rfl, by rw [kb.cell]; rfl⟩
    · exact ⟨(1, 1), (1, 2), Ax2, cx2, c3, -1, List.mem_of_getElem? (i := 1) rfl, HLx2.out, by rw [kb.cell]; rfl, by rw [kb.cell]; rfl, by rw [kb.cell]; rfl, by rw [kb.cell]; rfl, by rw [kb.cell]; rfl, by rw [kb.cell]; rfl⟩
    · exact ⟨(1, 2), (1, 2), Ax3, cx3, c3, 0, List.mem_of_getElem? (i := 2) rfl, HLx3.out, by rw [kb.cell]; rfl, by rw [kb.cell]; rfl, by rw [kb.cell]; rfl, by rw [kb.cell]; rfl, by rw [kb.cell]; rfl, by rw [kb.cell]; rfl⟩
    · exact ⟨(2, 1), (1, 9), Ax4, cx4, c3, 0, List.mem_of_getElem? (i := 3) rfl, HLx4.out, by rw [kb.cell]; rfl, by rw [kb.cell]; rfl, by rw [kb.cell]; rfl, by rw [kb.cell]; rfl, by rw [kb.cell]; rfl, by rw [kb.cell]; rfl⟩
    · exact ⟨(0, 0), (0, 0), Ax5, cx5, c3, 0, List.mem_of_getElem? (i := 4) rfl, HLx5.out, by rw [kb.cell]; rfl, by rw [kb.cell]; rfl, by rw [kb.cell]; rfl, by rw [kb.cell]; rfl, by rw [kb.cell]; rfl, by rw [kb.cell]; rfl⟩
    · exact ⟨(0, 0), (1, 1), Awr, cwr, mdOf wrL, 0, List.mem_of_getElem? (i := 5) rfl, HLwr.out, by rw [kb.cell]; rfl, by rw [kb.cell]; rfl, by rw [kb.cell]; rfl, by rw [kb.cell]; rfl, by rw [kb.cell]; rfl, by rw [kb.cell]; rfl⟩
    · exact ⟨(0, 0), (1, 1), Atw, ctw, mdOf twL, 1, List.mem_of_getElem? (i := 6) rfl, HLtw.out, by rw [kb.cell]; rfl, by rw [kb.cell]; rfl, by rw [kb.cell]; rfl, by rw [kb.cell]; rfl, by rw [kb.cell]; rfl, by rw [kb.cell]; rfl⟩
    · exact ⟨(0, 0), (1, 1), Afa, cfa, mdOf faL, 0, List.mem_of_getElem? (i := 7) rfl, HLfa.out, by rw [kb.cell]; rfl, by rw [kb.cell]; rfl, by rw [kb.cell]; rfl, by rw [kb.cell]; rfl, by rw [kb.cell]; rfl, by rw [kb.cell]; rfl⟩
    · exact ⟨(0, 0), (1, 1), Ath, cth, mdOf thL, 0, List.mem_of_getElem? (i := 8) rfl, HLth.out, by rw [kb.cell]; rfl, by rw [kb.cell]; rfl, by rw [kb.cell]; rfl, by rw [kb.cell]; rfl, by rw [kb.cell]; rfl, by rw [kb.cell]; rfl⟩
    · exact ⟨(0, 0), (1, 1), none, 0, [], 1, List.mem_of_getElem? (i := 9) rfl, (nil_ls _), by rw [kb.cell]; rfl, by rw [kb.cell]; rfl, by rw [kb.cell]; rfl, by rw [kb.cell]; rfl, by rw [kb.cell]; rfl, by rw [kb.cell]; rfl⟩
    · omega
  have HLG : Hid (gs < W39.heap.size) := kb.lt
  clear kb HLwr HLtw HLfa HLth HLx1 HLx2 HLx3 HLx4 HLx5
  go_loopw [124] (fun i wr => KnR 10 W39 i wr) (fun i _ => 10 - (intOf i).toNat)
  case atStart => exact ⟨0, by omega, rfl, Below.refl _ _⟩
  case round =>
    obtain ⟨k, hk, rfl, hbr⟩ := hrel
    have HBR := Lib.hid hbr
    clear hbr
    by_cases hlt : k < 10
    · have hki : (k : Int) < 10 := by omega
      obtain ⟨b, t, A, cp, l, fr, hmem, hls, t0, t1, t2, t3, t4, t5⟩ := HTA.out k hlt
      have hbad := kA_bad _ hmem
      have hok := kA_ok _ hmem
      dsimp only at hbad hok
      have u0 := t0
      rw [← HBR.out.cell (p := ⟨gs, k * 6, none⟩) HLG.out] at u0
      have u1 := t1
      rw [← HBR.out.cell (p := ⟨gs, k * 6 + 1, none⟩) HLG.out] at u1
      have u2 := t2
      rw [← HBR.out.cell (p := ⟨gs, k * 6 + 2, none⟩) HLG.out] at u2
      have u3 := t3
      rw [← HBR.out.cell (p := ⟨gs, k * 6 + 3, none⟩) HLG.out] at u3
      have u4 := t4
      rw [← HBR.out.cell (p := ⟨gs, k * 6 + 4, none⟩) HLG.out] at u4
      have u5 := t5
      rw [← HBR.out.cell (p := ⟨gs, k * 6 + 5, none⟩) HLG.out] at u5
      have hlb : gs < wr.heap.size := Nat.lt_of_lt_of_le HLG.out HBR.out.size
      have HCA : Hid (∀ W, Below wr.heap.size wr W → Calls Tryd.prog 4 #[gv b, gv t, .slice A l.length cp, .int .i64 fr] W (endP (pa0, 2) W)) := fun W hW => by
        have h := (hls.below HBR.out).below hW
        have := cut_any b t A cp l fr W hok.1 hok.2.1 h.chs h.len h.cap h.at_ h.thin hok.2.2
        rw [hbad] at this
        exact this
      obtain ⟨n, hn⟩ : ∃ z, l.length = z := ⟨_, rfl⟩
      rw [hn] at HCA u4
      unfold gv at HCA
      clear hn hmem hls hbad hok t0 t1 t2 t3 t4 t5
      have cb := (Below.refl wr.heap.size wr).alloc (Nat.le_refl _) (.cells #[.int .u64 (b.1 : Int), .int .u64 (b.2 : Int), .int .u64 (t.1 : Int), .int .u64 (t.2 : Int), .slice A n cp, .int .i64 fr] 39)
      have kb := Blk.new wr 39 #[.int .u64 (b.1 : Int), .int .u64 (b.2 : Int), .int .u64 (t.1 : Int), .int .u64 (t.2 : Int), .slice A n cp, .int .i64 fr]
      obtain ⟨V1, hWn⟩ : ∃ z, wr.alloc (.cells #[.int .u64 (b.1 : Int), .int .u64 (b.2 : Int), .int .u64 (t.1 : Int), .int .u64 (t.2 : Int), .slice A n cp, .int .i64 fr] 39) = z := ⟨_, rfl⟩
      rw [hWn] at cb kb
      obtain ⟨g10, hg⟩ : ∃ z, wr.heap.size = z := ⟨_, rfl⟩
      rw [hg] at kb
      have HWn := Lib.hid hWn
      have HGn := Lib.hid hg
      clear hWn hg
      go_upto_region 12 with fail
      try rw [HWn.out]
      try rw [HGn.out]
      clear HWn HGn
      have HB1 := Lib.hid (below_step HBR.out cb)
      have HC := Lib.hid (HCA.out V1 cb)
      clear cb HCA u0 u1 u2 u3 u4 u5 hlb
      have ch := kb
      have c0 := ch.cell 0
      have c1 := ch.cell 1
      have c2 := ch.cell 2
      have c3 := ch.cell 3
      have c4 := ch.cell 4
      have c5 := ch.cell 5
      have cl := ch.lt
      simp only [List.getElem?_toArray, List.getElem?_cons_zero, List.getElem?_cons_succ] at c0 c1 c2 c3 c4 c5
      clear ch
      clear kb
      go_wp2_with fail
      refine HC.out.mono ?_
      rintro e V2 ⟨A2, d2, rfl, _, _, c2'⟩
      dsimp only
      rw [show paC pa0 A2 d2 = #[.int .u64 0, .int .u64 0, .int .u64 0, .int .u64 0, .int .i64 0, .int .i64 0, .slice A2 0 d2] from rfl]
      clear c0 c1 c2 c3 c4 c5 cl HC
      have HB2 := Lib.hid (below_step HB1.out c2')
      clear c2'
      have cb := (Below.refl V2.heap.size V2).alloc (Nat.le_refl _) (.cells #[.int .u64 0, .int .u64 0, .int .u64 0, .int .u64 0, .int .i64 0, .int .i64 0, .slice A2 0 d2] 27)
      have kb := Blk.new V2 27 #[.int .u64 0, .int .u64 0, .int .u64 0, .int .u64 0, .int .i64 0, .int .i64 0, .slice A2 0 d2]
      obtain ⟨V3, hWn⟩ : ∃ z, V2.alloc (.cells #[.int .u64 0, .int .u64 0, .int .u64 0, .int .u64 0, .int .i64 0, .int .i64 0, .slice A2 0 d2] 27) = z := ⟨_, rfl⟩
      rw [hWn] at cb kb
      obtain ⟨g11, hg⟩ : ∃ z, V2.heap.size = z := ⟨_, rfl⟩
      rw [hg] at kb
      have HWn := Lib.hid hWn
      have HGn := Lib.hid hg
      clear hWn hg
      go_upto_region 13 with fail
      try rw [HWn.out]
      try rw [HGn.out]
      clear HWn HGn
      have HB3 := Lib.hid (below_step HB2.out cb)
      clear cb HB1 HB2
      have ch := kb
      have c0 := ch.cell 0
      have c1 := ch.cell 1
      have c2 := ch.cell 2
      have c3 := ch.cell 3
      have c4 := ch.cell 4
      have c5 := ch.cell 5
      have c6 := ch.cell 6
      have cl := ch.lt
      simp only [List.getElem?_toArray, List.getElem?_cons_zero, List.getElem?_cons_succ] at c0 c1 c2 c3 c4 c5 c6
      clear ch
      have ra2 : ∀ dd os, (grow (redrawn V3 dd) os).cell? ⟨g11, 2, none⟩ = some (.int .u64 0) := fun dd os => cell_regrown c2 dd os
      have ra3 : ∀ dd os, (grow (redrawn V3 dd) os).cell? ⟨g11, 3, none⟩ = some (.int .u64 0) := fun dd os => cell_regrown c3 dd os
      have cG : ∀ dd os, Calls Tryd.prog 5 #[.int .u64 0, .int .u64 0] (grow (redrawn V3 dd) os) fun e w'' => e = .returned (.agg #[.int .u64 0, .int .u64 0]) ∧ ∃ y : Regrown, w'' = grow (redrawn V3 y.d) y.os := fun dd os => Calls.regrown_of (sguid_any 0 0 _)
      clear c0 c1 c2 c3 c4 c5 c6 kb
      refine wp_region_quiet_below rmixed (by kernel_rfl) ?_
      repeat (any_goals (first | go_big_quiet_step (first | (go_at_call 5; exact cG _ _)) | quiet_step (first | (go_at_call 5; exact cG _ _))))
      refine wpQuiet_nil ?_
      intro _ hw'
      obtain ⟨⟨dq, osq⟩, hw''⟩ := hw'
      subst hw''
      have HB4 := Lib.hid (below_step HB3.out (below_regrown V3 dq osq))
      obtain ⟨V4, hV4⟩ : ∃ z, grow (redrawn V3 dq) osq = z := ⟨_, rfl⟩
      rw [hV4] at HB4 ⊢
      go_wp2_with fail
      go_roundw
      case rel => exact ⟨k + 1, by omega, by go_num, HB4.out⟩
      case measure => simp [intOf]; omega
    · have hki : ¬ (k : Int) < 10 := by omega
      have HB40 := Lib.hid (below_step HB39.out HBR.out)
      clear HTA HLG HBR HB39
      obtain ⟨W40, rfl⟩ : ∃ z : World, z = wr := ⟨_, rfl⟩
      go_wp2_with fail
      refine (sguid_any 1 1 W40).mono ?_
      rintro e W41 ⟨rfl, hb⟩
      unfold gv
      dsimp only
      have HB41 := Lib.hid (below_step HB40.out hb)
      clear HB40 hb
      go_wp2_with fail
      refine (sguid_any 2 1 W41).mono ?_
      rintro e W42 ⟨rfl, hb⟩
      unfold gv
      dsimp only
      have HB42 := Lib.hid (below_step HB41.out hb)
      clear HB41 hb
      go_wp2_with fail
      refine (three_any W42).mono ?_
      rintro e W43 ⟨v, rfl, ho, hb⟩
      obtain ⟨Ag, cg, rfl, hls⟩ := ls_of (zs := m3) ho c3_b
      rw [show (mdOf m3).length = 3 from rfl]
      have HLg := Lib.hid hls
      clear hls ho
      have HB43 := Lib.hid (below_step HB42.out hb)
      clear HB42 hb
      have hcg := HLg.out.cap
      rw [show (mdOf m3).length = 3 from rfl] at hcg
      obtain ⟨bg, og, hAg⟩ : ∃ b o, Ag = some ⟨b, o, none⟩ := by
        rcases HLg.out.at_ with ⟨_, e⟩ | h
        · omega
        · exact h
      subst hAg
      have hcgi : (3 : Int) ≤ (cg : Int) := by omega
      have cb := (Below.refl W43.heap.size W43).alloc (Nat.le_refl _) (.cells #[.int .u64 1, .int .u64 1, .int .u64 2, .int .u64 1, .int .i64 1, .int .i64 3, .slice (some ⟨bg, og + 2, none⟩) 2 (cg - 1)] 27)
      have kb := Blk.new W43 27 #[.int .u64 1, .int .u64 1, .int .u64 2, .int .u64 1, .int .i64 1, .int .i64 3, .slice (some ⟨bg, og + 2, none⟩) 2 (cg - 1)]
      obtain ⟨W44, hWn⟩ : ∃ z, W43.alloc (.cells #[.int .u64 1, .int .u64 1, .int .u64 2, .int .u64 1, .int .i64 1, .int .i64 3, .slice (some ⟨bg, og + 2, none⟩) 2 (cg - 1)] 27) = z := ⟨_, rfl⟩
      rw [hWn] at cb kb
      obtain ⟨g13, hg⟩ : ∃ z, W43.heap.size = z := ⟨_, rfl⟩
      rw [hg] at kb
      have HWn := Lib.hid hWn
      have HGn := Lib.hid hg
      clear hWn hg
      have HK : Hid (Blk W44 g13 27 (paC gdP (some ⟨bg, og + 2, none⟩) (cg - 1))) := kb
      clear kb
      have HB44 := Lib.hid (below_step HB43.out cb)
      replace HLg := Lib.hid (HLg.out.below cb)
      clear HB43 cb
      have HPG : Hid (PaL W44 (some ⟨bg, og + 2, none⟩) (cg - 1) gdP) := ⟨chl_drop HLg.out.chs 1 2, ⟨by decide, by decide⟩, ⟨by decide, by decide⟩, ⟨by decide, by decide⟩, by decide, by decide⟩
      go_upto_region 17 with fail
      try rw [HWn.out]
      try rw [HGn.out]
      clear HWn HGn
      obtain ⟨AG, hAG⟩ : ∃ z, (some ⟨bg, og + 2, none⟩ : Option Addr) = z := ⟨_, rfl⟩
      obtain ⟨CG, hCG⟩ : ∃ z, cg - 1 = z := ⟨_, rfl⟩
      rw [hAG, hCG] at HK HPG ⊢
      clear hAG hCG hcg hcgi HLg
      go_wp2_with fail
      refine (with_any do1 (fun a W => by go_simp) g13 AG CG W44 HK.out HPG.out).mono ?_
      rintro e W45 ⟨Aq1, cq1, rfl, hp, hb⟩
      rw [show paC p1 Aq1 cq1 = #[.int .u64 1, .int .u64 1, .int .u64 2, .int .u64 1, .int .i64 1, .int .i64 3, .slice Aq1 0 cq1] from rfl]
      have HQ1 := Lib.hid hp
      clear hp
      have HB45 := Lib.hid (below_step HB44.out hb)
      replace HK := Lib.hid (HK.out.below hb)
      replace HPG := Lib.hid (HPG.out.below hb)
      clear HB44 hb
      go_wp2_with fail
      refine (with_any do2 (fun a W => by go_simp) g13 AG CG W45 HK.out HPG.out).mono ?_
      rintro e W46 ⟨Aq2, cq2, rfl, hp, hb⟩
      rw [show paC p2 Aq2 cq2 = #[.int .u64 1, .int .u64 1, .int .u64 2, .int .u64 1, .int .i64 2, .int .i64 3, .slice Aq2 2 cq2] from rfl]
      have HQ2 := Lib.hid hp
      clear hp
      have HB46 := Lib.hid (below_step HB45.out hb)
      replace HK := Lib.hid (HK.out.below hb)
      replace HPG := Lib.hid (HPG.out.below hb)
      replace HQ1 := Lib.hid (HQ1.out.below hb)
      clear HB45 hb
      go_wp2_with fail
      refine (with_any do3 (fun a W => by go_simp) g13 AG CG W46 HK.out HPG.out).mono ?_
      rintro e W47 ⟨Aq3, cq3, rfl, hp, hb⟩
      rw [show paC p3 Aq3 cq3 = #[.int .u64 1, .int .u64 1, .int .u64 2, .int .u64 1, .int .i64 1, .int .i64 9, .slice Aq3 2 cq3] from rfl]
      have HQ3 := Lib.hid hp
      clear hp
      have HB47 := Lib.hid (below_step HB46.out hb)
      replace HK := Lib.hid (HK.out.below hb)
      replace HPG := Lib.hid (HPG.out.below hb)
      replace HQ1 := Lib.hid (HQ1.out.below hb)
      replace HQ2 := Lib.hid (HQ2.out.below hb)
      clear HB46 hb
      go_wp2_with fail
      refine (with_any do4 (fun a W => by go_simp) g13 AG CG W47 HK.out HPG.out).mono ?_
      rintro e W48 ⟨Aq4, cq4, rfl, hp, hb⟩
      rw [show paC p4 Aq4 cq4 = #[.int .u64 1, .int .u64 1, .int .u64 2, .int .u64 1, .int .i64 1, .int .i64 2, .slice Aq4 2 cq4] from rfl]
      have HQ4 := Lib.hid hp
      clear hp
      have HB48 := Lib.hid (below_step HB47.out hb)
      replace HK := Lib.hid (HK.out.below hb)
      replace HPG := Lib.hid (HPG.out.below hb)
      replace HQ1 := Lib.hid (HQ1.out.below hb)
      replace HQ2 := Lib.hid (HQ2.out.below hb)
      replace HQ3 := Lib.hid (HQ3.out.below hb)
      clear HB47 hb
      go_wp2_with fail
      refine (with_any do5 (fun a W => by go_simp) g13 AG CG W48 HK.out HPG.out).mono ?_
      rintro e W49 ⟨Aq5, cq5, rfl, hp, hb⟩
      rw [show paC p5 Aq5 cq5 = #[.int .u64 1, .int .u64 1, .int .u64 2, .int .u64 1, .int .i64 (-1), .int .i64 3, .slice Aq5 2 cq5] from rfl]
      have HQ5 := Lib.hid hp
      clear hp
      have HB49 := Lib.hid (below_step HB48.out hb)
      replace HK := Lib.hid (HK.out.below hb)
      replace HPG := Lib.hid (HPG.out.below hb)
      replace HQ1 := Lib.hid (HQ1.out.below hb)
      replace HQ2 := Lib.hid (HQ2.out.below hb)
      replace HQ3 := Lib.hid (HQ3.out.below hb)
      replace HQ4 := Lib.hid (HQ4.out.below hb)
      clear HB48 hb
      go_wp2_with fail
      refine (with_any do6 (fun a W => by go_simp) g13 AG CG W49 HK.out HPG.out).mono ?_
      rintro e W50 ⟨Aq6, cq6, rfl, hp, hb⟩
      rw [show paC p6 Aq6 cq6 = #[.int .u64 1, .int .u64 1, .int .u64 2, .int .u64 1, .int .i64 1, .int .i64 3, .slice Aq6 3 cq6] from rfl]
      have HQ6 := Lib.hid hp
      clear hp
      have HB50 := Lib.hid (below_step HB49.out hb)
      replace HK := Lib.hid (HK.out.below hb)
      replace HPG := Lib.hid (HPG.out.below hb)
      replace HQ1 := Lib.hid (HQ1.out.below hb)
      replace HQ2 := Lib.hid (HQ2.out.below hb)
      replace HQ3 := Lib.hid (HQ3.out.below hb)
      replace HQ4 := Lib.hid (HQ4.out.below hb)
      replace HQ5 := Lib.hid (HQ5.out.below hb)
      clear HB49 hb
      go_wp2_with fail
      refine (with_any do7 (fun a W => by go_simp) g13 AG CG W50 HK.out HPG.out).mono ?_
      rintro e W51 ⟨Aq7, cq7, rfl, hp, hb⟩
      rw [show paC p7 Aq7 cq7 = #[.int .u64 1, .int .u64 1, .int .u64 1, .int .u64 1, .int .i64 1, .int .i64 3, .slice Aq7 2 cq7] from rfl]
      have HQ7 := Lib.hid hp
      clear hp
      have HB51 := Lib.hid (below_step HB50.out hb)
      replace HK := Lib.hid (HK.out.below hb)
      replace HPG := Lib.hid (HPG.out.below hb)
      replace HQ1 := Lib.hid (HQ1.out.below hb)
      replace HQ2 := Lib.hid (HQ2.out.below hb)
      replace HQ3 := Lib.hid (HQ3.out.below hb)
      replace HQ4 := Lib.hid (HQ4.out.below hb)
      replace HQ5 := Lib.hid (HQ5.out.below hb)
      replace HQ6 := Lib.hid (HQ6.out.below hb)
      clear HB50 hb
      go_wp2_with fail
      refine (with_any do8 (fun a W => by go_simp) g13 AG CG W51 HK.out HPG.out).mono ?_
      rintro e W52 ⟨Aq8, cq8, rfl, hp, hb⟩
      rw [show paC p8 Aq8 cq8 = #[.int .u64 1, .int .u64 1, .int .u64 2, .int .u64 1, .int .i64 1, .int .i64 3, .slice Aq8 2 cq8] from rfl]
      have HQ8 := Lib.hid hp
      clear hp
      have HB52 := Lib.hid (below_step HB51.out hb)
      replace HK := Lib.hid (HK.out.below hb)
      replace HPG := Lib.hid (HPG.out.below hb)
      replace HQ1 := Lib.hid (HQ1.out.below hb)
      replace HQ2 := Lib.hid (HQ2.out.below hb)
      replace HQ3 := Lib.hid (HQ3.out.below hb)
      replace HQ4 := Lib.hid (HQ4.out.below hb)
      replace HQ5 := Lib.hid (HQ5.out.below hb)
      replace HQ6 := Lib.hid (HQ6.out.below hb)
      replace HQ7 := Lib.hid (HQ7.out.below hb)
      clear HB51 hb
      go_wp2_with fail
      refine (with_any do9 (fun a W => by go_simp) g13 AG CG W52 HK.out HPG.out).mono ?_
      rintro e W53 ⟨Aq9, cq9, rfl, hp, hb⟩
      rw [show paC p9 Aq9 cq9 = #[.int .u64 1, .int .u64 1, .int .u64 2, .int .u64 1, .int .i64 1, .int .i64 3, .slice Aq9 2 cq9] from rfl]
      have HQ9 := Lib.hid hp
      clear hp
      have HB53 := Lib.hid (below_step HB52.out hb)
      replace HK := Lib.hid (HK.out.below hb)
      replace HPG := Lib.hid (HPG.out.below hb)
      replace HQ1 := Lib.hid (HQ1.out.below hb)
      replace HQ2 := Lib.hid (HQ2.out.below hb)
      replace HQ3 := Lib.hid (HQ3.out.below hb)
      replace HQ4 := Lib.hid (HQ4.out.below hb)
      replace HQ5 := Lib.hid (HQ5.out.below hb)
      replace HQ6 := Lib.hid (HQ6.out.below hb)
      replace HQ7 := Lib.hid (HQ7.out.below hb)
      replace HQ8 := Lib.hid (HQ8.out.below hb)
      clear HB52 hb
      go_wp2_with fail
      refine (with_any do10 (fun a W => by go_simp) g13 AG CG W53 HK.out HPG.out).mono ?_
      rintro e W54 ⟨Aq10, cq10, rfl, hp, hb⟩
      rw [show paC p10 Aq10 cq10 = #[.int .u64 1, .int .u64 1, .int .u64 2, .int .u64 1, .int .i64 0, .int .i64 0, .slice Aq10 1 cq10] from rfl]
      have HQ10 := Lib.hid hp
      clear hp
      have HB54 := Lib.hid (below_step HB53.out hb)
      replace HK := Lib.hid (HK.out.below hb)
      replace HPG := Lib.hid (HPG.out.below hb)
      replace HQ1 := Lib.hid (HQ1.out.below hb)
      replace HQ2 := Lib.hid (HQ2.out.below hb)
      replace HQ3 := Lib.hid (HQ3.out.below hb)
      replace HQ4 := Lib.hid (HQ4.out.below hb)
      replace HQ5 := Lib.hid (HQ5.out.below hb)
      replace HQ6 := Lib.hid (HQ6.out.below hb)
      replace HQ7 := Lib.hid (HQ7.out.below hb)
      replace HQ8 := Lib.hid (HQ8.out.below hb)
      replace HQ9 := Lib.hid (HQ9.out.below hb)
      clear HB53 hb
      go_wp2_with fail
      refine (with_any do11 (fun a W => by go_simp) g13 AG CG W54 HK.out HPG.out).mono ?_
      rintro e W55 ⟨Aq11, cq11, rfl, hp, hb⟩
      rw [show paC p11 Aq11 cq11 = #[.int .u64 1, .int .u64 1, .int .u64 2, .int .u64 1, .int .i64 3, .int .i64 3, .slice Aq11 0 cq11] from rfl]
      have HQ11 := Lib.hid hp
      clear hp
      have HB55 := Lib.hid (below_step HB54.out hb)
      replace HK := Lib.hid (HK.out.below hb)
      replace HPG := Lib.hid (HPG.out.below hb)
      replace HQ1 := Lib.hid (HQ1.out.below hb)
      replace HQ2 := Lib.hid (HQ2.out.below hb)
      replace HQ3 := Lib.hid (HQ3.out.below hb)
      replace HQ4 := Lib.hid (HQ4.out.below hb)
      replace HQ5 := Lib.hid (HQ5.out.below hb)
      replace HQ6 := Lib.hid (HQ6.out.below hb)
      replace HQ7 := Lib.hid (HQ7.out.below hb)
      replace HQ8 := Lib.hid (HQ8.out.below hb)
      replace HQ9 := Lib.hid (HQ9.out.below hb)
      replace HQ10 := Lib.hid (HQ10.out.below hb)
      clear HB54 hb
      have cb := (Below.refl W55.heap.size W55).alloc (Nat.le_refl _) (.cells #[.int .u64 1, .int .u64 1, .int .u64 2, .int .u64 1, .int .i64 1, .int .i64 3, .slice Aq1 0 cq1, .int .u64 1, .int .u64 1, .int .u64 2, .int .u64 1, .int .i64 2, .int .i64 3, .slice Aq2 2 cq2, .int .u64 1, .int .u64 1, .int .u64 2, .int .u64 1, .int .i64 1, .int .i64 9, .slice Aq3 2 cq3, .int .u64 1, .int .u64 1, .int .u64 2, .int .u64 1, .int .i64 1, .int .i64 2, .slice Aq4 2 cq4, .int .u64 1, .int .u64 1, .int .u64 2, .int .u64 1, .int .i64 (-1), .int .i64 3, .slice Aq5 2 cq5, .int .u64 1, .int .u64 1, .int .u64 2, .int .u64 1, .int .i64 1, .int .i64 3, .slice Aq6 3 cq6, .int .u64 1, .int .u64 1, .int .u64 1, .int .u64 1, .int .i64 1, .int .i64 3, .slice Aq7 2 cq7, .int .u64 1, .int .u64 1, .int .u64 2, .int .u64 1, .int .i64 1, .int .i64 3, .slice Aq8 2 cq8, .int .u64 1, .int .u64 1, .int .u64 2, .int .u64 1, .int .i64 1, .int .i64 3, .slice Aq9 2 cq9, .int .u64 1, .int .u64 1, .int .u64 2, .int .u64 1, .int .i64 0, .int .i64 0, .slice Aq10 1 cq10, .int .u64 1, .int .u64 1, .int .u64 2, .int .u64 1, .int .i64 3, .int .i64 3, .slice Aq11 0 cq11] 27)
      have kb := Blk.new W55 27 #[.int .u64 1, .int .u64 1, .int .u64 2, .int .u64 1, .int .i64 1, .int .i64 3, .slice Aq1 0 cq1, .int .u64 1, .int .u64 1, .int .u64 2, .int .u64 1, .int .i64 2, .int .i64 3, .slice Aq2 2 cq2, .int .u64 1, .int .u64 1, .int .u64 2, .int .u64 1, .int .i64 1, .int .i64 9, .slice Aq3 2 cq3, .int .u64 1, .int .u64 1, .int .u64 2, .int .u64 1, .int .i64 1, .int .i64 2, .slice Aq4 2 cq4, .int .u64 1, .int .u64 1, .int .u64 2, .int .u64 1, .int .i64 (-1), .int .i64 3, .slice Aq5 2 cq5, .int .u64 1, .int .u64 1, .int .u64 2, .int .u64 1, .int .i64 1, .int .i64 3, .slice Aq6 3 cq6, .int .u64 1, .int .u64 1, .int .u64 1, .int .u64 1, .int .i64 1, .int .i64 3, .slice Aq7 2 cq7, .int .u64 1, .int .u64 1, .int .u64 2, .int .u64 1, .int .i64 1, .int .i64 3, .slice Aq8 2 cq8, .int .u64 1, .int .u64 1, .int .u64 2, .int .u64 1, .int .i64 1, .int .i64 3, .slice Aq9 2 cq9, .int .u64 1, .int .u64 1, .int .u64 2, .int .u64 1, .int .i64 0, .int .i64 0, .slice Aq10 1 cq10, .int .u64 1, .int .u64 1, .int .u64 2, .int .u64 1, .int .i64 3, .int .i64 3, .slice Aq11 0 cq11]
      obtain ⟨W56, hWn⟩ : ∃ z, W55.alloc (.cells #[.int .u64 1, .int .u64 1, .int .u64 2, .int .u64 1, .int .i64 1, .int .i64 3, .slice Aq1 0 cq1, .int .u64 1, .int .u64 1, .int .u64 2, .int .u64 1, .int .i64 2, .int .i64 3, .slice Aq2 2 cq2, .int .u64 1, .int .u64 1, .int .u64 2, .int .u64 1, .int .i64 1, .int .i64 9, .slice Aq3 2 cq3, .int .u64 1, .int .u64 1, .int .u64 2, .int .u64 1, .int .i64 1, .int .i64 2, .slice Aq4 2 cq4, .int .u64 1, .int .u64 1, .int .u64 2, .int .u64 1, .int .i64 (-1), .int .i64 3, .slice Aq5 2 cq5, .int .u64 1, .int .u64 1, .int .u64 2, .int .u64 1, .int .i64 1, .int .i64 3, .slice Aq6 3 cq6, .int .u64 1, .int .u64 1, .int .u64 1, .int .u64 1, .int .i64 1, .int .i64 3, .slice Aq7 2 cq7, .int .u64 1, .int .u64 1, .int .u64 2, .int .u64 1, .int .i64 1, .int .i64 3, .slice Aq8 2 cq8, .int .u64 1, .int .u64 1, .int .u64 2, .int .u64 1, .int .i64 1, .int .i64 3, .slice Aq9 2 cq9, .int .u64 1, .int .u64 1, .int .u64 2, .int .u64 1, .int .i64 0, .int .i64 0, .slice Aq10 1 cq10, .int .u64 1, .int .u64 1, .int .u64 2, .int .u64 1, .int .i64 3, .int .i64 3, .slice Aq11 0 cq11] 27) = z := ⟨_, rfl⟩
      rw [hWn] at cb kb
      obtain ⟨gt, hg⟩ : ∃ z, W55.heap.size = z := ⟨_, rfl⟩
      rw [hg] at kb
      have HWn := Lib.hid hWn
      have HGn := Lib.hid hg
      clear hWn hg
      have HB56 := Lib.hid (below_step HB55.out cb)
      replace HK := Lib.hid (HK.out.below cb)
      replace HPG := Lib.hid (HPG.out.below cb)
      replace HQ1 := Lib.hid (HQ1.out.below cb)
      replace HQ2 := Lib.hid (HQ2.out.below cb)
      replace HQ3 := Lib.hid (HQ3.out.below cb)
      replace HQ4 := Lib.hid (HQ4.out.below cb)
      replace HQ5 := Lib.hid (HQ5.out.below cb)
      replace HQ6 := Lib.hid (HQ6.out.below cb)
      replace HQ7 := Lib.hid (HQ7.out.below cb)
      replace HQ8 := Lib.hid (HQ8.out.below cb)
      replace HQ9 := Lib.hid (HQ9.out.below cb)
      replace HQ10 := Lib.hid (HQ10.out.below cb)
      replace HQ11 := Lib.hid (HQ11.out.below cb)
      clear HB55 cb
      go_wp2_with fail
      try rw [HWn.out]
      try rw [HGn.out]
      clear HWn HGn
      have HTP : Hid (∀ k, k < 11 → ParOk W56 gt k) := by
        intro k hk
        rcases k with _ | _ | _ | _ | _ | _ | _ | _ | _ | _ | _ | k
        · exact ⟨p1, Aq1, cq1, List.mem_of_getElem? (i := 0) rfl, HQ1.out, by rw [kb.cell]; rfl, by rw [kb.cell]; rfl, by rw [kb.cell]; rfl, by rw [kb.cell]; rfl, by rw [kb.cell]; rfl, by rw [kb.cell]; rfl, by rw [kb.cell]; rfl⟩
        · exact ⟨p2, Aq2, cq2, List.mem_of_getElem? (i := 1) rfl, HQ2.out, by rw [kb.cell]; rfl, by rw [kb.cell]; rfl, by rw [kb.cell]; rfl, by rw [kb.cell]; rfl, by rw [kb.cell]; rfl, by rw [kb.cell]; rfl, by rw [kb.cell]; rfl⟩
        · exact ⟨p3, Aq3, cq3, List.mem_of_getElem? (i := 2) rfl, HQ3.out, by rw [kb.cell]; rfl, by rw [kb.cell]; rfl, by rw [kb.cell]; rfl, by rw [kb.cell]; rfl, by rw [kb.cell]; rfl, by rw [kb.cell]; rfl, by rw [kb.cell]; rfl⟩
        · exact ⟨p4, Aq4, cq4, List.mem_of_getElem? (i := 3) rfl, HQ4.out, by rw [kb.cell]; rfl, by rw [kb.cell]; rfl, by rw [kb.cell]; rfl, by rw [kb.cell]; rfl, by rw [kb.cell]; rfl, by rw [kb.cell]; rfl, by rw [kb.cell]; rfl⟩
        · exact ⟨p5, Aq5, cq5, List.mem_of_getElem? (i := 4) rfl, HQ5.out, by rw [kb.cell]; rfl, by rw [kb.cell]; rfl, by rw [kb.cell]; rfl, by rw [kb.cell]; rfl, by rw [kb.cell]; rfl, by rw [kb.cell]; rfl, by rw [kb.cell]; rfl⟩
        · exact ⟨p6, Aq6, cq6, List.mem_of_getElem? (i := 5) rfl, HQ6.out, by rw [kb.cell]; rfl, by rw [kb.cell]; rfl, by rw [kb.cell]; rfl, by rw [kb.cell]; rfl, by rw [kb.cell]; rfl, by rw [kb.cell]; rfl, by rw [kb.cell]; rfl⟩
        · exact ⟨p7, Aq7, cq7, List.mem_of_getElem? (i := 6) rfl, HQ7.out, by rw [kb.cell]; rfl, by rw [kb.cell]; rfl, by rw [kb.cell]; rfl, by rw [kb.cell]; rfl, by rw [kb.cell]; rfl, by rw [kb.cell]; rfl, by rw [kb.cell]; rfl⟩
        · exact ⟨p8, Aq8, cq8, List.mem_of_getElem? (i := 7) rfl, HQ8.out, by rw [kb.cell]; rfl, by rw [kb.cell]; rfl, by rw [kb.cell]; rfl, by rw [kb.cell]; rfl, by rw [kb.cell]; rfl, by rw [kb.cell]; rfl, by rw [kb.cell]; rfl⟩
        · exact ⟨p9, Aq9, cq9, List.mem_of_getElem? (i := 8) rfl, HQ9.out, by rw [kb.cell]; rfl, by rw [kb.cell]; rfl, by rw [kb.cell]; rfl, by rw [kb.cell]; rfl, by rw [kb.cell]; rfl, by rw [kb.cell]; rfl, by rw [kb.cell]; rfl⟩
        · exact ⟨p10, Aq10, cq10, List.mem_of_getElem? (i := 9) rfl, HQ10.out, by rw [kb.cell]; rfl, by rw [kb.cell]; rfl, by rw [kb.cell]; rfl, by rw [kb.cell]; rfl, by rw [kb.cell]; rfl, by rw [kb.cell]; rfl, by rw [kb.cell]; rfl⟩
        · exact ⟨p11, Aq11, cq11, List.mem_of_getElem? (i := 10) rfl, HQ11.out, by rw [kb.cell]; rfl, by rw [kb.cell]; rfl, by rw [kb.cell]; rfl, by rw [kb.cell]; rfl, by rw [kb.cell]; rfl, by rw [kb.cell]; rfl, by rw [kb.cell]; rfl⟩
        · omega
      have HLT : Hid (gt < W56.heap.size) := kb.lt
      clear kb HQ1 HQ2 HQ3 HQ4 HQ5 HQ6 HQ7 HQ8 HQ9 HQ10 HQ11
      go_loopw [182] (fun i wr => KnR 11 W56 i wr) (fun i _ => 11 - (intOf i).toNat)
      case atStart => exact ⟨0, by omega, rfl, Below.refl _ _⟩
      case round =>
        obtain ⟨k, hk, rfl, hbr⟩ := hrel
        have HBR := Lib.hid hbr
        clear hbr
        by_cases hlt : k < 11
        · have hki : (k : Int) < 11 := by omega
          obtain ⟨p, A, c, hmem, hpl, t0, t1, t2, t3, t4, t5, t6⟩ := HTP.out k hlt
          have hbad := kB_bad _ hmem
          have hfew := kB_few _ hmem
          have u0 := t0
          rw [← HBR.out.cell (p := ⟨gt, k * 7, none⟩) HLT.out] at u0
          have u1 := t1
          rw [← HBR.out.cell (p := ⟨gt, k * 7 + 1, none⟩) HLT.out] at u1
          have u2 := t2
          rw [← HBR.out.cell (p := ⟨gt, k * 7 + 2, none⟩) HLT.out] at u2
          have u3 := t3
          rw [← HBR.out.cell (p := ⟨gt, k * 7 + 3, none⟩) HLT.out] at u3
          have u4 := t4
          rw [← HBR.out.cell (p := ⟨gt, k * 7 + 4, none⟩) HLT.out] at u4
          have u5 := t5
          rw [← HBR.out.cell (p := ⟨gt, k * 7 + 5, none⟩) HLT.out] at u5
          have u6 := t6
          rw [← HBR.out.cell (p := ⟨gt, k * 7 + 6, none⟩) HLT.out] at u6
          have hlb : gt < wr.heap.size := Nat.lt_of_lt_of_le HLT.out HBR.out.size
          have HEA : Hid (∀ W, Below wr.heap.size wr W → Calls Tryd.prog 6 #[.agg (paC p A c)] W (endS ([], 2) W)) := fun W hW => by
            have := enc_any A c p W ((hpl.below HBR.out).below hW) (by omega) (HT.out.below (below_step HB56.out (below_step HBR.out hW)) HT.out.1)
            rw [show pEnc p = ([], 2) from if_pos (by rw [hbad]; decide)] at this
            exact this
          have HKA : Hid (∀ W, Below wr.heap.size wr W → Calls Tryd.prog 22 #[.agg (paC p A c)] W (endI 2 W)) := fun W hW => by
            have := check_any A c p W ((hpl.below HBR.out).below hW) (by omega)
            rw [hbad] at this
            exact this
          unfold paC at HEA HKA
          obtain ⟨n, hn⟩ : ∃ z, p.chs.length = z := ⟨_, rfl⟩
          rw [hn] at HEA HKA u6
          clear hn hmem hpl hbad hfew t0 t1 t2 t3 t4 t5 t6
          have cb := (Below.refl wr.heap.size wr).alloc (Nat.le_refl _) (.cells #[.int .u64 (p.base.1 : Int), .int .u64 (p.base.2 : Int), .int .u64 (p.target.1 : Int), .int .u64 (p.target.2 : Int), .int .i64 p.fr, .int .i64 p.all, .slice A n c] 27)
          have kb := Blk.new wr 27 #[.int .u64 (p.base.1 : Int), .int .u64 (p.base.2 : Int), .int .u64 (p.target.1 : Int), .int .u64 (p.target.2 : Int), .int .i64 p.fr, .int .i64 p.all, .slice A n c]
          obtain ⟨V1, hWn⟩ : ∃ z, wr.alloc (.cells #[.int .u64 (p.base.1 : Int), .int .u64 (p.base.2 : Int), .int .u64 (p.target.1 : Int), .int .u64 (p.target.2 : Int), .int .i64 p.fr, .int .i64 p.all, .slice A n c] 27) = z := ⟨_, rfl⟩
          rw [hWn] at cb kb
          obtain ⟨g10, hg⟩ : ∃ z, wr.heap.size = z := ⟨_, rfl⟩
          rw [hg] at kb
          have HWn := Lib.hid hWn
          have HGn := Lib.hid hg
          clear hWn hg
          go_upto_region 21 with fail
          try rw [HWn.out]
          try rw [HGn.out]
          clear HWn HGn
          have HB1 := Lib.hid (below_step HBR.out cb)
          have HE1 := Lib.hid (HEA.out V1 cb)
          have HC1 := Lib.hid cb
          have HKB := Lib.hid kb
          clear cb u0 u1 u2 u3 u4 u5 u6 hlb HEA
          have ch := kb
          have c0 := ch.cell 0
          have c1 := ch.cell 1
          have c2 := ch.cell 2
          have c3 := ch.cell 3
          have c4 := ch.cell 4
          have c5 := ch.cell 5
          have c6 := ch.cell 6
          have cl := ch.lt
          simp only [List.getElem?_toArray, List.getElem?_cons_zero, List.getElem?_cons_succ] at c0 c1 c2 c3 c4 c5 c6
          clear ch
          clear kb
          go_wp2_with fail
          refine HE1.out.mono ?_
          rintro e V2 ⟨rfl, c2'⟩
          dsimp only
          rw [show str [] = (⟨#[]⟩ : ByteArray) from rfl]
          clear c0 c1 c2 c3 c4 c5 c6 cl HE1
          have HB2 := Lib.hid (below_step HB1.out c2')
          have HK2 := Lib.hid (HKA.out V2 (below_step HC1.out c2'))
          have kb := HKB.out.below c2'
          clear c2' HKA HC1 HKB HB1
          have ch := kb
          have c0 := ch.cell 0
          have c1 := ch.cell 1
          have c2 := ch.cell 2
          have c3 := ch.cell 3
          have c4 := ch.cell 4
          have c5 := ch.cell 5
          have c6 := ch.cell 6
          have cl := ch.lt
          simp only [List.getElem?_toArray, List.getElem?_cons_zero, List.getElem?_cons_succ] at c0 c1 c2 c3 c4 c5 c6
          clear ch
          clear kb
          go_wp2_with fail
          refine HK2.out.mono ?_
          rintro e V3 ⟨rfl, c3'⟩
          have HB3 := Lib.hid (below_step HB2.out c3')
          clear c0 c1 c2 c3 c4 c5 c6 cl HK2 c3' HB2
          go_wp2_with fail
          go_roundw
          case rel => exact ⟨k + 1, by omega, by go_num, HB3.out⟩
          case measure => simp [intOf]; omega
        · have hki : ¬ (k : Int) < 11 := by omega
          have HB57 := Lib.hid (below_step HB56.out HBR.out)
          replace HK := Lib.hid (HK.out.below HBR.out)
          replace HPG := Lib.hid (HPG.out.below HBR.out)
          clear HTP HLT HBR HB56
          obtain ⟨W57, rfl⟩ : ∃ z : World, z = wr := ⟨_, rfl⟩
          have HEN := Lib.hid (enc_any AG CG gdP W57 HPG.out (by decide) (HT.out.below HB57.out HT.out.1))
          rw [kn_tenc, show paC gdP AG CG = #[.int .u64 1, .int .u64 1, .int .u64 2, .int .u64 1, .int .i64 1, .int .i64 3, .slice AG 2 CG] from rfl] at HEN
          have gh := HK.out
          rw [show paC gdP AG CG = #[.int .u64 1, .int .u64 1, .int .u64 2, .int .u64 1, .int .i64 1, .int .i64 3, .slice AG 2 CG] from rfl] at gh
          have ah := gh
          clear gh
          have a0 := ah.cell 0
          have a1 := ah.cell 1
          have a2 := ah.cell 2
          have a3 := ah.cell 3
          have a4 := ah.cell 4
          have a5 := ah.cell 5
          have a6 := ah.cell 6
          have al := ah.lt
          simp only [paC, List.getElem?_toArray, List.getElem?_cons_zero, List.getElem?_cons_succ] at a0 a1 a2 a3 a4 a5 a6
          clear ah
          go_wp2_with fail
          refine HEN.out.mono ?_
          rintro e W58 ⟨rfl, hb⟩
          dsimp only
          clear HEN
          clear a0 a1 a2 a3 a4 a5 a6 al
          have HB58 := Lib.hid (below_step HB57.out hb)
          replace HK := Lib.hid (HK.out.below hb)
          replace HPG := Lib.hid (HPG.out.below hb)
          clear HB57 hb
          have htl : (str tB).size - 1 ≤ (str tB).size ∧ 1 ≤ (str tB).size ∧ (str tB).size ≤ 200 := by rw [str_size]; have := kn_tlen; omega
          have HTB : Hid (bl (str tB) = tB) := bl_str tB
          have HTZ : Hid ((str tB).size = tB.length) := str_size tB
          obtain ⟨T, hT⟩ : ∃ z, str tB = z := ⟨_, rfl⟩
          rw [hT] at htl HTB HTZ ⊢
          clear hT
          have HCK := Lib.hid (check_any AG CG gdP W58 HPG.out (by decide))
          rw [gd_chk, show paC gdP AG CG = #[.int .u64 1, .int .u64 1, .int .u64 2, .int .u64 1, .int .i64 1, .int .i64 3, .slice AG 2 CG] from rfl] at HCK
          have gh := HK.out
          rw [show paC gdP AG CG = #[.int .u64 1, .int .u64 1, .int .u64 2, .int .u64 1, .int .i64 1, .int .i64 3, .slice AG 2 CG] from rfl] at gh
          have ah := gh
          clear gh
          have a0 := ah.cell 0
          have a1 := ah.cell 1
          have a2 := ah.cell 2
          have a3 := ah.cell 3
          have a4 := ah.cell 4
          have a5 := ah.cell 5
          have a6 := ah.cell 6
          have al := ah.lt
          simp only [paC, List.getElem?_toArray, List.getElem?_cons_zero, List.getElem?_cons_succ] at a0 a1 a2 a3 a4 a5 a6
          clear ah
          go_wp2_with fail
          refine HCK.out.mono ?_
          rintro e W59 ⟨rfl, hb⟩
          clear HCK
          clear a0 a1 a2 a3 a4 a5 a6 al
          have HB59 := Lib.hid (below_step HB58.out hb)
          replace HK := Lib.hid (HK.out.below hb)
          replace HPG := Lib.hid (HPG.out.below hb)
          clear HB58 hb
          have cb := (Below.refl W59.heap.size W59).alloc (Nat.le_refl _) (.cells #[.int .u64 1, .int .u64 1, .int .u64 1, .int .u64 2, .int .u64 0, .int .u64 0, .int .u64 0] 22)
          have kb := Blk.new W59 22 #[.int .u64 1, .int .u64 1, .int .u64 1, .int .u64 2, .int .u64 0, .int .u64 0, .int .u64 0]
          obtain ⟨W60, hWn⟩ : ∃ z, W59.alloc (.cells #[.int .u64 1, .int .u64 1, .int .u64 1, .int .u64 2, .int .u64 0, .int .u64 0, .int .u64 0] 22) = z := ⟨_, rfl⟩
          rw [hWn] at cb kb
          obtain ⟨gu, hg⟩ : ∃ z, W59.heap.size = z := ⟨_, rfl⟩
          rw [hg] at kb
          have HWn := Lib.hid hWn
          have HGn := Lib.hid hg
          clear hWn hg
          have HB60 := Lib.hid (below_step HB59.out cb)
          replace HK := Lib.hid (HK.out.below cb)
          replace HPG := Lib.hid (HPG.out.below cb)
          clear HB59 cb
          go_wp2_with fail
          try rw [HWn.out]
          try rw [HGn.out]
          clear HWn HGn
          have HU := Lib.hid kb
          clear kb
          go_loopw [21, 220] (fun v i wr => RawR W60 v i wr) (fun _ i _ => 7 - (intOf i).toNat)
          case atStart => exact ⟨0, by omega, rfl, rfl, Below.refl _ _⟩
          case round =>
            obtain ⟨k, hk, rfl, rfl, hbr⟩ := hrel
            have HBR := Lib.hid hbr
            have HUK := Lib.hid (HU.out.below hbr)
            clear hbr
            by_cases hlt : k < 7
            · have hki : (k : Int) < 7 := by omega
              have hkl : k < rwL.length := hlt
              have e0 : wr.cell? ⟨gu, k, none⟩ = some (.int .u64 (rwL[k] : Int)) := by
                rw [HUK.out.cell]
                rcases k with _ | _ | _ | _ | _ | _ | _ | k
                all_goals first | rfl | omega
              have hlb := HUK.out.lt
              have hx : rwL[k] < 18446744073709551616 := by
                have hxx : ∀ x ∈ rwL, x < 18446744073709551616 := by decide
                exact hxx _ (List.getElem_mem hkl)
              have HPN := Lib.hid (putNum_nat (str (numsB (rwL.take k))) rwL[k] wr hx (by have := raw_len k; omega))
              have HNX := Lib.hid (raw_next k hkl)
              obtain ⟨x, hxe⟩ : ∃ z, rwL[k] = z := ⟨_, rfl⟩
              rw [hxe] at e0 hx HPN HNX
              unfold okPutNum at HPN
              rw [HNX.out] at HPN
              obtain ⟨S1, hS1⟩ : ∃ z, str (numsB (rwL.take k)) = z := ⟨_, rfl⟩
              rw [hS1] at HPN ⊢
              clear hxe hS1 HNX hkl
              go_wp2_with fail
              refine HPN.out.mono ?_
              rintro e V1 ⟨rfl, c1'⟩
              have HB1 := Lib.hid (below_step HBR.out c1')
              clear HPN c1' e0 hlb hx
              go_wp2_with fail
              go_roundw
              case rel => exact ⟨k + 1, by omega, rfl, by go_num, HB1.out⟩
              case measure => simp [intOf]; omega
            · have hki : ¬ (k : Int) < 7 := by omega
              obtain rfl : k = 7 := by omega
              rw [show ((7 : Nat) : Int) = 7 from rfl]
              have HB61 := Lib.hid (below_step HB60.out HBR.out)
              replace HK := Lib.hid (HK.out.below HBR.out)
              replace HPG := Lib.hid (HPG.out.below HBR.out)
              clear HU HUK HBR HB60
              obtain ⟨W61, rfl⟩ : ∃ z : World, z = wr := ⟨_, rfl⟩
              rw [show str (numsB (rwL.take 7)) = str rwB from rfl]
              have HRB : Hid (bl (str rwB) = rwB) := bl_str rwB
              have hrz : (str rwB).size = 11 := by rw [str_size]; exact kn_rlen
              obtain ⟨R, hR⟩ : ∃ z, str rwB = z := ⟨_, rfl⟩
              rw [hR] at HRB hrz ⊢
              clear hR
              obtain ⟨tl, htle⟩ : ∃ z, T.size = z := ⟨_, rfl⟩
              have HTL := Lib.hid htle
              obtain ⟨tl1, htl1⟩ : ∃ z, T.size - 1 = z := ⟨_, rfl⟩
              have HTL1 := Lib.hid htl1
              rw [htl1, htle] at htl
              have htn : (tl : Int) - 1 = (tl1 : Int) := by omega
              have htm : (tl1 : Int) ≤ (tl : Int) := by omega
              have htw : IntKind.i64.wrap (tl1 : Int) = (tl1 : Int) := IntWalk.i64_in _ (by omega)
              have htx : tl ≤ 9223372036854775806 := by omega
              have hty : 1 + tl ≤ 9223372036854775807 := by omega
              obtain ⟨R1, hR1⟩ : ∃ z, R ++ ⟨#[0]⟩ = z := ⟨_, rfl⟩
              obtain ⟨Z1, hZ1⟩ : ∃ z, str (sealB (bl R1)) = z := ⟨_, rfl⟩
              obtain ⟨Z2, hZ2⟩ : ∃ z, str (sealB (bl (R.extract 0 9))) = z := ⟨_, rfl⟩
              obtain ⟨Z3, hZ3⟩ : ∃ z, str (sealB (bl ⟨#[]⟩)) = z := ⟨_, rfl⟩
              have HS1 : Hid (∀ W, Below W61.heap.size W61 W → Calls Tryd.prog 24 #[.string R1] W (okStr Z1 W)) := fun W hW => by
                rw [← hZ1]
                exact seal_any _ W (by rw [← hR1, ← bl_len, bl_app, List.length_append, bl_len, hrz]; decide) (HT.out.below (below_step HB61.out hW) HT.out.1)
              have HS2 : Hid (∀ W, Below W61.heap.size W61 W → Calls Tryd.prog 24 #[.string (R.extract 0 9)] W (okStr Z2 W)) := fun W hW => by
                rw [← hZ2]
                exact seal_any _ W (by rw [ex_upto, str_size, List.length_take]; omega) (HT.out.below (below_step HB61.out hW) HT.out.1)
              have HS3 : Hid (∀ W, Below W61.heap.size W61 W → Calls Tryd.prog 24 #[.string ⟨#[]⟩] W (okStr Z3 W)) := fun W hW => by
                rw [← hZ3]
                exact seal_any _ W (by decide) (HT.out.below (below_step HB61.out hW) HT.out.1)
              have HZ1 : Hid (bl Z1 = sealB (rwB ++ [0])) := by
                unfold Hid
                rw [← hZ1, bl_str, ← hR1, bl_app, HRB.out, bl_one0]
              have HZ2 : Hid (bl Z2 = sealB (rwB.take 9)) := by
                unfold Hid
                rw [← hZ2, bl_str, bl_upto, HRB.out]
              have HZ3 : Hid (bl Z3 = sealB []) := by
                unfold Hid
                rw [← hZ3, bl_str, bl_none0]
              have HR1E := Lib.hid hR1
              clear hZ1 hZ2 hZ3 hR1
              go_upto_region 34 with fail
              refine wp_region_inv (by kernel_rfl) [228, 229, 230, 231, 232, 233, 234, 235, 236, 237, 238, 239, 240, 241, 242, 243, 244, 245, 246, 247] (by kernel_rfl) (fun L1 vs W => Below W61.heap.size W61 W ∧ ∀ i, L1 i = true → KsG T R R1 Z1 Z2 Z3 tl tl1 i (vs i) W) ⟨(Below.refl _ _).drew, fun i hi => by cases hi⟩ ?_ ?_ ?_
              · intro i o L1 vs ρ W ho hli haft hρ hgd hI
                obtain ⟨hb0, hG⟩ := hI
                have hi20 : i < 20 := (Array.getElem?_eq_some_iff.1 ho).1
                have hc := hρ.const
                have hfn := hρ.fn
                have next : ∀ v W', Below W.heap.size W W' → KsG T R R1 Z1 Z2 Z3 tl tl1 i v W' → Below W61.heap.size W61 W' ∧ ∀ j, updB L1 i j = true → KsG T R R1 Z1 Z2 Z3 tl tl1 j (updV vs i v j) W' := fun v W' h1 h2 => by
                  refine ⟨below_step hb0 h1, fun j hj => ?_⟩
                  by_cases hji : j = i
                  · subst hji
                    simpa [updV] using h2
                  · simp only [updB, if_neg hji] at hj
                    by_cases hj20 : j < 20
                    · simpa [updV, hji] using KsG_mono T R R1 Z1 Z2 Z3 tl tl1 j _ W W' hj20 (hG j hj) h1
                    · match j, hj20 with
                      | j + 20, _ => exact trivial
                rcases i with _ | _ | _ | _ | _ | _ | _ | _ | _ | _ | _ | _ | _ | _ | _ | _ | _ | _ | _ | _ | i
                all_goals (first | omega | skip)
                all_goals simp only [List.getElem?_toArray, List.getElem?_cons_zero, List.getElem?_cons_succ, Option.some.injEq] at ho
                all_goals subst ho
                · have o19 : ρ (.tmp 19) = .string T := hρ.out 19 rfl
                  exact stepTo_value (w' := W) (by unfold execOp; simp only [o19, hc]; go_simp) (next _ _ (Below.refl _ _) rfl)
                · have o19 : ρ (.tmp 19) = .string T := hρ.out 19 rfl
                  exact stepTo_value (w' := W) (by unfold execOp; simp only [o19, hc]; go_simp) (next _ _ (Below.refl _ _) rfl)
                · have s229 : ρ (.tmp 229) = .string T := (hρ.at_ 229 1 rfl).trans (hG 1 (haft 1 (by kernel_rfl)))
                  have hTL := HTL.out
                  exact stepTo_value (w' := W) (by unfold execOp; simp only [s229, hc]; go_simp) (next _ _ (Below.refl _ _) rfl)
                · have s230 : ρ (.tmp 230) = .int .i64 (tl : Int) := (hρ.at_ 230 2 rfl).trans (hG 2 (haft 2 (by kernel_rfl)))
                  exact stepTo_value (w' := W) (by unfold execOp; simp only [s230, hc]; go_simp) (next _ _ (Below.refl _ _) rfl)
                · have s228 : ρ (.tmp 228) = .string T := (hρ.at_ 228 0 rfl).trans (hG 0 (haft 0 (by kernel_rfl)))
                  have s231 : ρ (.tmp 231) = .int .i64 (tl1 : Int) := (hρ.at_ 231 3 rfl).trans (hG 3 (haft 3 (by kernel_rfl)))
                  have hTL := HTL.out
                  exact stepTo_value (w' := W) (by unfold execOp; simp only [s228, s231, hc]; go_simp) (next _ _ (Below.refl _ _) rfl)
                · have o19 : ρ (.tmp 19) = .string T := hρ.out 19 rfl
                  exact stepTo_value (w' := W) (by unfold execOp; simp only [o19, hc]; go_simp) (next _ _ (Below.refl _ _) rfl)
                · have s233 : ρ (.tmp 233) = .string T := (hρ.at_ 233 5 rfl).trans (hG 5 (haft 5 (by kernel_rfl)))
                  exact stepTo_value (w' := W) (by unfold execOp; simp only [s233, hc]; go_simp) (next _ _ (Below.refl _ _) rfl)
                · have o19 : ρ (.tmp 19) = .string T := hρ.out 19 rfl
                  exact stepTo_value (w' := W) (by unfold execOp; simp only [o19, hc]; go_simp) (next _ _ (Below.refl _ _) rfl)
                · have s235 : ρ (.tmp 235) = .string T := (hρ.at_ 235 7 rfl).trans (hG 7 (haft 7 (by kernel_rfl)))
                  exact stepTo_value (w' := W) (by unfold execOp; simp only [s235, hc]; go_simp) (next _ _ (Below.refl _ _) rfl)
                · have o21 : ρ (.tmp 21) = .string R := hρ.out 21 rfl
                  exact stepTo_value (w' := W) (by unfold execOp; simp only [o21, hc]; go_simp) (next _ _ (Below.refl _ _) rfl)
                · have s237 : ρ (.tmp 237) = .string R := (hρ.at_ 237 9 rfl).trans (hG 9 (haft 9 (by kernel_rfl)))
                  have hR11 := HR1E.out
                  exact stepTo_value (w' := W) (by unfold execOp; simp only [s237, hc]; go_simp) (next _ _ (Below.refl _ _) rfl)
                · have s238 : ρ (.tmp 238) = .string R1 := (hρ.at_ 238 10 rfl).trans (hG 10 (haft 10 (by kernel_rfl)))
                  refine stepTo_enter (f := 24) (args := #[.string R1]) (w' := W) (by unfold execOp; simp only [s238, hfn, hc]; go_simp) ((HS1.out W hb0).mono ?_)
                  rintro x W' ⟨rfl, hb'⟩
                  exact ⟨_, rfl, next _ _ hb' rfl⟩
                · have o21 : ρ (.tmp 21) = .string R := hρ.out 21 rfl
                  exact stepTo_value (w' := W) (by unfold execOp; simp only [o21, hc]; go_simp) (next _ _ (Below.refl _ _) rfl)
                · have s240 : ρ (.tmp 240) = .string R := (hρ.at_ 240 12 rfl).trans (hG 12 (haft 12 (by kernel_rfl)))
                  exact stepTo_value (w' := W) (by unfold execOp; simp only [s240, hc]; go_simp) (next _ _ (Below.refl _ _) rfl)
                · have s241 : ρ (.tmp 241) = .string (R.extract 0 9) := (hρ.at_ 241 13 rfl).trans (hG 13 (haft 13 (by kernel_rfl)))
                  refine stepTo_enter (f := 24) (args := #[.string (R.extract 0 9)]) (w' := W) (by unfold execOp; simp only [s241, hfn, hc]; go_simp) ((HS2.out W hb0).mono ?_)
                  rintro x W' ⟨rfl, hb'⟩
                  exact ⟨_, rfl, next _ _ hb' rfl⟩
                · refine stepTo_enter (f := 24) (args := #[.string ⟨#[]⟩]) (w' := W) (by unfold execOp; simp only [hfn, hc]; go_simp) ((HS3.out W hb0).mono ?_)
                  rintro x W' ⟨rfl, hb'⟩
                  exact ⟨_, rfl, next _ _ hb' rfl⟩
                · have o21 : ρ (.tmp 21) = .string R := hρ.out 21 rfl
                  exact stepTo_value (w' := W) (by unfold execOp; simp only [o21, hc]; go_simp) (next _ _ (Below.refl _ _) rfl)
                · have s232 : ρ (.tmp 232) = .string (T.extract 0 tl1) := (hρ.at_ 232 4 rfl).trans (hG 4 (haft 4 (by kernel_rfl)))
                  have s234 : ρ (.tmp 234) = .string (T ++ ⟨#[120]⟩) := (hρ.at_ 234 6 rfl).trans (hG 6 (haft 6 (by kernel_rfl)))
                  have s236 : ρ (.tmp 236) = .string ((⟨#[120]⟩ : ByteArray) ++ T) := (hρ.at_ 236 8 rfl).trans (hG 8 (haft 8 (by kernel_rfl)))
                  have s239 : ρ (.tmp 239) = .string Z1 := (hρ.at_ 239 11 rfl).trans (hG 11 (haft 11 (by kernel_rfl)))
                  have s242 : ρ (.tmp 242) = .string Z2 := (hρ.at_ 242 14 rfl).trans (hG 14 (haft 14 (by kernel_rfl)))
                  have s243 : ρ (.tmp 243) = .string Z3 := (hρ.at_ 243 15 rfl).trans (hG 15 (haft 15 (by kernel_rfl)))
                  have s244 : ρ (.tmp 244) = .string R := (hρ.at_ 244 16 rfl).trans (hG 16 (haft 16 (by kernel_rfl)))
                  exact stepTo_value (v := .slice (some ⟨W.heap.size, 0, none⟩) 8 8) (w' := W.alloc (.cells #[.string ⟨#[]⟩, .string (T.extract 0 tl1), .string (T ++ ⟨#[120]⟩), .string ((⟨#[120]⟩ : ByteArray) ++ T), .string Z1, .string Z2, .string Z3, .string R] 9)) (by unfold execOp; simp only [s232, s234, s236, s239, s242, s243, s244, hc]; go_simp) (next _ _ ((Below.refl _ W).alloc (Nat.le_refl _) _) ⟨W.heap.size, rfl, Blk.new _ _ _⟩)
                · obtain ⟨gx, hgx, _⟩ := hG 17 (haft 17 (by kernel_rfl))
                  have s245 : ρ (.tmp 245) = .slice (some ⟨gx, 0, none⟩) 8 8 := (hρ.at_ 245 17 rfl).trans hgx
                  exact stepTo_value (w' := W) (by unfold execOp; simp only [s245, hc]; go_simp) (next _ _ (Below.refl _ _) rfl)
                · exact stepTo_value (w' := W) (by unfold execOp; simp only [hc]; go_simp) (next _ _ (Below.refl _ _) rfl)
              · intro i o L1 vs W j want ho hli haft hgd
                exfalso
                have hi20 : i < 20 := (Array.getElem?_eq_some_iff.1 ho).1
                rcases i with _ | _ | _ | _ | _ | _ | _ | _ | _ | _ | _ | _ | _ | _ | _ | _ | _ | _ | _ | _ | i
                all_goals (first | omega | skip)
                all_goals simp only [List.getElem?_toArray, List.getElem?_cons_zero, List.getElem?_cons_succ, Option.some.injEq] at ho
                all_goals subst ho
                all_goals simp only [reduceCtorEq] at hgd
              intro vs W62 hI
              obtain ⟨hb, hG⟩ := hI
              obtain ⟨gw, g17, hbk⟩ : ∃ g, vs 17 = .slice (some ⟨g, 0, none⟩) 8 8 ∧ Blk W62 g 9 #[.string ⟨#[]⟩, .string (T.extract 0 tl1), .string (T ++ ⟨#[120]⟩), .string ((⟨#[120]⟩ : ByteArray) ++ T), .string Z1, .string Z2, .string Z3, .string R] := hG 17 (by kernel_rfl)
              have g18 : vs 18 = .int .i64 8 := hG 18 (by kernel_rfl)
              have g19 : vs 19 = .int .i64 0 := hG 19 (by kernel_rfl)
              simp only [putList, putSel, if_true]
              rw [g17, g18, g19]
              generalize vs 0 = y0
              generalize vs 1 = y1
              generalize vs 2 = y2
              generalize vs 3 = y3
              generalize vs 4 = y4
              generalize vs 5 = y5
              generalize vs 6 = y6
              generalize vs 7 = y7
              generalize vs 8 = y8
              generalize vs 9 = y9
              generalize vs 10 = y10
              generalize vs 11 = y11
              generalize vs 12 = y12
              generalize vs 13 = y13
              generalize vs 14 = y14
              generalize vs 15 = y15
              generalize vs 16 = y16
              clear g17 g18 g19 hG
              have HB62 := Lib.hid (below_step HB61.out hb)
              replace HK := Lib.hid (HK.out.below hb)
              replace HPG := Lib.hid (HPG.out.below hb)
              clear HB61 hb
              have HSK : Hid (∀ k, k < 8 → StrOk W62 gw k) := by
                have e1 : bl T = tB := HTB.out
                have e2 : bl R = rwB := HRB.out
                have e3 : tl1 = tB.length - 1 := by rw [← HTZ.out]; exact HTL1.out.symm
                intro k hk
                rcases k with _ | _ | _ | _ | _ | _ | _ | _ | k
                · exact ⟨_, by rw [hbk.cell]; rfl, by rw [bl_none0]; exact kS_mem.1⟩
                · exact ⟨_, by rw [hbk.cell]; rfl, by rw [bl_upto, e1, e3]; exact kS_mem.2.1⟩
                · exact ⟨_, by rw [hbk.cell]; rfl, by rw [bl_app, e1, bl_one120]; exact kS_mem.2.2.1⟩
                · exact ⟨_, by rw [hbk.cell]; rfl, by rw [bl_app, e1, bl_one120]; exact kS_mem.2.2.2.1⟩
                · exact ⟨_, by rw [hbk.cell]; rfl, by rw [HZ1.out]; exact kS_mem.2.2.2.2.1⟩
                · exact ⟨_, by rw [hbk.cell]; rfl, by rw [HZ2.out]; exact kS_mem.2.2.2.2.2.1⟩
                · exact ⟨_, by rw [hbk.cell]; rfl, by rw [HZ3.out]; exact kS_mem.2.2.2.2.2.2.1⟩
                · exact ⟨_, by rw [hbk.cell]; rfl, by rw [e2]; exact kS_mem.2.2.2.2.2.2.2⟩
                · omega
              have HLW : Hid (gw < W62.heap.size) := hbk.lt
              clear hbk HTB HTZ HTL HTL1 htl htle htl1 htn htm htw htx hty HZ1 HZ2 HZ3 HS1 HS2 HS3 HR1E
              go_wp2_with fail
              go_loopw [247] (fun i wr => KnR 8 W62 i wr) (fun i _ => 8 - (intOf i).toNat)
              case atStart => exact ⟨0, by omega, rfl, Below.refl _ _⟩
              case round =>
                obtain ⟨k, hk, rfl, hbr⟩ := hrel
                have HBR := Lib.hid hbr
                clear hbr
                by_cases hlt : k < 8
                · have hki : (k : Int) < 8 := by omega
                  obtain ⟨s, t0, hmem⟩ := HSK.out k hlt
                  have hbad := kS_bad _ hmem
                  have hlen := kS_len _ hmem
                  rw [bl_len] at hlen
                  have u0 := t0
                  rw [← HBR.out.cell (p := ⟨gw, k, none⟩) HLW.out] at u0
                  have hlb : gw < wr.heap.size := Nat.lt_of_lt_of_le HLW.out HBR.out.size
                  have HDE := Lib.hid (dec_any s wr (by omega) (HT.out.below (below_step HB62.out HBR.out) HT.out.1))
                  rw [hbad] at HDE
                  clear hmem hbad hlen t0
                  go_wp2_with fail
                  refine HDE.out.mono ?_
                  rintro e V2 ⟨A2, d2, rfl, _, _, c2'⟩
                  dsimp only
                  rw [show paC pa0 A2 d2 = #[.int .u64 0, .int .u64 0, .int .u64 0, .int .u64 0, .int .i64 0, .int .i64 0, .slice A2 0 d2] from rfl]
                  clear u0 hlb HDE
                  have HB2 := Lib.hid (below_step HBR.out c2')
                  clear c2'
                  have cb := (Below.refl V2.heap.size V2).alloc (Nat.le_refl _) (.cells #[.int .u64 0, .int .u64 0, .int .u64 0, .int .u64 0, .int .i64 0, .int .i64 0, .slice A2 0 d2] 27)
                  have kb := Blk.new V2 27 #[.int .u64 0, .int .u64 0, .int .u64 0, .int .u64 0, .int .i64 0, .int .i64 0, .slice A2 0 d2]
                  obtain ⟨V3, hWn⟩ : ∃ z, V2.alloc (.cells #[.int .u64 0, .int .u64 0, .int .u64 0, .int .u64 0, .int .i64 0, .int .i64 0, .slice A2 0 d2] 27) = z := ⟨_, rfl⟩
                  rw [hWn] at cb kb
                  obtain ⟨g11, hg⟩ : ∃ z, V2.heap.size = z := ⟨_, rfl⟩
                  rw [hg] at kb
                  have HWn := Lib.hid hWn
                  have HGn := Lib.hid hg
                  clear hWn hg
                  go_upto_region 38 with fail
                  try rw [HWn.out]
                  try rw [HGn.out]
                  clear HWn HGn
                  have HB3 := Lib.hid (below_step HB2.out cb)
                  clear cb kb HB2
                  go_wp2_with fail
                  go_roundw
                  case rel => exact ⟨k + 1, by omega, by go_num, HB3.out⟩
                  case measure => simp [intOf]; omega
                · have hki : ¬ (k : Int) < 8 := by omega
                  have HB63 := Lib.hid (below_step HB62.out HBR.out)
                  replace HK := Lib.hid (HK.out.below HBR.out)
                  replace HPG := Lib.hid (HPG.out.below HBR.out)
                  clear HSK HLW HBR HB62
                  obtain ⟨W63, rfl⟩ : ∃ z : World, z = wr := ⟨_, rfl⟩
                  have HSE := Lib.hid (seal_any R W63 (by omega) (HT.out.below HB63.out HT.out.1))
                  go_wp2_with fail
                  refine HSE.out.mono ?_
                  rintro e W64 ⟨rfl, hb⟩
                  clear HSE
                  have HB64 := Lib.hid (below_step HB63.out hb)
                  replace HK := Lib.hid (HK.out.below hb)
                  replace HPG := Lib.hid (HPG.out.below hb)
                  clear HB63 hb
                  have hnz : (str (sealB (bl R))).size ≤ 1000 := by rw [str_size, sealB_length, bl_len, hrz]; decide
                  have HDE := Lib.hid (dec_any (str (sealB (bl R))) W64 (by omega) (HT.out.below HB64.out HT.out.1))
                  rw [bl_str, HRB.out, show sealB rwB = nB from by unfold nB; rw [← kn_rw, List.append_nil], kn_ndec] at HDE
                  obtain ⟨RZZ, hRZZ⟩ : ∃ z, str (sealB (bl R)) = z := ⟨_, rfl⟩
                  rw [show str nB = RZZ from by rw [← hRZZ, HRB.out, show sealB rwB = nB from by unfold nB; rw [← kn_rw, List.append_nil]]] at HDE
                  rw [hRZZ]
                  clear hnz hRZZ hrz HRB
                  go_wp2_with fail
                  refine HDE.out.mono ?_
                  rintro e W65 ⟨A1', d1', rfl, _, _, hb⟩
                  dsimp only
                  rw [show paC nP A1' d1' = #[.int .u64 1, .int .u64 1, .int .u64 1, .int .u64 2, .int .i64 0, .int .i64 0, .slice A1' 0 d1'] from rfl]
                  clear HDE
                  have HB65 := Lib.hid (below_step HB64.out hb)
                  replace HK := Lib.hid (HK.out.below hb)
                  replace HPG := Lib.hid (HPG.out.below hb)
                  clear HB64 hb
                  have cb := (Below.refl W65.heap.size W65).alloc (Nat.le_refl _) (.cells #[.int .u64 1, .int .u64 1, .int .u64 1, .int .u64 2, .int .i64 0, .int .i64 0, .slice A1' 0 d1'] 27)
                  have kb := Blk.new W65 27 #[.int .u64 1, .int .u64 1, .int .u64 1, .int .u64 2, .int .i64 0, .int .i64 0, .slice A1' 0 d1']
                  obtain ⟨W66, hWn⟩ : ∃ z, W65.alloc (.cells #[.int .u64 1, .int .u64 1, .int .u64 1, .int .u64 2, .int .i64 0, .int .i64 0, .slice A1' 0 d1'] 27) = z := ⟨_, rfl⟩
                  rw [hWn] at cb kb
                  obtain ⟨gz, hg⟩ : ∃ z, W65.heap.size = z := ⟨_, rfl⟩
                  rw [hg] at kb
                  have HWn := Lib.hid hWn
                  have HGn := Lib.hid hg
                  clear hWn hg
                  clear kb
                  have HB66 := Lib.hid (below_step HB65.out cb)
                  replace HK := Lib.hid (HK.out.below cb)
                  replace HPG := Lib.hid (HPG.out.below cb)
                  clear HB65 cb
                  go_upto_region 42 with fail
                  try rw [HWn.out]
                  try rw [HGn.out]
                  clear HWn HGn
                  have HSH := Lib.hid (short_any AG CG gdP W66 HPG.out (by decide) (by decide))
                  rw [gd_short, show paC gdP AG CG = #[.int .u64 1, .int .u64 1, .int .u64 2, .int .u64 1, .int .i64 1, .int .i64 3, .slice AG 2 CG] from rfl] at HSH
                  have gh := HK.out
                  rw [show paC gdP AG CG = #[.int .u64 1, .int .u64 1, .int .u64 2, .int .u64 1, .int .i64 1, .int .i64 3, .slice AG 2 CG] from rfl] at gh
                  have ah := gh
                  clear gh
                  have a0 := ah.cell 0
                  have a1 := ah.cell 1
                  have a2 := ah.cell 2
                  have a3 := ah.cell 3
                  have a4 := ah.cell 4
                  have a5 := ah.cell 5
                  have a6 := ah.cell 6
                  have al := ah.lt
                  simp only [paC, List.getElem?_toArray, List.getElem?_cons_zero, List.getElem?_cons_succ] at a0 a1 a2 a3 a4 a5 a6
                  clear ah
                  go_wp2_with fail
                  refine HSH.out.mono ?_
                  rintro e W67 ⟨AO, cO, rfl, hpo, ho, hb⟩
                  clear HSH
                  clear a0 a1 a2 a3 a4 a5 a6 al
                  obtain ⟨jo, cO', hv, hjo, ⟨cso, hcso⟩, hcell⟩ := och_open ho (by decide)
                  rw [show gdP.chs.length = 2 from rfl] at hv
                  simp only [Value.slice.injEq, true_and] at hv
                  obtain ⟨rfl, rfl⟩ := hv
                  rw [show paC gdP (some ⟨jo, 0, none⟩) cO = #[.int .u64 1, .int .u64 1, .int .u64 2, .int .u64 1, .int .i64 1, .int .i64 3, .slice (some ⟨jo, 0, none⟩) 2 cO] from rfl]
                  have HNJ : Hid (∀ b o, AG = some ⟨b, o, none⟩ → b ≠ jo) := fun b o e => by
                    obtain ⟨b', o', e', hlt, _⟩ := HPG.out.chs 0 (by decide)
                    rw [e] at e'
                    cases e'
                    omega
                  have HJW : Hid (w.heap.size ≤ jo) := Nat.le_trans HB66.out.size hjo
                  have HB67 := Lib.hid (below_step HB66.out hb)
                  replace HK := Lib.hid (HK.out.below hb)
                  replace HPG := Lib.hid (HPG.out.below hb)
                  clear HB66 hb
                  have HO : Hid (OChs W67 0 (.slice (some ⟨jo, 0, none⟩) 2 cO) gdP.chs) := row_base ho (Nat.zero_le _)
                  clear hpo ho hcell hcso hjo
                  have cb := (Below.refl W67.heap.size W67).alloc (Nat.le_refl _) (.cells #[.int .u64 1, .int .u64 1, .int .u64 2, .int .u64 1, .int .i64 1, .int .i64 3, .slice (some ⟨jo, 0, none⟩) 2 cO] 27)
                  have kb := Blk.new W67 27 #[.int .u64 1, .int .u64 1, .int .u64 2, .int .u64 1, .int .i64 1, .int .i64 3, .slice (some ⟨jo, 0, none⟩) 2 cO]
                  obtain ⟨W68, hWn⟩ : ∃ z, W67.alloc (.cells #[.int .u64 1, .int .u64 1, .int .u64 2, .int .u64 1, .int .i64 1, .int .i64 3, .slice (some ⟨jo, 0, none⟩) 2 cO] 27) = z := ⟨_, rfl⟩
                  rw [hWn] at cb kb
                  obtain ⟨gO, hg⟩ : ∃ z, W67.heap.size = z := ⟨_, rfl⟩
                  rw [hg] at kb
                  have HWn := Lib.hid hWn
                  have HGn := Lib.hid hg
                  clear hWn hg
                  replace HO := Lib.hid (row_of_block HO.out (fun j hj => cb.block j (HO.out.lt j hj).2))
                  have HB68 := Lib.hid (below_step HB67.out cb)
                  replace HK := Lib.hid (HK.out.below cb)
                  replace HPG := Lib.hid (HPG.out.below cb)
                  clear HB67 cb
                  go_upto_region 43 with fail
                  try rw [HWn.out]
                  try rw [HGn.out]
                  clear HWn HGn
                  have HGO := Lib.hid kb
                  clear kb
                  have HPO : Hid (∀ W, Below W68.heap.size W68 W → (W.cell? ⟨jo, 1, none⟩ = some (.string (str (rep 98 32))) ∧ W.cell? ⟨jo, 3, none⟩ = some (.string (str (rep 99 32))) ∧ W.frozen? ⟨jo, 3, none⟩ = false ∧ jo < W.heap.size) ∧ OChs W 0 (.slice (some ⟨jo, 0, none⟩) 2 cO) gdP.chs) := fun W hW => by
                    have h0 : OChs W 0 (.slice (some ⟨jo, 0, none⟩) 2 cO) gdP.chs := row_of_block HO.out (fun j hj => hW.block j (HO.out.lt j hj).2)
                    obtain ⟨j', c', hv, _, ⟨cs, hcs⟩, hcell⟩ := och_open h0 (by decide)
                    simp only [Value.slice.injEq, Option.some.injEq, Addr.mk.injEq, and_true] at hv
                    obtain ⟨rfl, _, _⟩ := hv
                    exact ⟨⟨(hcell 1 _ rfl).1, (hcell 3 _ rfl).1, (hcell 3 _ rfl).2, hcs.lt⟩, h0⟩
                  obtain ⟨D, hD⟩ : ∃ z, str (rep 98 32) = z := ⟨_, rfl⟩
                  rw [hD] at HPO
                  have HDD := Lib.hid hD
                  clear hD HO
                  refine wp_region_invN (by kernel_rfl) [267, 268, 269, 270, 271, 272, 273, 274, 275, 287] (by kernel_rfl) (fun L1 vs W => OtI W68 gO jo cO D L1 vs W) ⟨fun i hi => (by cases hi), fun h => (by cases h), fun h => (by cases h), fun _ => (Below.refl _ _).drew, fun h => (by cases h)⟩ ?_ ?_ ?_
                  · intro i o L1 vs ρ W ho hli haft hρ hgd hI
                    have hi10 : i < 10 := (Array.getElem?_eq_some_iff.1 ho).1
                    have hc := hρ.const
                    have f9 : L1 9 = false := by
                      cases hx : L1 9 with
                      | false => rfl
                      | true =>
                        by_cases hi9 : i = 9
                        · subst hi9; rw [hli] at hx; cases hx
                        · have := hI.a hx i (by omega); rw [hli] at this; cases this
                    have hBW := hI.n f9
                    have hg0 := HGO.out.below hBW
                    have q6 := hg0.cell 6
                    have lq := hg0.lt
                    simp only [List.getElem?_toArray, List.getElem?_cons_zero, List.getElem?_cons_succ] at q6
                    obtain ⟨⟨r1, r3, rf, rl⟩, _⟩ := HPO.out W hBW
                    have next : ∀ v, i < 9 → OtG gO jo cO D i v → (i = 8 → L1 7 = true) → OtI W68 gO jo cO D (updB L1 i) (updV vs i v) W := fun v h1 h2 h3 => hI.val i v h1 hli h2 h3
                    rcases i with _ | _ | _ | _ | _ | _ | _ | _ | _ | _ | i
                    all_goals (first | omega | skip)
                    all_goals simp only [List.getElem?_toArray, List.getElem?_cons_zero, List.getElem?_cons_succ, Option.some.injEq] at ho
                    all_goals subst ho
                    · have o30 : ρ (.tmp 30) = .pointer (some ⟨gO, 0, none⟩) := hρ.out 30 rfl
                      exact stepToS_value (w' := W) (by unfold execOp; simp only [o30, hc]; go_simp) (next _ (by omega) rfl (fun h => by omega))
                    · have s267 : ρ (.tmp 267) = .pointer (some ⟨gO, 6, none⟩) := (hρ.at_ 267 0 rfl).trans (hI.g 0 (haft 0 (by kernel_rfl)))
                      exact stepToS_value (w' := W) (by unfold execOp; simp only [s267, hc]; go_simp) (next _ (by omega) rfl (fun h => by omega))
                    · have o30 : ρ (.tmp 30) = .pointer (some ⟨gO, 0, none⟩) := hρ.out 30 rfl
                      exact stepToS_value (w' := W) (by unfold execOp; simp only [o30, hc]; go_simp) (next _ (by omega) rfl (fun h => by omega))
                    · have s269 : ρ (.tmp 269) = .pointer (some ⟨gO, 6, none⟩) := (hρ.at_ 269 2 rfl).trans (hI.g 2 (haft 2 (by kernel_rfl)))
                      exact stepToS_value (w' := W) (by unfold execOp; simp only [s269, hc]; go_simp) (next _ (by omega) rfl (fun h => by omega))
                    · have s270 : ρ (.tmp 270) = .slice (some ⟨jo, 0, none⟩) 2 cO := (hρ.at_ 270 3 rfl).trans (hI.g 3 (haft 3 (by kernel_rfl)))
                      exact stepToS_value (w' := W) (by unfold execOp; simp only [s270, hc]; go_simp) (next _ (by omega) rfl (fun h => by omega))
                    · have s271 : ρ (.tmp 271) = .pointer (some ⟨jo, 0, none⟩) := (hρ.at_ 271 4 rfl).trans (hI.g 4 (haft 4 (by kernel_rfl)))
                      exact stepToS_value (w' := W) (by unfold execOp; simp only [s271, hc]; go_simp) (next _ (by omega) rfl (fun h => by omega))
                    · have s272 : ρ (.tmp 272) = .pointer (some ⟨jo, 1, none⟩) := (hρ.at_ 272 5 rfl).trans (hI.g 5 (haft 5 (by kernel_rfl)))
                      exact stepToS_value (w' := W) (by unfold execOp; simp only [s272, hc]; go_simp) (next _ (by omega) rfl (fun h => by omega))
                    · have s268 : ρ (.tmp 268) = .slice (some ⟨jo, 0, none⟩) 2 cO := (hρ.at_ 268 1 rfl).trans (hI.g 1 (haft 1 (by kernel_rfl)))
                      exact stepToS_value (w' := W) (by unfold execOp; simp only [s268, hc]; go_simp) (next _ (by omega) rfl (fun h => by omega))
                    · have s274 : ρ (.tmp 274) = .pointer (some ⟨jo, 2, none⟩) := (hρ.at_ 274 7 rfl).trans (hI.g 7 (haft 7 (by kernel_rfl)))
                      exact stepToS_value (w' := W) (by unfold execOp; simp only [s274, hc]; go_simp) (next _ (by omega) rfl (fun _ => haft 7 (by kernel_rfl)))
                    · have s275 : ρ (.tmp 275) = .pointer (some ⟨jo, 3, none⟩) := (hρ.at_ 275 8 rfl).trans (hI.g 8 (haft 8 (by kernel_rfl)))
                      have s273 : ρ (.tmp 273) = .string D := (hρ.at_ 273 6 rfl).trans (hI.g 6 (haft 6 (by kernel_rfl)))
                      have ha : ∀ i, i < 9 → L1 i = true := fun i hi => by
                        rcases i with _ | _ | _ | _ | _ | _ | _ | _ | _ | i
                        · exact haft 0 (by kernel_rfl)
                        · exact haft 1 (by kernel_rfl)
                        · exact haft 2 (by kernel_rfl)
                        · exact haft 3 (by kernel_rfl)
                        · exact haft 4 (by kernel_rfl)
                        · exact haft 5 (by kernel_rfl)
                        · exact haft 6 (by kernel_rfl)
                        · exact hI.o (haft 8 (by kernel_rfl))
                        · exact haft 8 (by kernel_rfl)
                        · omega
                      have n9 : ∀ j, j ≠ 9 → updB L1 9 j = L1 j := fun j hj => by simp only [updB]; rw [if_neg hj]
                      refine stepToS_skip (w' := W.setCell ⟨jo, 3, none⟩ (.string D)) (by unfold execOp; simp only [s275, s273]; go_simp) ⟨fun j hj => ?_, fun h8 => ?_, fun _ j hj => ?_, fun h => ?_, fun _ => ⟨W, hBW, rfl⟩⟩
                      · by_cases hj9 : j = 9
                        · subst hj9
                          exact trivial
                        · rw [n9 j hj9] at hj
                          simpa [updV, hj9] using hI.g j hj
                      · rw [n9 7 (by omega)]; exact ha 7 (by omega)
                      · rw [n9 j (by omega)]; exact ha j hj
                      · simp [updB] at h
                  · intro i o L1 vs W j want ho hli haft hgd
                    exfalso
                    have hi10 : i < 10 := (Array.getElem?_eq_some_iff.1 ho).1
                    rcases i with _ | _ | _ | _ | _ | _ | _ | _ | _ | _ | i
                    all_goals (first | omega | skip)
                    all_goals simp only [List.getElem?_toArray, List.getElem?_cons_zero, List.getElem?_cons_succ, Option.some.injEq] at ho
                    all_goals subst ho
                    all_goals simp only [reduceCtorEq] at hgd
                  intro vs WE hI
                  obtain ⟨W69, hb, hWE⟩ := hI.y (by kernel_rfl)
                  clear hI
                  simp only [putList, putSel, if_true]
                  generalize vs 0 = y0
                  generalize vs 1 = y1
                  generalize vs 2 = y2
                  generalize vs 3 = y3
                  generalize vs 4 = y4
                  generalize vs 5 = y5
                  generalize vs 6 = y6
                  generalize vs 7 = y7
                  generalize vs 8 = y8
                  generalize vs 9 = y9
                  simp only [Act.put, List.setIfInBounds_toArray, List.set_cons_succ, List.set_cons_zero, List.set_nil]
                  have hpo := HPO.out W69 hb
                  have HB69 := Lib.hid (below_step HB68.out hb)
                  replace HK := Lib.hid (HK.out.below hb)
                  replace HPG := Lib.hid (HPG.out.below hb)
                  replace HGO := Lib.hid (HGO.out.below hb)
                  clear HB68 hb
                  obtain ⟨⟨_, _, _, rl⟩, hrow⟩ := hpo
                  obtain ⟨jx, hz0, hvx, hz3, ⟨cs, hcs⟩, hz4⟩ := och_open hrow (by decide)
                  simp only [Value.slice.injEq, Option.some.injEq, Addr.mk.injEq, and_true] at hvx
                  obtain ⟨rfl, hz1, hz2⟩ := hvx
                  clear hz1 hz2 hz3 hz4
                  have hrow' : OChs WE 0 (.slice (some ⟨jo, 0, none⟩) 2 cO) oth := by
                    rw [hWE]
                    exact och_set hrow rfl (by rw [← HDD.out]; rfl)
                  have hkp : Kp 46 W69 WE := by rw [hWE]; exact Kp.of_set 3 _ hcs
                  have g1 : Blk WE g13 27 _ := hkp _ _ _ (by decide) HK.out
                  have g2 : Blk WE gO 27 _ := hkp _ _ _ (by decide) HGO.out
                  have hpg : PaL WE AG CG gdP := by rw [hWE]; exact pal_oth HPG.out HNJ.out
                  obtain ⟨hz5, hpo, hz6⟩ := pal_of (p := ⟨(1, 1), (2, 1), 1, 3, oth⟩) hrow' (by decide +kernel)
                  clear hz5 hz6
                  have HBE : Hid (Below w.heap.size w WE) := by unfold Hid; rw [hWE]; exact HB69.out.setCell (p := ⟨jo, 3, none⟩) HJW.out _
                  have HSM := Lib.hid (same_any AG (some ⟨jo, 0, none⟩) CG cO gdP ⟨(1, 1), (2, 1), 1, 3, oth⟩ WE hpg hpo (by decide) (by decide))
                  rw [kn_oth, show paC gdP AG CG = #[.int .u64 1, .int .u64 1, .int .u64 2, .int .u64 1, .int .i64 1, .int .i64 3, .slice AG 2 CG] from rfl, show paC ⟨(1, 1), (2, 1), 1, 3, oth⟩ (some ⟨jo, 0, none⟩) cO = #[.int .u64 1, .int .u64 1, .int .u64 2, .int .u64 1, .int .i64 1, .int .i64 3, .slice (some ⟨jo, 0, none⟩) 2 cO] from rfl] at HSM
                  rw [show paC gdP AG CG = #[.int .u64 1, .int .u64 1, .int .u64 2, .int .u64 1, .int .i64 1, .int .i64 3, .slice AG 2 CG] from rfl] at g1
                  clear hrow hrow' hkp hcs hWE hpg hpo rl
                  have ah := g1
                  have a0 := ah.cell 0
                  have a1 := ah.cell 1
                  have a2 := ah.cell 2
                  have a3 := ah.cell 3
                  have a4 := ah.cell 4
                  have a5 := ah.cell 5
                  have a6 := ah.cell 6
                  have al := ah.lt
                  simp only [paC, List.getElem?_toArray, List.getElem?_cons_zero, List.getElem?_cons_succ] at a0 a1 a2 a3 a4 a5 a6
                  clear ah
                  have bh := g2
                  have b0 := bh.cell 0
                  have b1 := bh.cell 1
                  have b2 := bh.cell 2
                  have b3 := bh.cell 3
                  have b4 := bh.cell 4
                  have b5 := bh.cell 5
                  have b6 := bh.cell 6
                  have bl := bh.lt
                  simp only [paC, List.getElem?_toArray, List.getElem?_cons_zero, List.getElem?_cons_succ] at b0 b1 b2 b3 b4 b5 b6
                  clear bh
                  clear HK HPG HGO HPO HB69
                  go_wp2_with fail
                  refine HSM.out.mono ?_
                  rintro e W70 ⟨rfl, hb⟩
                  have HB70 := Lib.hid (below_step HBE.out hb)
                  clear HSM hb HBE
                  clear a0 a1 a2 a3 a4 a5 a6 al
                  clear b0 b1 b2 b3 b4 b5 b6 bl
                  have HWK := Lib.hid (works_any W70 (HT.out.below HB70.out HT.out.1))
                  go_wp2_with fail
                  refine HWK.out.mono ?_
                  rintro e W71 ⟨rfl, hb⟩
                  have HB71 := Lib.hid (below_step HB70.out hb)
                  clear HWK hb
                  go_wp2_with fail
                  go_ret
                  exact ⟨rfl, HB71.out⟩
end Go.Proofs.YtdpbdkacngaemaaDoor.st


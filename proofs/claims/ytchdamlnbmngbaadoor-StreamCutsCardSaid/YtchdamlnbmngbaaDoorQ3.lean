/- StKe, StIt. -/
import Derived.Test.YtchdamlnbmngbaaDoorQ2
import Derived.RangeFuncNested
import Derived.RangeFuncBound
import Derived.RangeFuncCalls
import Derived.RangeFuncLeaves
import Derived.Shelf.Abstract
import Derived.Shelf.RegionOpen
import Derived.Shelf.Strings.BuilderK
import Derived.WalkKit
import Derived.OwnWalkIn
import Derived.TacticsInMore
import Derived.LoopNIn
import Derived.LoopIn
set_option linter.unusedVariables false
set_option linter.unusedSimpArgs false
/- What a round of the program's iterator keeps; how a number's bytes are handed on. -/
namespace Go.Proofs.YtchdamlnbmngbaaDoor.st
open Go Go.RowKit Go.Shelf Go.Proofs.YtchdamlnbmngbaaDoor.ib Go.Proofs.YtchdamlnbmngbaaDoor.wi Go.Proofs.YtchdamlnbmngbaaDoor.mt
open Go.Proofs.YtchdamlnbmngbaaDoor.ch (ChL OChs chVals infoCh)
set_option maxRecDepth 100000

attribute [local go_sem] Oper.semAt_some

/-- All below g0 lies still, and all blocks but the builder's own and bytes. -/
def KE (g0 nB : Nat) (W W' : World) : Prop :=
  Below g0 W W' ∧ ∀ (k : Nat) (c : Array Value) (t : TypeId) (fz : Nat × Nat), W.heap[k]? = some (.cells c t fz) → k ≠ nB → t ≠ 5 → W'.heap[k]? = some (.cells c t fz)
section
variable {g0 nB : Nat} {W W' W2 : World}
theorem KE.trans (h : KE g0 nB W W') (h2 : KE g0 nB W' W2) : KE g0 nB W W2 :=
  ⟨h.1.trans h2.1, fun k c t fz e n1 n2 => h2.2 k c t fz (h.2 k c t fz e n1 n2) n1 n2⟩
theorem KE.of_below (hg : g0 ≤ W.heap.size) (h : Below W.heap.size W W') : KE g0 nB W W' :=
  ⟨h.mono hg, fun k c t fz e _ _ => (h.block k (Array.getElem?_eq_some_iff.1 e).1).trans e⟩
theorem KE.of_kept (h : Below g0 W W') (h2 : Lib.OthersKept 5 (some nB) W W') : KE g0 nB W W' :=
  ⟨h, fun k c t fz e n1 n2 => h2 k _ e (fun e2 => n1 (Option.some.inj e2)) (fun c' fz' e3 => by
    simp only [Obj.cells.injEq] at e3
    exact n2 e3.2.1)⟩
theorem KE.putObj {l : Nat} {o o' : Obj} (hg : g0 ≤ l) (hl : W.heap[l]? = some o) (ho : o.isCells = false) : KE g0 nB W (W.putObj l o') := by
  refine ⟨(Below.refl g0 W).grown (grownBy_putObj' W l o') ?_ (fun k e => by cases e; exact hg), fun k c t fz e n1 n2 => ?_⟩
  · have := (Array.getElem?_eq_some_iff.1 hl).1
    omega
  · have hk : k ≠ l := by
      intro e2
      rw [e2, hl] at e
      cases e
      cases ho
    exact (World.putObj_heap_other hk).trans e
theorem KE.blk {k : Nat} {t : TypeId} {cs : Array Value} (h : KE g0 nB W W') (hb : Blk W k t cs) (h1 : k ≠ nB) (h2 : t ≠ 5) : Blk W' k t cs := h.2 k cs t (0, 0) hb h1 h2
end
theorem yieldAny {m : Nat} (m' : Nat) {l : Nat} {args : Array Value} {W : World} {R : Ending → World → Prop} (h : YieldAt Fence.wide m Tryd.prog l args W R) : YieldAt Fence.wide m' Tryd.prog l args W R := by
  obtain ⟨fn, tmps, assign, body, hy, hR⟩ := h
  exact ⟨fn, tmps, assign, body, hy, hR.1, fun c cs _ => hR.2 c cs (room_wide _)⟩
/-- How a round ends. -/
def YR (g0 nB : Nat) (J1 Jx : World → Prop) (W : World) (e : Ending) (W' : World) : Prop :=
  ∃ b : Bool, e = .returned (.bool b) ∧ ((b = true ∧ J1 W' ∧ KE g0 nB W W') ∨ (b = false ∧ Jx W'))
theorem YR.from {g0 nB : Nat} {J1 Jx : World → Prop} {W W1 : World} {e : Ending} {W' : World} (hk : KE g0 nB W W1) (h : YR g0 nB J1 Jx W1 e W') : YR g0 nB J1 Jx W e W' := by
  obtain ⟨b, h1, h2 | h2⟩ := h
  · exact ⟨b, h1, .inl ⟨h2.1, h2.2.1, hk.trans h2.2.2⟩⟩
  · exact ⟨b, h1, .inr h2⟩
theorem put0 (n : Nat) (w : World) (h1 : n < 18446744073709551616) : Calls Tryd.prog 37 #[.string { data := #[] }, .int .u64 (n : Int)] w (okStr (str (numB n)) w) := by
  refine (putNum_any { data := #[] } (n : Int) w (by omega) (by omega) (by decide)).mono ?_
  rintro e w' ⟨rfl, hb⟩
  exact ⟨by rw [Int.toNat_natCast]; rfl, hb⟩
theorem putT0 (t : ByteArray) (w : World) (ht : t.size ≤ 1000) : Calls Tryd.prog 66 #[.string { data := #[] }, .string t] w (okStr (str (textB (bl t))) w) := by
  refine (putText_any { data := #[] } t w (by decide) (by omega)).mono ?_
  rintro e w' ⟨rfl, hb⟩
  exact ⟨rfl, hb⟩

theorem putT1 (t : List UInt8) (w : World) (ht : t.length ≤ 1000) : Calls Tryd.prog 66 #[.string { data := #[] }, .string (str t)] w (okStr (str (textB t)) w) := by
  have h := putT0 (str t) w (by rw [str_size]; exact ht)
  rw [bl_str] at h
  exact h

set_option maxHeartbeats 6400000 in
theorem number_in {g0 nB Bx l : Nat} {Jn J1 Jx : World → Prop} {w : World} (n : Nat) (hn : n < 18446744073709551616) (hbx : Blk w Bx 45 #[.func (.yield l) #[] #[]]) (hg : g0 ≤ w.heap.size)
    (hJ : ∀ W, Below w.heap.size w W → Jn W)
    (hY : ∀ W, Jn W → YieldAt Fence.wide 0 Tryd.prog l #[.string (str (numB n))] W (YR g0 nB J1 Jx W)) :
    CallsIn Fence.wide 9 Tryd.prog 65 #[.int .u64 (n : Int), .pointer (some ⟨Bx, 0, none⟩)] w (YR g0 nB J1 Jx w) := by
  have hmx : Tryd.prog.follows .mixedOrders = true := by kernel_rfl
  have hc := hbx.cell 0
  have hlt := hbx.lt
  simp only [List.getElem?_toArray, List.getElem?_cons_zero] at hc
  have HBX := Lib.hid hbx
  have HJ := Lib.hid hJ
  have HY := Lib.hid hY
  clear hbx hJ hY
  refine callsIn_of_wp Tryd.func65 rfl trivial ?_ rfl
  simp only [Tryd.ntmps65, List.size_toArray, List.length_cons, List.length_nil, Nat.reduceAdd, Nat.reduceSub, Array.replicate_succ, Array.replicate_zero, List.push_toArray, List.append_toArray, List.nil_append, List.cons_append]
  gi_wp2
  gi_region_with_o (first
    | (refine ⟨trivial, ?_⟩; gi_at_call 37; refine (callsIn_wide.2 (put0 n _ hn)).mono ?_; rintro e W1 ⟨rfl, b0⟩;
       have b1 : Below w.heap.size w W1 := ((Below.refl _ w).drew).trans b0;
       clear b0;
       have hc1 := (HBX.out.below b1).cell 0;
       simp only [List.getElem?_toArray, List.getElem?_cons_zero] at hc1;
       obtain ⟨fn, tmps, assign, body, hy, hR⟩ := yieldAny 8 (HY.out W1 (HJ.out W1 b1));
       have HR := Lib.hid hR;
       have HK := Lib.hid (KE.of_below (nB := nB) hg b1);
       clear hR)
    | (refine RoundIn.mono HR.out ?_; intro e W2 h0; obtain ⟨b, rfl, h⟩ := YR.from HK.out h0; clear h0))
  all_goals (gi_wp2; refine bodyPost_ret (results_tmp rfl _ _ _) rfl ?_; exact ⟨b, rfl, h⟩)
end Go.Proofs.YtchdamlnbmngbaaDoor.st

/- The program's iterator over a part's pieces. -/
namespace Go.Proofs.YtchdamlnbmngbaaDoor.st
open Go Go.RowKit Go.Shelf Go.Proofs.YtchdamlnbmngbaaDoor.ib Go.Proofs.YtchdamlnbmngbaaDoor.wi Go.Proofs.YtchdamlnbmngbaaDoor.mt
open Go.Proofs.YtchdamlnbmngbaaDoor.ch (ChL OChs chVals infoCh)
set_option maxRecDepth 100000

attribute [local go_sem] Oper.semAt_some

/-- What the iterator holds. -/
structure It (w0 : World) (nB Bs Bx l : Nat) (p : Pa) (A : Option Addr) (c : Nat) (W : World) : Prop where
  part : Blk W Bs 30 (paC p A c)
  box : Blk W Bx 45 #[.func (.yield l) #[] #[]]
  below : Below w0.heap.size w0 W
  neS : Bs ≠ nB
  neX : Bx ≠ nB
  nlt : nB < W.heap.size
section
variable {w0 W W' : World} {nB Bs Bx l : Nat} {p : Pa} {A : Option Addr} {c : Nat}
theorem It.ke (h : It w0 nB Bs Bx l p A c W) (k : KE w0.heap.size nB W W') : It w0 nB Bs Bx l p A c W' :=
  ⟨k.blk h.part h.neS (by decide), k.blk h.box h.neX (by decide), h.below.trans k.1, h.neS, h.neX, Nat.lt_of_lt_of_le h.nlt k.1.size⟩
theorem It.grow (h : It w0 nB Bs Bx l p A c W) (k : Below W.heap.size W W') : It w0 nB Bs Bx l p A c W' := h.ke (KE.of_below h.below.size k)
theorem It.ke' (h : It w0 nB Bs Bx l p A c W) (k : Below W.heap.size W W') : KE w0.heap.size nB W W' := KE.of_below h.below.size k
end
def gsC (p : Pa) : Array Value := #[.int .u64 (p.base.1 : Int), .int .u64 (p.base.2 : Int), .int .u64 (p.target.1 : Int), .int .u64 (p.target.2 : Int)]
def nsC (p : Pa) : Array Value := #[.int .i64 p.fr, .int .i64 p.all, .int .i64 (p.chs.length : Int)]
/-- What has come, when so many are over. -/
structure Tks (p : Pa) (tk : Nat → List UInt8) : Prop where
  t0 : tk 0 = numB p.base.1
  t1 : tk 1 = numB p.base.2
  t2 : tk 2 = numB p.target.1
  t3 : tk 3 = numB p.target.2
  t4 : tk 4 = numB p.fr.toNat
  t5 : tk 5 = numB p.all.toNat
  t6 : tk 6 = numB p.chs.length
  tb : ∀ i (h : i < p.chs.length), tk (7 + 2 * i) = numB p.chs[i].1.toNat
  td : ∀ i (h : i < p.chs.length), tk (8 + 2 * i) = textB p.chs[i].2
def L1 (w0 : World) (nB Bs Bx l : Nat) (p : Pa) (A : Option Addr) (c Ag : Nat) (Jn : Nat → World → Prop) (i : Value) (wr : World) : Prop :=
  ∃ k : Nat, k ≤ 2 ∧ i = .int .i64 (k : Int) ∧ Jn (2 * k) wr ∧ It w0 nB Bs Bx l p A c wr ∧ Blk wr Ag 24 (gsC p)
def L2 (w0 : World) (nB Bs Bx l : Nat) (p : Pa) (A : Option Addr) (c Ag : Nat) (Jn : Nat → World → Prop) (i : Value) (wr : World) : Prop :=
  ∃ k : Nat, k ≤ 3 ∧ i = .int .i64 (k : Int) ∧ Jn (4 + k) wr ∧ It w0 nB Bs Bx l p A c wr ∧ Blk wr Ag 3 (nsC p)
def L3 (w0 : World) (nB Bs Bx l : Nat) (p : Pa) (A : Option Addr) (c : Nat) (Jn : Nat → World → Prop) (i : Value) (wr : World) : Prop :=
  ∃ k : Nat, k ≤ p.chs.length ∧ i = .int .i64 (k : Int) ∧ Jn (7 + 2 * k) wr ∧ It w0 nB Bs Bx l p A c wr
set_option maxHeartbeats 12800000 in
theorem pieces1_in {w0 w : World} {nB Bs l : Nat} {p : Pa} {A : Option Addr} {c : Nat} {Jn Jx : Nat → World → Prop} {tk : Nat → List UInt8} (nn : Nat) (hA : ChL w0 A p.chs) (hok : Ok p) (hgb : gdB p.base) (hgt : gdB p.target)
    (hb : Below w0.heap.size w0 w) (hp : Blk w Bs 30 (paC p A c)) (hns : Bs ≠ nB) (hnl : nB < w.heap.size) (htk : Tks p tk)
    (hJ : ∀ i W W', Jn i W → Below W.heap.size W W' → Jn i W')
    (hY : ∀ i, i < 7 + 2 * p.chs.length → ∀ W, Jn i W → YieldAt Fence.wide 0 Tryd.prog l #[.string (str (tk i))] W (YR w0.heap.size nB (Jn (i + 1)) (Jx (i + 1)) W)) (h0 : Jn 0 w) :
    CallsIn Fence.wide nn Tryd.prog 64 #[.func (.yield l) #[] #[], .pointer (some ⟨Bs, 0, none⟩)] w fun e W' => (∃ v, e = .returned v) ∧ (Jn (7 + 2 * p.chs.length) W' ∨ ∃ i, Jx i W') := by
  have a0 := hp.cell 0
  have a1 := hp.cell 1
  have a2 := hp.cell 2
  have a3 := hp.cell 3
  have hpl := hp.lt
  simp only [paC, List.getElem?_toArray, List.getElem?_cons_zero, List.getElem?_cons_succ] at a0 a1 a2 a3
  have HJ := Lib.hid hJ
  have HY := Lib.hid hY
  have HA := Lib.hid hA
  have HB := Lib.hid hb
  have HP := Lib.hid hp
  have HTK := Lib.hid htk
  have HOK := Lib.hid hok
  have HJ0 := Lib.hid h0
  clear hA hok hb hp htk hJ hY h0
  refine callsIn_of_wp Tryd.func64 rfl trivial ?_ rfl
  simp only [Tryd.ntmps64, List.size_toArray, List.length_cons, List.length_nil, Nat.reduceAdd, Nat.reduceSub, Array.replicate_succ, Array.replicate_zero, List.push_toArray, List.append_toArray, List.nil_append, List.cons_append]
  gi_wp2
  obtain ⟨W1, hW1⟩ : ∃ z, (w.alloc (.cells #[.func (.yield l) #[] #[]] 45)).alloc (.cells (gsC p) 24) = z := ⟨_, rfl⟩
  have b0 : Below w.heap.size w (w.alloc (.cells #[.func (.yield l) #[] #[]] 45)) := (Below.refl _ _).alloc (Nat.le_refl _) _
  have b1 : Below (w.alloc (.cells #[.func (.yield l) #[] #[]] 45)).heap.size (w.alloc (.cells #[.func (.yield l) #[] #[]] 45)) W1 := by rw [← hW1]; exact (Below.refl _ _).alloc (Nat.le_refl _) _
  have hgs : Blk W1 (w.heap.size + 1) 24 (gsC p) := by
    have := Blk.new (w.alloc (.cells #[.func (.yield l) #[] #[]] 45)) 24 (gsC p)
    rw [hW1, World.size_alloc] at this
    exact this
  have hbl : Below w.heap.size w W1 := below_step b0 b1
  have hit : It w0 nB Bs w.heap.size l p A c W1 := ⟨(HP.out.below b0).below b1, (Blk.new w 45 #[.func (.yield l) #[] #[]]).below b1, below_step HB.out hbl, hns, Nat.ne_of_gt hnl, Nat.lt_of_lt_of_le hnl hbl.size⟩
  have hj := HJ.out 0 w W1 HJ0.out hbl
  unfold gsC at hW1
  rw [hW1]
  clear hW1 b0 b1 hbl HB HP HJ0 a0 a1 a2 a3 hpl hns
  obtain ⟨q, hq⟩ : ∃ z, w.heap.size = z := ⟨_, rfl⟩
  have hq2 : nB < q := by rw [← hq]; exact hnl
  rw [hq] at hgs hit ⊢
  clear hq hnl
  have HG := Lib.hid hgs
  have HI := Lib.hid hit
  have HJ1 := Lib.hid hj
  clear hgs hit hj
  gi_loopw [17] (fun i wr => L1 w0 nB Bs q l p A c (q + 1) Jn i wr) (fun i _ => 2 - (intOf i).toNat)
  case atStart => exact ⟨0, by omega, rfl, HJ1.out, HI.out, HG.out⟩
  case round =>
    clear HG HI HJ1
    obtain ⟨k, hk, rfl, hj, hit, hgs⟩ := hrel
    have HIT := Lib.hid hit
    have HGS := Lib.hid hgs
    have HJ1 := Lib.hid hj
    have hcase : k = 0 ∨ k = 1 ∨ k = 2 := by omega
    have g0 := hgs.cell 0
    have g1 := hgs.cell 1
    have g2 := hgs.cell 2
    have g3 := hgs.cell 3
    have hgl := hgs.lt
    simp only [gsC, List.getElem?_toArray, List.getElem?_cons_zero, List.getElem?_cons_succ] at g0 g1 g2 g3
    clear hj hit hgs hk
    rcases hcase with rfl | rfl | rfl
    · gi_wp2
      obtain ⟨W5, hW5⟩ : ∃ z, wr.alloc (.cells #[.int .u64 (p.base.1 : Int), .int .u64 (p.base.2 : Int)] 24) = z := ⟨_, rfl⟩
      have b5 : Below wr.heap.size wr W5 := by rw [← hW5]; exact (Below.refl _ _).alloc (Nat.le_refl _) _
      have hgd : Blk W5 wr.heap.size 24 #[.int .u64 (p.base.1 : Int), .int .u64 (p.base.2 : Int)] := by rw [← hW5]; exact Blk.new _ _ _
      have HI5 := Lib.hid (HIT.out.grow b5)
      have HG5 := Lib.hid (HGS.out.below b5)
      have HJ5 := Lib.hid (HJ.out _ _ _ HJ1.out b5)
      have hne : wr.heap.size ≠ nB := Nat.ne_of_gt HIT.out.nlt
      have HGD := Lib.hid hgd
      rw [hW5]
      obtain ⟨gd, hgd'⟩ : ∃ z, wr.heap.size = z := ⟨_, rfl⟩
      rw [hgd'] at HGD hne ⊢
      clear hW5 b5 hgd g0 g1 g2 g3 hgl HJ1 HIT HGS hgd'
      refine ⟨trivial, fun h => (by cases h), ?_⟩
      have HN := Lib.hid (number_in (g0 := w0.heap.size) (nB := nB) (Bx := q) (l := l) (Jn := Jn (2 * 0)) (J1 := Jn (2 * 0 + 1)) (Jx := Jx (2 * 0 + 1)) (w := W5) p.base.1 hgb.1 HI5.out.box HI5.out.below.size (fun W h => HJ.out _ _ _ HJ5.out h) (by have h := HY.out (2 * 0) (by omega); rw [show tk (2 * 0) = _ from HTK.out.t0] at h; exact h))
      refine (callsIn_wide.2 ((callsIn_wide (n := 9)).1 HN.out)).mono ?_
      clear HN
      rintro e W6 ⟨b, rfl, h6⟩
      rcases h6 with ⟨rfl, hj6, hk6⟩ | ⟨rfl, hx6⟩
      · have HI6 := Lib.hid (HI5.out.ke hk6)
        have HG6 := Lib.hid (hk6.blk HG5.out (by omega) (by decide))
        have hgd6 := hk6.blk HGD.out hne (by decide)
        have HJ6 := Lib.hid hj6
        have d0 := hgd6.cell 0
        have d1 := hgd6.cell 1
        have dl := hgd6.lt
        simp only [List.getElem?_toArray, List.getElem?_cons_zero, List.getElem?_cons_succ] at d0 d1
        clear hk6 hgd6 hj6 HI5 HG5 HJ5 HGD
        gi_wp2
        refine ⟨trivial, fun h => (by cases h), ?_⟩
        have HN := Lib.hid (number_in (g0 := w0.heap.size) (nB := nB) (Bx := q) (l := l) (Jn := Jn (2 * 0 + 1)) (J1 := Jn (2 * 0 + 1 + 1)) (Jx := Jx (2 * 0 + 1 + 1)) (w := W6) p.base.2 hgb.2 HI6.out.box HI6.out.below.size (fun W h => HJ.out _ _ _ HJ6.out h) (by have h := HY.out (2 * 0 + 1) (by omega); rw [show tk (2 * 0 + 1) = _ from HTK.out.t1] at h; exact h))
        refine (callsIn_wide.2 ((callsIn_wide (n := 9)).1 HN.out)).mono ?_
        clear HN
        rintro e W7 ⟨b, rfl, h6⟩
        rcases h6 with ⟨rfl, hj7, hk7⟩ | ⟨rfl, hx7⟩
        · have HI7 := Lib.hid (HI6.out.ke hk7)
          have HG7 := Lib.hid (hk7.blk HG6.out (by omega) (by decide))
          have HJ7 := Lib.hid hj7
          clear hk7 hj7 HI6 HG6 HJ6 d0 d1 dl
          gi_wp2
          refine ⟨⟨1, by omega, by go_num, HJ7.out, HI7.out, HG7.out⟩, ?_⟩
          simp [intOf]
        · clear d0 d1 dl
          gi_wp2
          refine bodyPost_ret (results_none rfl _ _ _) rfl ?_
          exact ⟨⟨_, rfl⟩, .inr ⟨_, hx7⟩⟩
      · gi_wp2
        refine ⟨fun _ h => (by cases h), ?_⟩
        gi_wp2
        refine bodyPost_ret (results_none rfl _ _ _) rfl ?_
        exact ⟨⟨_, rfl⟩, .inr ⟨_, hx6⟩⟩
    · gi_wp2
      obtain ⟨W5, hW5⟩ : ∃ z, wr.alloc (.cells #[.int .u64 (p.target.1 : Int), .int .u64 (p.target.2 : Int)] 24) = z := ⟨_, rfl⟩
      have b5 : Below wr.heap.size wr W5 := by rw [← hW5]; exact (Below.refl _ _).alloc (Nat.le_refl _) _
      have hgd : Blk W5 wr.heap.size 24 #[.int .u64 (p.target.1 : Int), .int .u64 (p.target.2 : Int)] := by rw [← hW5]; exact Blk.new _ _ _
      have HI5 := Lib.hid (HIT.out.grow b5)
      have HG5 := Lib.hid (HGS.out.below b5)
      have HJ5 := Lib.hid (HJ.out _ _ _ HJ1.out b5)
      have hne : wr.heap.size ≠ nB := Nat.ne_of_gt HIT.out.nlt
      have HGD := Lib.hid hgd
      rw [hW5]
      obtain ⟨gd, hgd'⟩ : ∃ z, wr.heap.size = z := ⟨_, rfl⟩
      rw [hgd'] at HGD hne ⊢
      clear hW5 b5 hgd g0 g1 g2 g3 hgl HJ1 HIT HGS hgd'
      refine ⟨trivial, fun h => (by cases h), ?_⟩
      have HN := Lib.hid (number_in (g0 := w0.heap.size) (nB := nB) (Bx := q) (l := l) (Jn := Jn (2 * 1)) (J1 := Jn (2 * 1 + 1)) (Jx := Jx (2 * 1 + 1)) (w := W5) p.target.1 hgt.1 HI5.out.box HI5.out.below.size (fun W h => HJ.out _ _ _ HJ5.out h) (by have h := HY.out (2 * 1) (by omega); rw [show tk (2 * 1) = _ from HTK.out.t2] at h; exact h))
      refine (callsIn_wide.2 ((callsIn_wide (n := 9)).1 HN.out)).mono ?_
      clear HN
      rintro e W6 ⟨b, rfl, h6⟩
      rcases h6 with ⟨rfl, hj6, hk6⟩ | ⟨rfl, hx6⟩
      · have HI6 := Lib.hid (HI5.out.ke hk6)
        have HG6 := Lib.hid (hk6.blk HG5.out (by omega) (by decide))
        have hgd6 := hk6.blk HGD.out hne (by decide)
        have HJ6 := Lib.hid hj6
        have d0 := hgd6.cell 0
        have d1 := hgd6.cell 1
        have dl := hgd6.lt
        simp only [List.getElem?_toArray, List.getElem?_cons_zero, List.getElem?_cons_succ] at d0 d1
        clear hk6 hgd6 hj6 HI5 HG5 HJ5 HGD
        gi_wp2
        refine ⟨trivial, fun h => (by cases h), ?_⟩
        have HN := Lib.hid (number_in (g0 := w0.heap.size) (nB := nB) (Bx := q) (l := l) (Jn := Jn (2 * 1 + 1)) (J1 := Jn (2 * 1 + 1 + 1)) (Jx := Jx (2 * 1 + 1 + 1)) (w := W6) p.target.2 hgt.2 HI6.out.box HI6.out.below.size (fun W h => HJ.out _ _ _ HJ6.out h) (by have h := HY.out (2 * 1 + 1) (by omega); rw [show tk (2 * 1 + 1) = _ from HTK.out.t3] at h; exact h))
        refine (callsIn_wide.2 ((callsIn_wide (n := 9)).1 HN.out)).mono ?_
        clear HN
        rintro e W7 ⟨b, rfl, h6⟩
        rcases h6 with ⟨rfl, hj7, hk7⟩ | ⟨rfl, hx7⟩
        · have HI7 := Lib.hid (HI6.out.ke hk7)
          have HG7 := Lib.hid (hk7.blk HG6.out (by omega) (by decide))
          have HJ7 := Lib.hid hj7
          clear hk7 hj7 HI6 HG6 HJ6 d0 d1 dl
          gi_wp2
          refine ⟨⟨2, by omega, by go_num, HJ7.out, HI7.out, HG7.out⟩, ?_⟩
          simp [intOf]
        · clear d0 d1 dl
          gi_wp2
          refine bodyPost_ret (results_none rfl _ _ _) rfl ?_
          exact ⟨⟨_, rfl⟩, .inr ⟨_, hx7⟩⟩
      · gi_wp2
        refine ⟨fun _ h => (by cases h), ?_⟩
        gi_wp2
        refine bodyPost_ret (results_none rfl _ _ _) rfl ?_
        exact ⟨⟨_, rfl⟩, .inr ⟨_, hx6⟩⟩
    · have e2 : ((2 : Nat) : Int) = 2 := rfl
      rw [e2]
      clear e2
      have hit := HIT.out
      have a4 := hit.part.cell 4
      have a5 := hit.part.cell 5
      have a6 := hit.part.cell 6
      have hpl := hit.part.lt
      simp only [paC, List.getElem?_toArray, List.getElem?_cons_zero, List.getElem?_cons_succ] at a4 a5 a6
      clear hit g0 g1 g2 g3 hgl HGS
      gi_wp2
      obtain ⟨W1, hW1⟩ : ∃ z, wr.alloc (.cells (nsC p) 3) = z := ⟨_, rfl⟩
      have b1 : Below wr.heap.size wr W1 := by rw [← hW1]; exact (Below.refl _ _).alloc (Nat.le_refl _) _
      have hgs : Blk W1 wr.heap.size 3 (nsC p) := by rw [← hW1]; exact Blk.new _ _ _
      have HI := Lib.hid (HIT.out.grow b1)
      have HJ2 := Lib.hid (HJ.out _ _ _ HJ1.out b1)
      have HG := Lib.hid hgs
      have hq3 : nB < wr.heap.size := HIT.out.nlt
      unfold nsC at hW1
      rw [hW1]
      clear hW1 b1 hgs HIT HJ1 a4 a5 a6 hpl
      obtain ⟨r, hr⟩ : ∃ z, wr.heap.size = z := ⟨_, rfl⟩
      rw [hr] at HG hq3 ⊢
      clear hr
      gi_loopw [43] (fun i wr => L2 w0 nB Bs q l p A c r Jn i wr) (fun i _ => 3 - (intOf i).toNat)
      case atStart => exact ⟨0, by omega, rfl, HJ2.out, HI.out, HG.out⟩
      case round =>
        clear HG HI HJ2
        obtain ⟨k, hk, rfl, hj, hit, hgs⟩ := hrel
        have HIT := Lib.hid hit
        have HGS := Lib.hid hgs
        have HJ1 := Lib.hid hj
        have hcase : k = 0 ∨ k = 1 ∨ k = 2 ∨ k = 3 := by omega
        have g0 := hgs.cell 0
        have g1 := hgs.cell 1
        have g2 := hgs.cell 2
        have hgl := hgs.lt
        have f0 := HOK.out.fr
        have f1 := HOK.out.all
        have f2 := HOK.out.few
        simp only [nsC, List.getElem?_toArray, List.getElem?_cons_zero, List.getElem?_cons_succ] at g0 g1 g2
        clear hj hit hgs hk
        rcases hcase with rfl | rfl | rfl | rfl
        · gi_wp2
          refine ⟨trivial, fun h => (by cases h), ?_⟩
          have HN := Lib.hid (number_in (g0 := w0.heap.size) (nB := nB) (Bx := q) (l := l) (Jn := Jn (4 + 0)) (J1 := Jn (4 + 0 + 1)) (Jx := Jx (4 + 0 + 1)) (w := wr) p.fr.toNat (by omega) HIT.out.box HIT.out.below.size (fun W h => HJ.out _ _ _ HJ1.out h) (by have h := HY.out (4 + 0) (by omega); rw [show tk (4 + 0) = _ from HTK.out.t4] at h; exact h))
          rw [Int.toNat_of_nonneg f0.1] at HN
          refine (callsIn_wide.2 ((callsIn_wide (n := 9)).1 HN.out)).mono ?_
          clear HN
          rintro e W6 ⟨b, rfl, h6⟩
          clear g0 g1 g2 hgl
          rcases h6 with ⟨rfl, hj6, hk6⟩ | ⟨rfl, hx6⟩
          · have HI7 := Lib.hid (HIT.out.ke hk6)
            have HG7 := Lib.hid (hk6.blk HGS.out (by omega) (by decide))
            have HJ7 := Lib.hid hj6
            clear hk6 hj6 HIT HGS HJ1
            gi_wp2
            refine ⟨⟨1, by omega, by go_num, HJ7.out, HI7.out, HG7.out⟩, ?_⟩
            simp [intOf]
          · gi_wp2
            refine bodyPost_ret (results_none rfl _ _ _) rfl ?_
            exact ⟨⟨_, rfl⟩, .inr ⟨_, hx6⟩⟩
        · gi_wp2
          refine ⟨trivial, fun h => (by cases h), ?_⟩
          have HN := Lib.hid (number_in (g0 := w0.heap.size) (nB := nB) (Bx := q) (l := l) (Jn := Jn (4 + 1)) (J1 := Jn (4 + 1 + 1)) (Jx := Jx (4 + 1 + 1)) (w := wr) p.all.toNat (by omega) HIT.out.box HIT.out.below.size (fun W h => HJ.out _ _ _ HJ1.out h) (by have h := HY.out (4 + 1) (by omega); rw [show tk (4 + 1) = _ from HTK.out.t5] at h; exact h))
          rw [Int.toNat_of_nonneg f1.1] at HN
          refine (callsIn_wide.2 ((callsIn_wide (n := 9)).1 HN.out)).mono ?_
          clear HN
          rintro e W6 ⟨b, rfl, h6⟩
          clear g0 g1 g2 hgl
          rcases h6 with ⟨rfl, hj6, hk6⟩ | ⟨rfl, hx6⟩
          · have HI7 := Lib.hid (HIT.out.ke hk6)
            have HG7 := Lib.hid (hk6.blk HGS.out (by omega) (by decide))
            have HJ7 := Lib.hid hj6
            clear hk6 hj6 HIT HGS HJ1
            gi_wp2
            refine ⟨⟨2, by omega, by go_num, HJ7.out, HI7.out, HG7.out⟩, ?_⟩
            simp [intOf]
          · gi_wp2
            refine bodyPost_ret (results_none rfl _ _ _) rfl ?_
            exact ⟨⟨_, rfl⟩, .inr ⟨_, hx6⟩⟩
        · gi_wp2
          refine ⟨trivial, fun h => (by cases h), ?_⟩
          have HN := Lib.hid (number_in (g0 := w0.heap.size) (nB := nB) (Bx := q) (l := l) (Jn := Jn (4 + 2)) (J1 := Jn (4 + 2 + 1)) (Jx := Jx (4 + 2 + 1)) (w := wr) p.chs.length (by omega) HIT.out.box HIT.out.below.size (fun W h => HJ.out _ _ _ HJ1.out h) (by have h := HY.out (4 + 2) (by omega); rw [show tk (4 + 2) = _ from HTK.out.t6] at h; exact h))
          skip
          refine (callsIn_wide.2 ((callsIn_wide (n := 9)).1 HN.out)).mono ?_
          clear HN
          rintro e W6 ⟨b, rfl, h6⟩
          clear g0 g1 g2 hgl
          rcases h6 with ⟨rfl, hj6, hk6⟩ | ⟨rfl, hx6⟩
          · have HI7 := Lib.hid (HIT.out.ke hk6)
            have HG7 := Lib.hid (hk6.blk HGS.out (by omega) (by decide))
            have HJ7 := Lib.hid hj6
            clear hk6 hj6 HIT HGS HJ1
            gi_wp2
            refine ⟨⟨3, by omega, by go_num, HJ7.out, HI7.out, HG7.out⟩, ?_⟩
            simp [intOf]
          · gi_wp2
            refine bodyPost_ret (results_none rfl _ _ _) rfl ?_
            exact ⟨⟨_, rfl⟩, .inr ⟨_, hx6⟩⟩
        · have e2 : ((3 : Nat) : Int) = 3 := rfl
          rw [e2]
          clear e2
          have hit := HIT.out
          have a6 := hit.part.cell 6
          have hpl := hit.part.lt
          simp only [paC, List.getElem?_toArray, List.getElem?_cons_zero, List.getElem?_cons_succ] at a6
          clear hit g0 g1 g2 hgl HGS
          gi_wp2
          clear a6 hpl
          gi_loopw [56] (fun i wr => L3 w0 nB Bs q l p A c Jn i wr) (fun i _ => p.chs.length - (intOf i).toNat)
          case atStart => exact ⟨0, by omega, rfl, HJ1.out, HIT.out⟩
          case round =>
            clear HIT HJ1
            obtain ⟨k, hk, rfl, hj, hit⟩ := hrel
            have HIT := Lib.hid hit
            have HJ1 := Lib.hid hj
            clear hj
            by_cases hlt : k < p.chs.length
            · have hlti : (k : Int) < (p.chs.length : Int) := by omega
              obtain ⟨b, o, rfl, hbl, hc1, hc2, hc3⟩ := HA.out k hlt
              have e1 : wr.cell? ⟨b, o + k * 2, none⟩ = some (.int .i64 p.chs[k].1) := by
                rw [hit.below.cell (p := ⟨b, o + k * 2, none⟩) hbl]; exact hc1
              have e2 : wr.cell? ⟨b, o + k * 2 + 1, none⟩ = some (.string (str p.chs[k].2)) := by
                rw [hit.below.cell (p := ⟨b, o + k * 2 + 1, none⟩) hbl]; exact hc2
              have l1 : b < wr.heap.size := Nat.lt_of_lt_of_le hbl hit.below.size
              have hcb := HOK.out.chs p.chs[k] (List.getElem_mem hlt)
              have htb : tk (7 + 2 * k) = _ := HTK.out.tb k hlt
              have htd : tk (8 + 2 * k) = _ := HTK.out.td k hlt
              have HTB := Lib.hid htb
              have HTD := Lib.hid htd
              clear hc1 hc2 hit htb htd
              generalize p.chs[k] = x at *
              gi_wp2
              have hmx : Tryd.prog.follows .mixedOrders = true := by kernel_rfl
              obtain ⟨W5, hW5⟩ : ∃ z, wr.alloc (.cells #[.int .i64 x.1, .string (str x.2)] 36) = z := ⟨_, rfl⟩
              have b5 : Below wr.heap.size wr W5 := by rw [← hW5]; exact (Below.refl _ _).alloc (Nat.le_refl _) _
              have hgd : Blk W5 wr.heap.size 36 #[.int .i64 x.1, .string (str x.2)] := by rw [← hW5]; exact Blk.new _ _ _
              have HI5 := Lib.hid (HIT.out.grow b5)
              have HJ5 := Lib.hid (HJ.out _ _ _ HJ1.out b5)
              have hne : wr.heap.size ≠ nB := Nat.ne_of_gt HIT.out.nlt
              have HGD := Lib.hid hgd
              rw [hW5]
              obtain ⟨gd, hgd'⟩ : ∃ z, wr.heap.size = z := ⟨_, rfl⟩
              rw [hgd'] at HGD hne ⊢
              clear hW5 b5 hgd HJ1 HIT hgd' e1 e2 l1
              have d0 := HGD.out.cell 0
              have dl := HGD.out.lt
              simp only [List.getElem?_toArray, List.getElem?_cons_zero, List.getElem?_cons_succ] at d0
              have bd : Below W5.heap.size W5 W5.drew := (Below.refl _ W5).drew
              have HID := Lib.hid (HI5.out.grow bd)
              have HJD := Lib.hid (HJ.out _ _ _ HJ5.out bd)
              have HGDD := Lib.hid (HGD.out.below bd)
              clear bd
              have HN := Lib.hid (number_in (g0 := w0.heap.size) (nB := nB) (Bx := q) (l := l) (Jn := Jn (7 + 2 * k)) (J1 := Jn (8 + 2 * k)) (Jx := Jx (8 + 2 * k)) (w := W5.drew) x.1.toNat (by omega) HID.out.box HID.out.below.size (fun W h => HJ.out _ _ _ HJD.out h) (by have h := HY.out (7 + 2 * k) (by omega); rw [HTB.out, show 7 + 2 * k + 1 = 8 + 2 * k by omega] at h; exact h))
              rw [Int.toNat_of_nonneg hcb.1] at HN
              have hwr : IntKind.u64.wrap x.1 = x.1 := by
                have h1 := hcb.1
                have h2 := hcb.2.1
                simp only [IntKind.wrap, IntKind.bits, IntKind.signed]
                simp
                omega
              refine wpIn_region_any (by kernel_rfl) ?_
              change wpAnyIn _ _ _ _ _ _ _ _ _ (World.drew _)
              refine wpAnyIn_take (i := 0) (v := ?v) rfl rfl (by kernel_rfl) (by kernel_rfl) (by kernel_rfl) (fun _ _ _ h => h) ⟨Or.inl ⟨by rfl, ?hy⟩, fun _ => rfl⟩ ?rest
              case hy =>
                intro w
                go_simp
                try with_reducible rfl
              case rest =>
                refine wpAnyIn_ready (rs := [1]) (by kernel_rfl) (by simp) ?_
                refine AllReadyIn.cons rfl (fun K hK => ?_) AllReadyIn.nil
                go_simp
                refine hK _ _ ?_
                clear hK K
                refine wpAnyIn_ready (rs := [2]) (by kernel_rfl) (by simp) ?_
                refine AllReadyIn.cons rfl (fun K hK => ?_) AllReadyIn.nil
                go_simp
                refine hK _ _ ?_
                clear hK K
                refine wpAnyIn_ready (rs := [3]) (by kernel_rfl) (by simp) ?_
                refine AllReadyIn.cons rfl (fun K hK => ?_) AllReadyIn.nil
                go_simp
                refine hK _ _ ?_
                clear hK K
                refine wpAnyIn_ready (rs := [4]) (by kernel_rfl) (by simp) ?_
                refine AllReadyIn.cons rfl (fun K hK => ?_) AllReadyIn.nil
                go_simp
                clear hwr
                refine ⟨trivial, fun h => (by cases h), ?_⟩
                refine (callsIn_wide.2 ((callsIn_wide (n := 9)).1 HN.out)).mono ?_
                clear HN
                rintro e W6 ⟨b6, rfl, h6⟩
                rcases h6 with ⟨rfl, hj6, hk6⟩ | ⟨rfl, hx6⟩
                · have HI6 := Lib.hid (HID.out.ke hk6)
                  have HJ6 := Lib.hid hj6
                  have hgd6 := hk6.blk HGDD.out hne (by decide)
                  have m0 := hgd6.cell 1
                  have ml := hgd6.lt
                  have x0 := HI6.out.box.cell 0
                  have xl := HI6.out.box.lt
                  simp only [List.getElem?_toArray, List.getElem?_cons_zero, List.getElem?_cons_succ] at m0 x0
                  clear hk6 hj6 hgd6 HID HJD HGDD d0 dl HI5 HJ5 HGD
                  gi_wp2
                  refine wpAnyIn_ready (rs := [5]) (by kernel_rfl) (by simp) ?_
                  refine AllReadyIn.cons rfl (fun K hK => ?_) AllReadyIn.nil
                  go_simp
                  refine hK _ _ ?_
                  clear hK K
                  refine wpAnyIn_ready (rs := [6]) (by kernel_rfl) (by simp) ?_
                  refine AllReadyIn.cons rfl (fun K hK => ?_) AllReadyIn.nil
                  go_simp
                  refine hK _ _ ?_
                  clear hK K
                  refine wpAnyIn_ready (rs := [7, 8]) (by kernel_rfl) (by simp) ?_
                  refine AllReadyIn.cons rfl (fun K hK => ?_) ?_
                  · go_simp
                    refine hK _ _ ?_
                    clear hK K
                    refine wpAnyIn_ready (rs := [8]) (by kernel_rfl) (by simp) ?_
                    refine AllReadyIn.cons rfl (fun K hK => ?_) ?_
                    · go_simp
                      refine hK _ _ ?_
                      clear hK K
                      refine wpAnyIn_ready (rs := [9]) (by kernel_rfl) (by simp) ?_
                      refine AllReadyIn.cons rfl (fun K hK => ?_) ?_
                      · go_simp
                        refine hK _ _ ?_
                        clear hK K
                        refine wpAnyIn_ready (rs := [10]) (by kernel_rfl) (by simp) ?_
                        refine AllReadyIn.cons rfl (fun K hK => ?_) ?_
                        · go_simp
                          refine ⟨trivial, fun h => (by cases h), ?_⟩
                          refine (callsIn_wide.2 (putT1 x.2 _ (by omega))).mono ?_
                          rintro e W7 ⟨rfl, b7⟩
                          have hc7 := (HI6.out.box.below b7).cell 0
                          simp only [List.getElem?_toArray, List.getElem?_cons_zero] at hc7
                          have hY7 := HY.out (8 + 2 * k) (by omega) W7 (HJ.out _ _ _ HJ6.out b7)
                          rw [HTD.out] at hY7
                          obtain ⟨fn, tmps, assign, body, hy, hR⟩ := yieldAny (nn - 1) hY7
                          have HR := Lib.hid hR
                          have HK7 := Lib.hid (HI6.out.ke' b7)
                          clear hR hY7
                          gi_wp2
                          refine wpAnyIn_ready (rs := [11]) (by kernel_rfl) (by simp) ?_
                          refine AllReadyIn.cons rfl (fun K hK => ?_) AllReadyIn.nil
                          go_simp
                          refine ⟨fun h => (by cases h), ?_⟩
                          refine RoundIn.mono HR.out ?_
                          intro e W8 h0
                          obtain ⟨b8, rfl, h8⟩ := YR.from HK7.out h0
                          clear h0 m0 ml x0 xl hc7
                          rcases h8 with ⟨rfl, hj8, hk8⟩ | ⟨rfl, hx8⟩
                          · gi_wp2
                            refine wpAnyIn_ready (rs := [12]) (by kernel_rfl) (by simp) ?_
                            refine AllReadyIn.cons rfl (fun K hK => ?_) AllReadyIn.nil
                            go_simp
                            refine hK _ _ ?_
                            clear hK K
                            refine wpAnyIn_ready (rs := [13]) (by kernel_rfl) (by simp) ?_
                            refine AllReadyIn.cons rfl (fun K hK => ?_) AllReadyIn.nil
                            go_simp
                            refine hK _ _ ?_
                            clear hK K
                            refine wpAnyIn_done (by kernel_rfl) ?_ _
                            have HI8 := Lib.hid (HI6.out.ke hk8)
                            have HJ8 := Lib.hid hj8
                            clear hk8 hj8
                            gi_wp2
                            refine ⟨⟨k + 1, by omega, by go_num, (by have := HJ8.out; rw [show 8 + 2 * k + 1 = 7 + 2 * (k + 1) by omega] at this; exact this), HI8.out⟩, ?_⟩
                            simp [intOf]
                            omega
                          · gi_wp2
                            refine wpAnyIn_ready (rs := [12]) (by kernel_rfl) (by simp) ?_
                            refine AllReadyIn.cons rfl (fun K hK => ?_) AllReadyIn.nil
                            go_simp
                            refine hK _ _ ?_
                            clear hK K
                            refine wpAnyIn_ready (rs := [13]) (by kernel_rfl) (by simp) ?_
                            refine AllReadyIn.cons rfl (fun K hK => ?_) AllReadyIn.nil
                            go_simp
                            refine hK _ _ ?_
                            clear hK K
                            refine wpAnyIn_done (by kernel_rfl) ?_ _
                            gi_wp2
                            refine bodyPost_ret (results_none rfl _ _ _) rfl ?_
                            exact ⟨⟨_, rfl⟩, .inr ⟨_, hx8⟩⟩
                        exact AllReadyIn.nil
                      exact AllReadyIn.nil
                    exact AllReadyIn.nil
                  refine AllReadyIn.cons rfl (fun K hK => ?_) ?_
                  · go_simp
                    refine hK _ _ ?_
                    clear hK K
                    refine wpAnyIn_ready (rs := [7, 9]) (by kernel_rfl) (by simp) ?_
                    refine AllReadyIn.cons rfl (fun K hK => ?_) ?_
                    · go_simp
                      refine hK _ _ ?_
                      clear hK K
                      refine wpAnyIn_ready (rs := [9]) (by kernel_rfl) (by simp) ?_
                      refine AllReadyIn.cons rfl (fun K hK => ?_) ?_
                      · go_simp
                        refine hK _ _ ?_
                        clear hK K
                        refine wpAnyIn_ready (rs := [10]) (by kernel_rfl) (by simp) ?_
                        refine AllReadyIn.cons rfl (fun K hK => ?_) ?_
                        · go_simp
                          refine ⟨trivial, fun h => (by cases h), ?_⟩
                          refine (callsIn_wide.2 (putT1 x.2 _ (by omega))).mono ?_
                          rintro e W7 ⟨rfl, b7⟩
                          have hc7 := (HI6.out.box.below b7).cell 0
                          simp only [List.getElem?_toArray, List.getElem?_cons_zero] at hc7
                          have hY7 := HY.out (8 + 2 * k) (by omega) W7 (HJ.out _ _ _ HJ6.out b7)
                          rw [HTD.out] at hY7
                          obtain ⟨fn, tmps, assign, body, hy, hR⟩ := yieldAny (nn - 1) hY7
                          have HR := Lib.hid hR
                          have HK7 := Lib.hid (HI6.out.ke' b7)
                          clear hR hY7
                          gi_wp2
                          refine wpAnyIn_ready (rs := [11]) (by kernel_rfl) (by simp) ?_
                          refine AllReadyIn.cons rfl (fun K hK => ?_) AllReadyIn.nil
                          go_simp
                          refine ⟨fun h => (by cases h), ?_⟩
                          refine RoundIn.mono HR.out ?_
                          intro e W8 h0
                          obtain ⟨b8, rfl, h8⟩ := YR.from HK7.out h0
                          clear h0 m0 ml x0 xl hc7
                          rcases h8 with ⟨rfl, hj8, hk8⟩ | ⟨rfl, hx8⟩
                          · gi_wp2
                            refine wpAnyIn_ready (rs := [12]) (by kernel_rfl) (by simp) ?_
                            refine AllReadyIn.cons rfl (fun K hK => ?_) AllReadyIn.nil
                            go_simp
                            refine hK _ _ ?_
                            clear hK K
                            refine wpAnyIn_ready (rs := [13]) (by kernel_rfl) (by simp) ?_
                            refine AllReadyIn.cons rfl (fun K hK => ?_) AllReadyIn.nil
                            go_simp
                            refine hK _ _ ?_
                            clear hK K
                            refine wpAnyIn_done (by kernel_rfl) ?_ _
                            have HI8 := Lib.hid (HI6.out.ke hk8)
                            have HJ8 := Lib.hid hj8
                            clear hk8 hj8
                            gi_wp2
                            refine ⟨⟨k + 1, by omega, by go_num, (by have := HJ8.out; rw [show 8 + 2 * k + 1 = 7 + 2 * (k + 1) by omega] at this; exact this), HI8.out⟩, ?_⟩
                            simp [intOf]
                            omega
                          · gi_wp2
                            refine wpAnyIn_ready (rs := [12]) (by kernel_rfl) (by simp) ?_
                            refine AllReadyIn.cons rfl (fun K hK => ?_) AllReadyIn.nil
                            go_simp
                            refine hK _ _ ?_
                            clear hK K
                            refine wpAnyIn_ready (rs := [13]) (by kernel_rfl) (by simp) ?_
                            refine AllReadyIn.cons rfl (fun K hK => ?_) AllReadyIn.nil
                            go_simp
                            refine hK _ _ ?_
                            clear hK K
                            refine wpAnyIn_done (by kernel_rfl) ?_ _
                            gi_wp2
                            refine bodyPost_ret (results_none rfl _ _ _) rfl ?_
                            exact ⟨⟨_, rfl⟩, .inr ⟨_, hx8⟩⟩
                        exact AllReadyIn.nil
                      exact AllReadyIn.nil
                    refine AllReadyIn.cons rfl (fun K hK => ?_) ?_
                    · go_simp
                      refine hK _ _ ?_
                      clear hK K
                      refine wpAnyIn_ready (rs := [7, 10]) (by kernel_rfl) (by simp) ?_
                      refine AllReadyIn.cons rfl (fun K hK => ?_) ?_
                      · go_simp
                        refine hK _ _ ?_
                        clear hK K
                        refine wpAnyIn_ready (rs := [10]) (by kernel_rfl) (by simp) ?_
                        refine AllReadyIn.cons rfl (fun K hK => ?_) ?_
                        · go_simp
                          refine ⟨trivial, fun h => (by cases h), ?_⟩
                          refine (callsIn_wide.2 (putT1 x.2 _ (by omega))).mono ?_
                          rintro e W7 ⟨rfl, b7⟩
                          have hc7 := (HI6.out.box.below b7).cell 0
                          simp only [List.getElem?_toArray, List.getElem?_cons_zero] at hc7
                          have hY7 := HY.out (8 + 2 * k) (by omega) W7 (HJ.out _ _ _ HJ6.out b7)
                          rw [HTD.out] at hY7
                          obtain ⟨fn, tmps, assign, body, hy, hR⟩ := yieldAny (nn - 1) hY7
                          have HR := Lib.hid hR
                          have HK7 := Lib.hid (HI6.out.ke' b7)
                          clear hR hY7
                          gi_wp2
                          refine wpAnyIn_ready (rs := [11]) (by kernel_rfl) (by simp) ?_
                          refine AllReadyIn.cons rfl (fun K hK => ?_) AllReadyIn.nil
                          go_simp
                          refine ⟨fun h => (by cases h), ?_⟩
                          refine RoundIn.mono HR.out ?_
                          intro e W8 h0
                          obtain ⟨b8, rfl, h8⟩ := YR.from HK7.out h0
                          clear h0 m0 ml x0 xl hc7
                          rcases h8 with ⟨rfl, hj8, hk8⟩ | ⟨rfl, hx8⟩
                          · gi_wp2
                            refine wpAnyIn_ready (rs := [12]) (by kernel_rfl) (by simp) ?_
                            refine AllReadyIn.cons rfl (fun K hK => ?_) AllReadyIn.nil
                            go_simp
                            refine hK _ _ ?_
                            clear hK K
                            refine wpAnyIn_ready (rs := [13]) (by kernel_rfl) (by simp) ?_
                            refine AllReadyIn.cons rfl (fun K hK => ?_) AllReadyIn.nil
                            go_simp
                            refine hK _ _ ?_
                            clear hK K
                            refine wpAnyIn_done (by kernel_rfl) ?_ _
                            have HI8 := Lib.hid (HI6.out.ke hk8)
                            have HJ8 := Lib.hid hj8
                            clear hk8 hj8
                            gi_wp2
                            refine ⟨⟨k + 1, by omega, by go_num, (by have := HJ8.out; rw [show 8 + 2 * k + 1 = 7 + 2 * (k + 1) by omega] at this; exact this), HI8.out⟩, ?_⟩
                            simp [intOf]
                            omega
                          · gi_wp2
                            refine wpAnyIn_ready (rs := [12]) (by kernel_rfl) (by simp) ?_
                            refine AllReadyIn.cons rfl (fun K hK => ?_) AllReadyIn.nil
                            go_simp
                            refine hK _ _ ?_
                            clear hK K
                            refine wpAnyIn_ready (rs := [13]) (by kernel_rfl) (by simp) ?_
                            refine AllReadyIn.cons rfl (fun K hK => ?_) AllReadyIn.nil
                            go_simp
                            refine hK _ _ ?_
                            clear hK K
                            refine wpAnyIn_done (by kernel_rfl) ?_ _
                            gi_wp2
                            refine bodyPost_ret (results_none rfl _ _ _) rfl ?_
                            exact ⟨⟨_, rfl⟩, .inr ⟨_, hx8⟩⟩
                        exact AllReadyIn.nil
                      refine AllReadyIn.cons rfl (fun K hK => ?_) ?_
                      · go_simp
                        refine ⟨trivial, fun h => (by cases h), ?_⟩
                        refine (callsIn_wide.2 (putT1 x.2 _ (by omega))).mono ?_
                        rintro e W7 ⟨rfl, b7⟩
                        have hc7 := (HI6.out.box.below b7).cell 0
                        simp only [List.getElem?_toArray, List.getElem?_cons_zero] at hc7
                        have hY7 := HY.out (8 + 2 * k) (by omega) W7 (HJ.out _ _ _ HJ6.out b7)
                        rw [HTD.out] at hY7
                        obtain ⟨fn, tmps, assign, body, hy, hR⟩ := yieldAny (nn - 1) hY7
                        have HR := Lib.hid hR
                        have HK7 := Lib.hid (HI6.out.ke' b7)
                        clear hR hY7
                        gi_wp2
                        refine wpAnyIn_ready (rs := [7]) (by kernel_rfl) (by simp) ?_
                        refine AllReadyIn.cons rfl (fun K hK => ?_) ?_
                        · go_simp
                          refine hK _ _ ?_
                          clear hK K
                          refine wpAnyIn_ready (rs := [11]) (by kernel_rfl) (by simp) ?_
                          refine AllReadyIn.cons rfl (fun K hK => ?_) AllReadyIn.nil
                          go_simp
                          refine ⟨fun h => (by cases h), ?_⟩
                          refine RoundIn.mono HR.out ?_
                          intro e W8 h0
                          obtain ⟨b8, rfl, h8⟩ := YR.from HK7.out h0
                          clear h0 m0 ml x0 xl hc7
                          rcases h8 with ⟨rfl, hj8, hk8⟩ | ⟨rfl, hx8⟩
                          · gi_wp2
                            refine wpAnyIn_ready (rs := [12]) (by kernel_rfl) (by simp) ?_
                            refine AllReadyIn.cons rfl (fun K hK => ?_) AllReadyIn.nil
                            go_simp
                            refine hK _ _ ?_
                            clear hK K
                            refine wpAnyIn_ready (rs := [13]) (by kernel_rfl) (by simp) ?_
                            refine AllReadyIn.cons rfl (fun K hK => ?_) AllReadyIn.nil
                            go_simp
                            refine hK _ _ ?_
                            clear hK K
                            refine wpAnyIn_done (by kernel_rfl) ?_ _
                            have HI8 := Lib.hid (HI6.out.ke hk8)
                            have HJ8 := Lib.hid hj8
                            clear hk8 hj8
                            gi_wp2
                            refine ⟨⟨k + 1, by omega, by go_num, (by have := HJ8.out; rw [show 8 + 2 * k + 1 = 7 + 2 * (k + 1) by omega] at this; exact this), HI8.out⟩, ?_⟩
                            simp [intOf]
                            omega
                          · gi_wp2
                            refine wpAnyIn_ready (rs := [12]) (by kernel_rfl) (by simp) ?_
                            refine AllReadyIn.cons rfl (fun K hK => ?_) AllReadyIn.nil
                            go_simp
                            refine hK _ _ ?_
                            clear hK K
                            refine wpAnyIn_ready (rs := [13]) (by kernel_rfl) (by simp) ?_
                            refine AllReadyIn.cons rfl (fun K hK => ?_) AllReadyIn.nil
                            go_simp
                            refine hK _ _ ?_
                            clear hK K
                            refine wpAnyIn_done (by kernel_rfl) ?_ _
                            gi_wp2
                            refine bodyPost_ret (results_none rfl _ _ _) rfl ?_
                            exact ⟨⟨_, rfl⟩, .inr ⟨_, hx8⟩⟩
                        exact AllReadyIn.nil
                      exact AllReadyIn.nil
                    exact AllReadyIn.nil
                  exact AllReadyIn.nil
                · clear d0 dl
                  gi_wp2
                  refine wpAnyIn_ready (rs := [5]) (by kernel_rfl) (by simp) ?_
                  refine AllReadyIn.cons rfl (fun K hK => ?_) AllReadyIn.nil
                  go_simp
                  refine hK _ _ ?_
                  clear hK K
                  refine wpAnyIn_ready (rs := [6]) (by kernel_rfl) (by simp) ?_
                  refine AllReadyIn.cons rfl (fun K hK => ?_) AllReadyIn.nil
                  go_simp
                  refine hK _ _ ?_
                  clear hK K
                  refine wpAnyIn_ready (rs := [7, 8]) (by kernel_rfl) (by simp) ?_
                  refine AllReadyIn.cons rfl (fun K hK => ?_) ?_
                  · go_simp
                    refine hK _ _ ?_
                    clear hK K
                    refine wpAnyIn_ready (rs := [8]) (by kernel_rfl) (by simp) ?_
                    refine AllReadyIn.cons rfl (fun K hK => ?_) ?_
                    · go_simp
                      refine hK _ _ ?_
                      clear hK K
                      refine wpAnyIn_ready (rs := [9]) (by kernel_rfl) (by simp) ?_
                      refine AllReadyIn.cons rfl (fun K hK => ?_) ?_
                      · go_simp
                        refine hK _ _ ?_
                        clear hK K
                        refine wpAnyIn_ready (rs := [10]) (by kernel_rfl) (by simp) ?_
                        refine AllReadyIn.cons rfl (fun K hK => ?_) ?_
                        · go_simp
                          refine ⟨trivial, ?_⟩
                          refine hK _ _ ?_
                          clear hK K
                          refine wpAnyIn_ready (rs := [11]) (by kernel_rfl) (by simp) ?_
                          refine AllReadyIn.cons rfl (fun K hK => ?_) AllReadyIn.nil
                          go_simp
                          refine ⟨fun _ _ => trivial, ?_⟩
                          refine hK _ _ ?_
                          clear hK K
                          refine wpAnyIn_ready (rs := [12]) (by kernel_rfl) (by simp) ?_
                          refine AllReadyIn.cons rfl (fun K hK => ?_) AllReadyIn.nil
                          go_simp
                          refine hK _ _ ?_
                          clear hK K
                          refine wpAnyIn_ready (rs := [13]) (by kernel_rfl) (by simp) ?_
                          refine AllReadyIn.cons rfl (fun K hK => ?_) AllReadyIn.nil
                          go_simp
                          refine hK _ _ ?_
                          clear hK K
                          refine wpAnyIn_done (by kernel_rfl) ?_ _
                          gi_wp2
                          refine bodyPost_ret (results_none rfl _ _ _) rfl ?_
                          exact ⟨⟨_, rfl⟩, .inr ⟨_, hx6⟩⟩
                        exact AllReadyIn.nil
                      exact AllReadyIn.nil
                    exact AllReadyIn.nil
                  refine AllReadyIn.cons rfl (fun K hK => ?_) ?_
                  · go_simp
                    refine hK _ _ ?_
                    clear hK K
                    refine wpAnyIn_ready (rs := [7, 9]) (by kernel_rfl) (by simp) ?_
                    refine AllReadyIn.cons rfl (fun K hK => ?_) ?_
                    · go_simp
                      refine hK _ _ ?_
                      clear hK K
                      refine wpAnyIn_ready (rs := [9]) (by kernel_rfl) (by simp) ?_
                      refine AllReadyIn.cons rfl (fun K hK => ?_) ?_
                      · go_simp
                        refine hK _ _ ?_
                        clear hK K
                        refine wpAnyIn_ready (rs := [10]) (by kernel_rfl) (by simp) ?_
                        refine AllReadyIn.cons rfl (fun K hK => ?_) ?_
                        · go_simp
                          refine ⟨trivial, ?_⟩
                          refine hK _ _ ?_
                          clear hK K
                          refine wpAnyIn_ready (rs := [11]) (by kernel_rfl) (by simp) ?_
                          refine AllReadyIn.cons rfl (fun K hK => ?_) AllReadyIn.nil
                          go_simp
                          refine ⟨fun _ _ => trivial, ?_⟩
                          refine hK _ _ ?_
                          clear hK K
                          refine wpAnyIn_ready (rs := [12]) (by kernel_rfl) (by simp) ?_
                          refine AllReadyIn.cons rfl (fun K hK => ?_) AllReadyIn.nil
                          go_simp
                          refine hK _ _ ?_
                          clear hK K
                          refine wpAnyIn_ready (rs := [13]) (by kernel_rfl) (by simp) ?_
                          refine AllReadyIn.cons rfl (fun K hK => ?_) AllReadyIn.nil
                          go_simp
                          refine hK _ _ ?_
                          clear hK K
                          refine wpAnyIn_done (by kernel_rfl) ?_ _
                          gi_wp2
                          refine bodyPost_ret (results_none rfl _ _ _) rfl ?_
                          exact ⟨⟨_, rfl⟩, .inr ⟨_, hx6⟩⟩
                        exact AllReadyIn.nil
                      exact AllReadyIn.nil
                    refine AllReadyIn.cons rfl (fun K hK => ?_) ?_
                    · go_simp
                      refine hK _ _ ?_
                      clear hK K
                      refine wpAnyIn_ready (rs := [7, 10]) (by kernel_rfl) (by simp) ?_
                      refine AllReadyIn.cons rfl (fun K hK => ?_) ?_
                      · go_simp
                        refine hK _ _ ?_
                        clear hK K
                        refine wpAnyIn_ready (rs := [10]) (by kernel_rfl) (by simp) ?_
                        refine AllReadyIn.cons rfl (fun K hK => ?_) ?_
                        · go_simp
                          refine ⟨trivial, ?_⟩
                          refine hK _ _ ?_
                          clear hK K
                          refine wpAnyIn_ready (rs := [11]) (by kernel_rfl) (by simp) ?_
                          refine AllReadyIn.cons rfl (fun K hK => ?_) AllReadyIn.nil
                          go_simp
                          refine ⟨fun _ _ => trivial, ?_⟩
                          refine hK _ _ ?_
                          clear hK K
                          refine wpAnyIn_ready (rs := [12]) (by kernel_rfl) (by simp) ?_
                          refine AllReadyIn.cons rfl (fun K hK => ?_) AllReadyIn.nil
                          go_simp
                          refine hK _ _ ?_
                          clear hK K
                          refine wpAnyIn_ready (rs := [13]) (by kernel_rfl) (by simp) ?_
                          refine AllReadyIn.cons rfl (fun K hK => ?_) AllReadyIn.nil
                          go_simp
                          refine hK _ _ ?_
                          clear hK K
                          refine wpAnyIn_done (by kernel_rfl) ?_ _
                          gi_wp2
                          refine bodyPost_ret (results_none rfl _ _ _) rfl ?_
                          exact ⟨⟨_, rfl⟩, .inr ⟨_, hx6⟩⟩
                        exact AllReadyIn.nil
                      refine AllReadyIn.cons rfl (fun K hK => ?_) ?_
                      · go_simp
                        refine ⟨trivial, ?_⟩
                        refine hK _ _ ?_
                        clear hK K
                        refine wpAnyIn_ready (rs := [7]) (by kernel_rfl) (by simp) ?_
                        refine AllReadyIn.cons rfl (fun K hK => ?_) ?_
                        · go_simp
                          refine hK _ _ ?_
                          clear hK K
                          refine wpAnyIn_ready (rs := [11]) (by kernel_rfl) (by simp) ?_
                          refine AllReadyIn.cons rfl (fun K hK => ?_) AllReadyIn.nil
                          go_simp
                          refine ⟨fun _ _ => trivial, ?_⟩
                          refine hK _ _ ?_
                          clear hK K
                          refine wpAnyIn_ready (rs := [12]) (by kernel_rfl) (by simp) ?_
                          refine AllReadyIn.cons rfl (fun K hK => ?_) AllReadyIn.nil
                          go_simp
                          refine hK _ _ ?_
                          clear hK K
                          refine wpAnyIn_ready (rs := [13]) (by kernel_rfl) (by simp) ?_
                          refine AllReadyIn.cons rfl (fun K hK => ?_) AllReadyIn.nil
                          go_simp
                          refine hK _ _ ?_
                          clear hK K
                          refine wpAnyIn_done (by kernel_rfl) ?_ _
                          gi_wp2
                          refine bodyPost_ret (results_none rfl _ _ _) rfl ?_
                          exact ⟨⟨_, rfl⟩, .inr ⟨_, hx6⟩⟩
                        exact AllReadyIn.nil
                      exact AllReadyIn.nil
                    exact AllReadyIn.nil
                  exact AllReadyIn.nil
            · have hlti : ¬ (k : Int) < (p.chs.length : Int) := by omega
              obtain rfl : k = p.chs.length := by omega
              gi_wp2
              go_end0
              exact ⟨⟨_, rfl⟩, .inl HJ1.out⟩
end Go.Proofs.YtchdamlnbmngbaaDoor.st


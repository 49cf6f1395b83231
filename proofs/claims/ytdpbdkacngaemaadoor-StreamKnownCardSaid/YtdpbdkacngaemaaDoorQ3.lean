/- StIt, StSeq. -/
import Derived.Test.YtdpbdkacngaemaaDoorQ2
set_option linter.unusedVariables false
set_option linter.unusedSimpArgs false
/- The program's iterator over a part's pieces. -/
namespace Go.Proofs.YtdpbdkacngaemaaDoor.st
open Go Go.RowKit Go.Shelf Go.Proofs.YtdpbdkacngaemaaDoor.ib Go.Proofs.YtdpbdkacngaemaaDoor.wi Go.Proofs.YtdpbdkacngaemaaDoor.mt
open Go.Proofs.YtdpbdkacngaemaaDoor.ch (ChL OChs chVals infoCh)
set_option maxRecDepth 100000

attribute [local go_sem] Oper.semAt_some

/-- What the iterator holds. -/
structure It (w0 : World) (nB Bs Bx l : Nat) (p : Pa) (A : Option Addr) (c : Nat) (W : World) : Prop where
  part : Blk W Bs 27 (paC p A c)
  box : Blk W Bx 80 #[.func (.yield l) #[] #[]]
  below : Below w0.heap.size w0 W
  neS : Bs ≠ nB
  neX : Bx ≠ nB
  nlt : nB < W.heap.size
section
variable {w0 W W' : World} {nB Bs Bx l : Nat} {p : Pa} {A : Option Addr} {c : Nat}
theorem It.ke (h : It w0 nB Bs Bx l p A c W) (k : KE w0.heap.size nB W W') : It w0 nB Bs Bx l p A c W' :=
  ⟨k.blk h.part h.neS (by decide), k.blk h.box h.neX (by decide), h.below.trans k.1, h.neS, h.neX, Nat.lt_of_lt_of_le h.nlt k.1.size⟩
theorem It.grow (h : It w0 nB Bs Bx l p A c W) (k : Below W.heap.size W W') : It w0 nB Bs Bx l p A c W' := h.ke (KE.of_below h.below.size k)
theorem It.ke' (h : It w0 nB Bs Bx l p A c W) (k : Below W.heap.size W W') : KE w0.heap.size nB W W' := KE.of_below h.below.size k
end
def gsC (p : Pa) : Array Value := #[.int .u64 (p.base.1 : Int), .int .u64 (p.base.2 : Int), .int .u64 (p.target.1 : Int), .int .u64 (p.target.2 : Int)]
def nsC (p : Pa) : Array Value := #[.int .i64 p.fr, .int .i64 p.all, .int .i64 (p.chs.length : Int)]
/-- What has come, when so many are over. -/
structure Tks (p : Pa) (tk : Nat → List UInt8) : Prop where
  t0 : tk 0 = numB p.base.1
  t1 : tk 1 = numB p.base.2
  t2 : tk 2 = numB p.target.1
  t3 : tk 3 = numB p.target.2
  t4 : tk 4 = numB p.fr.toNat
  t5 : tk 5 = numB p.all.toNat
  t6 : tk 6 = numB p.chs.length
  tb : ∀ i (h : i < p.chs.length), tk (7 + 2 * i) = numB p.chs[i].1.toNat
  td : ∀ i (h : i < p.chs.length), tk (8 + 2 * i) = textB p.chs[i].2
def L1 (w0 : World) (nB Bs Bx l : Nat) (p : Pa) (A : Option Addr) (c Ag : Nat) (Jn : Nat → World → Prop) (i : Value) (wr : World) : Prop :=
  ∃ k : Nat, k ≤ 2 ∧ i = .int .i64 (k : Int) ∧ Jn (2 * k) wr ∧ It w0 nB Bs Bx l p A c wr ∧ Blk wr Ag 24 (gsC p)
def L2 (w0 : World) (nB Bs Bx l : Nat) (p : Pa) (A : Option Addr) (c Ag : Nat) (Jn : Nat → World → Prop) (i : Value) (wr : World) : Prop :=
  ∃ k : Nat, k ≤ 3 ∧ i = .int .i64 (k : Int) ∧ Jn (4 + k) wr ∧ It w0 nB Bs Bx l p A c wr ∧ Blk wr Ag 3 (nsC p)
def L3 (w0 : World) (nB Bs Bx l : Nat) (p : Pa) (A : Option Addr) (c : Nat) (Jn : Nat → World → Prop) (i : Value) (wr : World) : Prop :=
  ∃ k : Nat, k ≤ p.chs.length ∧ i = .int .i64 (k : Int) ∧ Jn (7 + 2 * k) wr ∧ It w0 nB Bs Bx l p A c wr
set_option maxHeartbeats 12800000 in
theorem pieces1_in {w0 w : World} {nB Bs l : Nat} {p : Pa} {A : Option Addr} {c : Nat} {Jn Jx : Nat → World → Prop} {tk : Nat → List UInt8} (nn : Nat) (hA : ChL w0 A p.chs) (hok : Ok p) (hgb : gdB p.base) (hgt : gdB p.target)
    (hb : Below w0.heap.size w0 w) (hp : Blk w Bs 27 (paC p A c)) (hns : Bs ≠ nB) (hnl : nB < w.heap.size) (htk : Tks p tk)
    (hJ : ∀ i W W', Jn i W → Below W.heap.size W W' → Jn i W')
    (hY : ∀ i, i < 7 + 2 * p.chs.length → ∀ W, Jn i W → YieldAt Fence.wide 0 Tryd.prog l #[.string (str (tk i))] W (YR w0.heap.size nB (Jn (i + 1)) (Jx (i + 1)) W)) (h0 : Jn 0 w) :
    CallsIn Fence.wide nn Tryd.prog 45 #[.func (.yield l) #[] #[], .pointer (some ⟨Bs, 0, none⟩)] w fun e W' => (∃ v, e = .returned v) ∧ (Jn (7 + 2 * p.chs.length) W' ∨ ∃ i, Jx i W') := by
  have a0 := hp.cell 0
  have a1 := hp.cell 1
  have a2 := hp.cell 2
  have a3 := hp.cell 3
  have hpl := hp.lt
  simp only [paC, List.getElem?_toArray, List.getElem?_cons_zero, List.getElem?_cons_succ] at a0 a1 a2 a3
  have HJ := Lib.hid hJ
  have HY := Lib.hid hY
  have HA := Lib.hid hA
  have HB := Lib.hid hb
  have HP := Lib.hid hp
  have HTK := Lib.hid htk
  have HOK := Lib.hid hok
  have HJ0 := Lib.hid h0
  clear hA hok hb hp htk hJ hY h0
  refine callsIn_of_wp Tryd.func45 rfl trivial ?_ rfl
  simp only [Tryd.ntmps45, List.size_toArray, List.length_cons, List.length_nil, Nat.reduceAdd, Nat.reduceSub, Array.replicate_succ, Array.replicate_zero, List.push_toArray, List.append_toArray, List.nil_append, List.cons_append]
  gi_wp2
  obtain ⟨W1, hW1⟩ : ∃ z, (w.alloc (.cells #[.func (.yield l) #[] #[]] 80)).alloc (.cells (gsC p) 24) = z := ⟨_, rfl⟩
  have b0 : Below w.heap.size w (w.alloc (.cells #[.func (.yield l) #[] #[]] 80)) := (Below.refl _ _).alloc (Nat.le_refl _) _
  have b1 : Below (w.alloc (.cells #[.func (.yield l) #[] #[]] 80)).heap.size (w.alloc (.cells #[.func (.yield l) #[] #[]] 80)) W1 := by rw [← hW1]; exact (Below.refl _ _).alloc (Nat.le_refl _) _
  have hgs : Blk W1 (w.heap.size + 1) 24 (gsC p) := by
    have := Blk.new (w.alloc (.cells #[.func (.yield l) #[] #[]] 80)) 24 (gsC p)
    rw [hW1, World.size_alloc] at this
    exact this
  have hbl : Below w.heap.size w W1 := below_step b0 b1
  have hit : It w0 nB Bs w.heap.size l p A c W1 := ⟨(HP.out.below b0).below b1, (Blk.new w 80 #[.func (.yield l) #[] #[]]).below b1, below_step HB.out hbl, hns, Nat.ne_of_gt hnl, Nat.lt_of_lt_of_le hnl hbl.size⟩
  have hj := HJ.out 0 w W1 HJ0.out hbl
  unfold gsC at hW1
  rw [hW1]
  clear hW1 b0 b1 hbl HB HP HJ0 a0 a1 a2 a3 hpl hns
  obtain ⟨q, hq⟩ : ∃ z, w.heap.size = z := ⟨_, rfl⟩
  have hq2 : nB < q := by rw [← hq]; exact hnl
  rw [hq] at hgs hit ⊢
  clear hq hnl
  have HG := Lib.hid hgs
  have HI := Lib.hid hit
  have HJ1 := Lib.hid hj
  clear hgs hit hj
  gi_loopw [17] (fun i wr => L1 w0 nB Bs q l p A c (q + 1) Jn i wr) (fun i _ => 2 - (intOf i).toNat)
  case atStart => exact ⟨0, by omega, rfl, HJ1.out, HI.out, HG.out⟩
  case round =>
    clear HG HI HJ1
    obtain ⟨k, hk, rfl, hj, hit, hgs⟩ := hrel
    have HIT := Lib.hid hit
    have HGS := Lib.hid hgs
    have HJ1 := Lib.hid hj
    have hcase : k = 0 ∨ k = 1 ∨ k = 2 := by omega
    have g0 := hgs.cell 0
    have g1 := hgs.cell 1
    have g2 := hgs.cell 2
    have g3 := hgs.cell 3
    have hgl := hgs.lt
    simp only [gsC, List.getElem?_toArray, List.getElem?_cons_zero, List.getElem?_cons_succ] at g0 g1 g2 g3
    clear hj hit hgs hk
    rcases hcase with rfl | rfl | rfl
    · gi_wp2
      obtain ⟨W5, hW5⟩ : ∃ z, wr.alloc (.cells #[.int .u64 (p.base.1 : Int), .int .u64 (p.base.2 : Int)] 24) = z := ⟨_, rfl⟩
      have b5 : Below wr.heap.size wr W5 := by rw [← hW5]; exact (Below.refl _ _).alloc (Nat.le_refl _) _
      have hgd : Blk W5 wr.heap.size 24 #[.int .u64 (p.base.1 : Int), .int .u64 (p.base.2 : Int)] := by rw [← hW5]; exact Blk.new _ _ _
      have HI5 := Lib.hid (HIT.out.grow b5)
      have HG5 := Lib.hid (HGS.out.below b5)
      have HJ5 := Lib.hid (HJ.out _ _ _ HJ1.out b5)
      have hne : wr.heap.size ≠ nB := Nat.ne_of_gt HIT.out.nlt
      have HGD := Lib.hid hgd
      rw [hW5]
      obtain ⟨gd, hgd'⟩ : ∃ z, wr.heap.size = z := ⟨_, rfl⟩
      rw [hgd'] at HGD hne ⊢
      clear hW5 b5 hgd g0 g1 g2 g3 hgl HJ1 HIT HGS hgd'
      refine ⟨trivial, fun h => (by cases h), ?_⟩
      have HN := Lib.hid (number_in (g0 := w0.heap.size) (nB := nB) (Bx := q) (l := l) (Jn := Jn (2 * 0)) (J1 := Jn (2 * 0 + 1)) (Jx := Jx (2 * 0 + 1)) (w := W5) p.base.1 hgb.1 HI5.out.box HI5.out.below.size (fun W h => HJ.out _ _ _ HJ5.out h) (by have h := HY.out (2 * 0) (by omega); rw [show tk (2 * 0) = _ from HTK.out.t0] at h; exact h))
      refine (callsIn_wide.2 ((callsIn_wide (n := 9)).1 HN.out)).mono ?_
      clear HN
      rintro e W6 ⟨b, rfl, h6⟩
      rcases h6 with ⟨rfl, hj6, hk6⟩ | ⟨rfl, hx6⟩
      · have HI6 := Lib.hid (HI5.out.ke hk6)
        have HG6 := Lib.hid (hk6.blk HG5.out (by omega) (by decide))
        have hgd6 := hk6.blk HGD.out hne (by decide)
        have HJ6 := Lib.hid hj6
        have d0 := hgd6.cell 0
        have d1 := hgd6.cell 1
        have dl := hgd6.lt
        simp only [List.getElem?_toArray, List.getElem?_cons_zero, List.getElem?_cons_succ] at d0 d1
        clear hk6 hgd6 hj6 HI5 HG5 HJ5 HGD
        gi_wp2
        refine ⟨trivial, fun h => (by cases h), ?_⟩
        have HN := Lib.hid (number_in (g0 := w0.heap.size) (nB := nB) (Bx := q) (l := l) (Jn := Jn (2 * 0 + 1)) (J1 := Jn (2 * 0 + 1 + 1)) (Jx := Jx (2 * 0 + 1 + 1)) (w := W6) p.base.2 hgb.2 HI6.out.box HI6.out.below.size (fun W h => HJ.out _ _ _ HJ6.out h) (by have h := HY.out (2 * 0 + 1) (by omega); rw [show tk (2 * 0 + 1) = _ from HTK.out.t1] at h; exact h))
        refine (callsIn_wide.2 ((callsIn_wide (n := 9)).1 HN.out)).mono ?_
        clear HN
        rintro e W7 ⟨b, rfl, h6⟩
        rcases h6 with ⟨rfl, hj7, hk7⟩ | ⟨rfl, hx7⟩
        · have HI7 := Lib.hid (HI6.out.ke hk7)
          have HG7 := Lib.hid (hk7.blk HG6.out (by omega) (by decide))
          have HJ7 := Lib.hid hj7
          clear hk7 hj7 HI6 HG6 HJ6 d0 d1 dl
          gi_wp2
          refine ⟨⟨1, by omega, by go_num, HJ7.out, HI7.out, HG7.out⟩, ?_⟩
          simp [intOf]
        · clear d0 d1 dl
          gi_wp2
          refine bodyPost_ret (results_none rfl _ _ _) rfl ?_
          exact ⟨⟨_, rfl⟩, .inr ⟨_, hx7⟩⟩
      · gi_wp2
        refine ⟨fun _ h => (by cases h), ?_⟩
        gi_wp2
        refine bodyPost_ret (results_none rfl _ _ _) rfl ?_
        exact ⟨⟨_, rfl⟩, .inr ⟨_, hx6⟩⟩
    · gi_wp2
      obtain ⟨W5, hW5⟩ : ∃ z, wr.alloc (.cells #[.int .u64 (p.target.1 : Int), .int .u64 (p.target.2 : Int)] 24) = z := ⟨_, rfl⟩
      have b5 : Below wr.heap.size wr W5 := by rw [← hW5]; exact (Below.refl _ _).alloc (Nat.le_refl _) _
      have hgd : Blk W5 wr.heap.size 24 #[.int .u64 (p.target.1 : Int), .int .u64 (p.target.2 : Int)] := by rw [← hW5]; exact Blk.new _ _ _
      have HI5 := Lib.hid (HIT.out.grow b5)
      have HG5 := Lib.hid (HGS.out.below b5)
      have HJ5 := Lib.hid (HJ.out _ _ _ HJ1.out b5)
      have hne : wr.heap.size ≠ nB := Nat.ne_of_gt HIT.out.nlt
      have HGD := Lib.hid hgd
      rw [hW5]
      obtain ⟨gd, hgd'⟩ : ∃ z, wr.heap.size = z := ⟨_, rfl⟩
      rw [hgd'] at HGD hne ⊢
      clear hW5 b5 hgd g0 g1 g2 g3 hgl HJ1 HIT HGS hgd'
      refine ⟨trivial, fun h => (by cases h), ?_⟩
      have HN := Lib.hid (number_in (g0 := w0.heap.size) (nB := nB) (Bx := q) (l := l) (Jn := Jn (2 * 1)) (J1 := Jn (2 * 1 + 1)) (Jx := Jx (2 * 1 + 1)) (w := W5) p.target.1 hgt.1 HI5.out.box HI5.out.below.size (fun W h => HJ.out _ _ _ HJ5.out h) (by have h := HY.out (2 * 1) (by omega); rw [show tk (2 * 1) = _ from HTK.out.t2] at h; exact h))
      refine (callsIn_wide.2 ((callsIn_wide (n := 9)).1 HN.out)).mono ?_
      clear HN
      rintro e W6 ⟨b, rfl, h6⟩
      rcases h6 with ⟨rfl, hj6, hk6⟩ | ⟨rfl, hx6⟩
      · have HI6 := Lib.hid (HI5.out.ke hk6)
        have HG6 := Lib.hid (hk6.blk HG5.out (by omega) (by decide))
        have hgd6 := hk6.blk HGD.out hne (by decide)
        have HJ6 := Lib.hid hj6
        have d0 := hgd6.cell 0
        have d1 := hgd6.cell 1
        have dl := hgd6.lt
        simp only [List.getElem?_toArray, List.getElem?_cons_zero, List.getElem?_cons_succ] at d0 d1
        clear hk6 hgd6 hj6 HI5 HG5 HJ5 HGD
        gi_wp2
        refine ⟨trivial, fun h => (by cases h), ?_⟩
        have HN := Lib.hid (number_in (g0 := w0.heap.size) (nB := nB) (Bx := q) (l := l) (Jn := Jn (2 * 1 + 1)) (J1 := Jn (2 * 1 + 1 + 1)) (Jx := Jx (2 * 1 + 1 + 1)) (w := W6) p.target.2 hgt.2 HI6.out.box HI6.out.below.size (fun W h => HJ.out _ _ _ HJ6.out h) (by have h := HY.out (2 * 1 + 1) (by omega); rw [show tk (2 * 1 + 1) = _ from HTK.out.t3] at h; exact h))
        refine (callsIn_wide.2 ((callsIn_wide (n := 9)).1 HN.out)).mono ?_
        clear HN
        rintro e W7 ⟨b, rfl, h6⟩
        rcases h6 with ⟨rfl, hj7, hk7⟩ | ⟨rfl, hx7⟩
        · have HI7 := Lib.hid (HI6.out.ke hk7)
          have HG7 := Lib.hid (hk7.blk HG6.out (by omega) (by decide))
          have HJ7 := Lib.hid hj7
          clear hk7 hj7 HI6 HG6 HJ6 d0 d1 dl
          gi_wp2
          refine ⟨⟨2, by omega, by go_num, HJ7.out, HI7.out, HG7.out⟩, ?_⟩
          simp [intOf]
        · clear d0 d1 dl
          gi_wp2
          refine bodyPost_ret (results_none rfl _ _ _) rfl ?_
          exact ⟨⟨_, rfl⟩, .inr ⟨_, hx7⟩⟩
      · gi_wp2
        refine ⟨fun _ h => (by cases h), ?_⟩
        gi_wp2
        refine bodyPost_ret (results_none rfl _ _ _) rfl ?_
        exact ⟨⟨_, rfl⟩, .inr ⟨_, hx6⟩⟩
    · have e2 : ((2 : Nat) : Int) = 2 := rfl
      rw [e2]
      clear e2
      have hit := HIT.out
      have a4 := hit.part.cell 4
      have a5 := hit.part.cell 5
      have a6 := hit.part.cell 6
      have hpl := hit.part.lt
      simp only [paC, List.getElem?_toArray, List.getElem?_cons_zero, List.getElem?_cons_succ] at a4 a5 a6
      clear hit g0 g1 g2 g3 hgl HGS
      gi_wp2
      obtain ⟨W1, hW1⟩ : ∃ z, wr.alloc (.cells (nsC p) 3) = z := ⟨_, rfl⟩
      have b1 : Below wr.heap.size wr W1 := by rw [← hW1]; exact (Below.refl _ _).alloc (Nat.le_refl _) _
      have hgs : Blk W1 wr.heap.size 3 (nsC p) := by rw [← hW1]; exact Blk.new _ _ _
      have HI := Lib.hid (HIT.out.grow b1)
      have HJ2 := Lib.hid (HJ.out _ _ _ HJ1.out b1)
      have HG := Lib.hid hgs
      have hq3 : nB < wr.heap.size := HIT.out.nlt
      unfold nsC at hW1
      rw [hW1]
      clear hW1 b1 hgs HIT HJ1 a4 a5 a6 hpl
      obtain ⟨r, hr⟩ : ∃ z, wr.heap.size = z := ⟨_, rfl⟩
      rw [hr] at HG hq3 ⊢
      clear hr
      gi_loopw [43] (fun i wr => L2 w0 nB Bs q l p A c r Jn i wr) (fun i _ => 3 - (intOf i).toNat)
      case atStart => exact ⟨0, by omega, rfl, HJ2.out, HI.out, HG.out⟩
      case round =>
        clear HG HI HJ2
        obtain ⟨k, hk, rfl, hj, hit, hgs⟩ := hrel
        have HIT := Lib.hid hit
        have HGS := Lib.hid hgs
        have HJ1 := Lib.hid hj
        have hcase : k = 0 ∨ k = 1 ∨ k = 2 ∨ k = 3 := by omega
        have g0 := hgs.cell 0
        have g1 := hgs.cell 1
        have g2 := hgs.cell 2
        have hgl := hgs.lt
        have f0 := HOK.out.fr
        have f1 := HOK.out.all
        have f2 := HOK.out.few
        simp only [nsC, List.getElem?_toArray, List.getElem?_cons_zero, List.getElem?_cons_succ] at g0 g1 g2
        clear hj hit hgs hk
        rcases hcase with rfl | rfl | rfl | rfl
        · gi_wp2
          refine ⟨trivial, fun h => (by cases h), ?_⟩
          have HN := Lib.hid (number_in (g0 := w0.heap.size) (nB := nB) (Bx := q) (l := l) (Jn := Jn (4 + 0)) (J1 := Jn (4 + 0 + 1)) (Jx := Jx (4 + 0 + 1)) (w := wr) p.fr.toNat (by omega) HIT.out.box HIT.out.below.size (fun W h => HJ.out _ _ _ HJ1.out h) (by have h := HY.out (4 + 0) (by omega); rw [show tk (4 + 0) = _ from HTK.out.t4] at h; exact h))
          rw [Int.toNat_of_nonneg f0.1] at HN
          refine (callsIn_wide.2 ((callsIn_wide (n := 9)).1 HN.out)).mono ?_
          clear HN
          rintro e W6 ⟨b, rfl, h6⟩
          clear g0 g1 g2 hgl
          rcases h6 with ⟨rfl, hj6, hk6⟩ | ⟨rfl, hx6⟩
          · have HI7 := Lib.hid (HIT.out.ke hk6)
            have HG7 := Lib.hid (hk6.blk HGS.out (by omega) (by decide))
            have HJ7 := Lib.hid hj6
            clear hk6 hj6 HIT HGS HJ1
            gi_wp2
            refine ⟨⟨1, by omega, by go_num, HJ7.out, HI7.out, HG7.out⟩, ?_⟩
            simp [intOf]
          · gi_wp2
            refine bodyPost_ret (results_none rfl _ _ _) rfl ?_
            exact ⟨⟨_, rfl⟩, .inr ⟨_, hx6⟩⟩
        · gi_wp2
          refine ⟨trivial, fun h => (by cases h), ?_⟩
          have HN := Lib.hid (number_in (g0 := w0.heap.size) (nB := nB) (Bx := q) (l := l) (Jn := Jn (4 + 1)) (J1 := Jn (4 + 1 + 1)) (Jx := Jx (4 + 1 + 1)) (w := wr) p.all.toNat (by omega) HIT.out.box HIT.out.below.size (fun W h => HJ.out _ _ _ HJ1.out h) (by have h := HY.out (4 + 1) (by omega); rw [show tk (4 + 1) = _ from HTK.out.t5] at h; exact h))
          rw [Int.toNat_of_nonneg f1.1] at HN
          refine (callsIn_wide.2 ((callsIn_wide (n := 9)).1 HN.out)).mono ?_
          clear HN
          rintro e W6 ⟨b, rfl, h6⟩
          clear g0 g1 g2 hgl
          rcases h6 with ⟨rfl, hj6, hk6⟩ | ⟨rfl, hx6⟩
          · have HI7 := Lib.hid (HIT.out.ke hk6)
            have HG7 := Lib.hid (hk6.blk HGS.out (by omega) (by decide))
            have HJ7 := Lib.hid hj6
            clear hk6 hj6 HIT HGS HJ1
            gi_wp2
            refine ⟨⟨2, by omega, by go_num, HJ7.out, HI7.out, HG7.out⟩, ?_⟩
            simp [intOf]
          · gi_wp2
            refine bodyPost_ret (results_none rfl _ _ _) rfl ?_
            exact ⟨⟨_, rfl⟩, .inr ⟨_, hx6⟩⟩
        · gi_wp2
          refine ⟨trivial, fun h => (by cases h), ?_⟩
          have HN := Lib.hid (number_in (g0 := w0.heap.size) (nB := nB) (Bx := q) (l := l) (Jn := Jn (4 + 2)) (J1 := Jn (4 + 2 + 1)) (Jx := Jx (4 + 2 + 1)) (w := wr) p.chs.length (by omega) HIT.out.box HIT.out.below.size (fun W h => HJ.out _ _ _ HJ1.out h) (by have h := HY.out (4 + 2) (by omega); rw [show tk (4 + 2) = _ from HTK.out.t6] at h; exact h))
          skip
          refine (callsIn_wide.2 ((callsIn_wide (n := 9)).1 HN.out)).mono ?_
          clear HN
          rintro e W6 ⟨b, rfl, h6⟩
          clear g0 g1 g2 hgl
          rcases h6 with ⟨rfl, hj6, hk6⟩ | ⟨rfl, hx6⟩
          · have HI7 := Lib.hid (HIT.out.ke hk6)
            have HG7 := Lib.hid (hk6.blk HGS.out (by omega) (by decide))
            have HJ7 := Lib.hid hj6
            clear hk6 hj6 HIT HGS HJ1
            gi_wp2
            refine ⟨⟨3, by omega, by go_num, HJ7.out, HI7.out, HG7.out⟩, ?_⟩
            simp [intOf]
          · gi_wp2
            refine bodyPost_ret (results_none rfl _ _ _) rfl ?_
            exact ⟨⟨_, rfl⟩, .inr ⟨_, hx6⟩⟩
        · have e2 : ((3 : Nat) : Int) = 3 := rfl
          rw [e2]
          clear e2
          have hit := HIT.out
          have a6 := hit.part.cell 6
          have hpl := hit.part.lt
          simp only [paC, List.getElem?_toArray, List.getElem?_cons_zero, List.getElem?_cons_succ] at a6
          clear hit g0 g1 g2 hgl HGS
          gi_wp2
          clear a6 hpl
          gi_loopw [56] (fun i wr => L3 w0 nB Bs q l p A c Jn i wr) (fun i _ => p.chs.length - (intOf i).toNat)
          case atStart => exact ⟨0, by omega, rfl, HJ1.out, HIT.out⟩
          case round =>
            clear HIT HJ1
            obtain ⟨k, hk, rfl, hj, hit⟩ := hrel
            have HIT := Lib.hid hit
            have HJ1 := Lib.hid hj
            clear hj
            by_cases hlt : k < p.chs.length
            · have hlti : (k : Int) < (p.chs.length : Int) := by omega
              obtain ⟨b, o, rfl, hbl, hc1, hc2, hc3⟩ := HA.out k hlt
              have e1 : wr.cell? ⟨b, o + k * 2, none⟩ = some (.int .i64 p.chs[k].1) := by
                rw [hit.below.cell (p := ⟨b, o + k * 2, none⟩) hbl]; exact hc1
              have e2 : wr.cell? ⟨b, o + k * 2 + 1, none⟩ = some (.string (str p.chs[k].2)) := by
                rw [hit.below.cell (p := ⟨b, o + k * 2 + 1, none⟩) hbl]; exact hc2
              have l1 : b < wr.heap.size := Nat.lt_of_lt_of_le hbl hit.below.size
              have hcb := HOK.out.chs p.chs[k] (List.getElem_mem hlt)
              have htb : tk (7 + 2 * k) = _ := HTK.out.tb k hlt
              have htd : tk (8 + 2 * k) = _ := HTK.out.td k hlt
              have HTB := Lib.hid htb
              have HTD := Lib.hid htd
              clear hc1 hc2 hit htb htd
              generalize p.chs[k] = x at *
              gi_wp2
              have hmx : Tryd.prog.follows .mixedOrders = true := by kernel_rfl
              obtain ⟨W5, hW5⟩ : ∃ z, wr.alloc (.cells #[.int .i64 x.1, .string (str x.2)] 46) = z := ⟨_, rfl⟩
              have b5 : Below wr.heap.size wr W5 := by rw [← hW5]; exact (Below.refl _ _).alloc (Nat.le_refl _) _
              have hgd : Blk W5 wr.heap.size 46 #[.int .i64 x.1, .string (str x.2)] := by rw [← hW5]; exact Blk.new _ _ _
              have HI5 := Lib.hid (HIT.out.grow b5)
              have HJ5 := Lib.hid (HJ.out _ _ _ HJ1.out b5)
              have hne : wr.heap.size ≠ nB := Nat.ne_of_gt HIT.out.nlt
              have HGD := Lib.hid hgd
              rw [hW5]
              obtain ⟨gd, hgd'⟩ : ∃ z, wr.heap.size = z := ⟨_, rfl⟩
              rw [hgd'] at HGD hne ⊢
              clear hW5 b5 hgd HJ1 HIT hgd' e1 e2 l1
              have d0 := HGD.out.cell 0
              have dl := HGD.out.lt
              simp only [List.getElem?_toArray, List.getElem?_cons_zero, List.getElem?_cons_succ] at d0
              have bd : Below W5.heap.size W5 W5.drew := (Below.refl _ W5).drew
              have HID := Lib.hid (HI5.out.grow bd)
              have HJD := Lib.hid (HJ.out _ _ _ HJ5.out bd)
              have HGDD := Lib.hid (HGD.out.below bd)
              clear bd
              have HN := Lib.hid (number_in (g0 := w0.heap.size) (nB := nB) (Bx := q) (l := l) (Jn := Jn (7 + 2 * k)) (J1 := Jn (8 + 2 * k)) (Jx := Jx (8 + 2 * k)) (w := W5.drew) x.1.toNat (by omega) HID.out.box HID.out.below.size (fun W h => HJ.out _ _ _ HJD.out h) (by have h := HY.out (7 + 2 * k) (by omega); rw [HTB.out, show 7 + 2 * k + 1 = 8 + 2 * k by omega] at h; exact h))
              rw [Int.toNat_of_nonneg hcb.1] at HN
              have hwr : IntKind.u64.wrap x.1 = x.1 := by
                have h1 := hcb.1
                have h2 := hcb.2.1
                simp only [IntKind.wrap, IntKind.bits, IntKind.signed]
                simp
                omega
              refine wpIn_region_any (by kernel_rfl) ?_
              change wpAnyIn _ _ _ _ _ _ _ _ _ (World.drew _)
              refine wpAnyIn_take (i := 0) (v := ?v) rfl rfl (by kernel_rfl) (by kernel_rfl) (by kernel_rfl) (fun _ _ _ h => h) ⟨Or.inl ⟨by rfl, ?hy⟩, fun _ => rfl⟩ ?rest
              case hy =>
                intro w
                go_simp
                try with_reducible rfl
              case rest =>
                refine wpAnyIn_ready (rs := [1]) (by kernel_rfl) (by simp) ?_
                refine AllReadyIn.cons rfl (fun K hK => ?_) AllReadyIn.nil
                go_simp
                refine hK _ _ ?_
                clear hK K
                refine wpAnyIn_ready (rs := [2]) (by kernel_rfl) (by simp) ?_
                refine AllReadyIn.cons rfl (fun K hK => ?_) AllReadyIn.nil
                go_simp
                refine hK _ _ ?_
                clear hK K
                refine wpAnyIn_ready (rs := [3]) (by kernel_rfl) (by simp) ?_
                refine AllReadyIn.cons rfl (fun K hK => ?_) AllReadyIn.nil
                go_simp
                refine hK _ _ ?_
                clear hK K
                refine wpAnyIn_ready (rs := [4]) (by kernel_rfl) (by simp) ?_
                refine AllReadyIn.cons rfl (fun K hK => ?_) AllReadyIn.nil
                go_simp
                clear hwr
                refine ⟨trivial, fun h => (by cases h), ?_⟩
                refine (callsIn_wide.2 ((callsIn_wide (n := 9)).1 HN.out)).mono ?_
                clear HN
                rintro e W6 ⟨b6, rfl, h6⟩
                rcases h6 with ⟨rfl, hj6, hk6⟩ | ⟨rfl, hx6⟩
                · have HI6 := Lib.hid (HID.out.ke hk6)
                  have HJ6 := Lib.hid hj6
                  have hgd6 := hk6.blk HGDD.out hne (by decide)
                  have m0 := hgd6.cell 1
                  have ml := hgd6.lt
                  have x0 := HI6.out.box.cell 0
                  have xl := HI6.out.box.lt
                  simp only [List.getElem?_toArray, List.getElem?_cons_zero, List.getElem?_cons_succ] at m0 x0
                  clear hk6 hj6 hgd6 HID HJD HGDD d0 dl HI5 HJ5 HGD
                  gi_wp2
                  refine wpAnyIn_ready (rs := [5]) (by kernel_rfl) (by simp) ?_
                  refine AllReadyIn.cons rfl (fun K hK => ?_) AllReadyIn.nil
                  go_simp
                  refine hK _ _ ?_
                  clear hK K
                  refine wpAnyIn_ready (rs := [6]) (by kernel_rfl) (by simp) ?_
                  refine AllReadyIn.cons rfl (fun K hK => ?_) AllReadyIn.nil
                  go_simp
                  refine hK _ _ ?_
                  clear hK K
                  refine wpAnyIn_ready (rs := [7, 8]) (by kernel_rfl) (by simp) ?_
                  refine AllReadyIn.cons rfl (fun K hK => ?_) ?_
                  · go_simp
                    refine hK _ _ ?_
                    clear hK K
                    refine wpAnyIn_ready (rs := [8]) (by kernel_rfl) (by simp) ?_
                    refine AllReadyIn.cons rfl (fun K hK => ?_) ?_
                    · go_simp
                      refine hK _ _ ?_
                      clear hK K
                      refine wpAnyIn_ready (rs := [9]) (by kernel_rfl) (by simp) ?_
                      refine AllReadyIn.cons rfl (fun K hK => ?_) ?_
                      · go_simp
                        refine hK _ _ ?_
                        clear hK K
                        refine wpAnyIn_ready (rs := [10]) (by kernel_rfl) (by simp) ?_
                        refine AllReadyIn.cons rfl (fun K hK => ?_) ?_
                        · go_simp
                          refine ⟨trivial, fun h => (by cases h), ?_⟩
                          refine (callsIn_wide.2 (putT1 x.2 _ (by omega))).mono ?_
                          rintro e W7 ⟨rfl, b7⟩
                          have hc7 := (HI6.out.box.below b7).cell 0
                          simp only [List.getElem?_toArray, List.getElem?_cons_zero] at hc7
                          have hY7 := HY.out (8 + 2 * k) (by omega) W7 (HJ.out _ _ _ HJ6.out b7)
                          rw [HTD.out] at hY7
                          obtain ⟨fn, tmps, assign, body, hy, hR⟩ := yieldAny (nn - 1) hY7
                          have HR := Lib.hid hR
                          have HK7 := Lib.hid (HI6.out.ke' b7)
                          clear hR hY7
                          gi_wp2
                          refine wpAnyIn_ready (rs := [11]) (by kernel_rfl) (by simp) ?_
                          refine AllReadyIn.cons rfl (fun K hK => ?_) AllReadyIn.nil
                          go_simp
                          refine ⟨fun h => (by cases h), ?_⟩
                          refine RoundIn.mono HR.out ?_
                          intro e W8 h0
                          obtain ⟨b8, rfl, h8⟩ := YR.from HK7.out h0
                          clear h0 m0 ml x0 xl hc7
                          rcases h8 with ⟨rfl, hj8, hk8⟩ | ⟨rfl, hx8⟩
                          · gi_wp2
                            refine wpAnyIn_ready (rs := [12]) (by kernel_rfl) (by simp) ?_
                            refine AllReadyIn.cons rfl (fun K hK => ?_) AllReadyIn.nil
                            go_simp
                            refine hK _ _ ?_
                            clear hK K
                            refine wpAnyIn_ready (rs := [13]) (by kernel_rfl) (by simp) ?_
                            refine AllReadyIn.cons rfl (fun K hK => ?_) AllReadyIn.nil
                            go_simp
                            refine hK _ _ ?_
                            clear hK K
                            refine wpAnyIn_done (by kernel_rfl) ?_ _
                            have HI8 := Lib.hid (HI6.out.ke hk8)
                            have HJ8 := Lib.hid hj8
                            clear hk8 hj8
                            gi_wp2
                            refine ⟨⟨k + 1, by omega, by go_num, (by have := HJ8.out; rw [show 8 + 2 * k + 1 = 7 + 2 * (k + 1) by omega] at this; exact this), HI8.out⟩, ?_⟩
                            simp [intOf]
                            omega
                          · gi_wp2
                            refine wpAnyIn_ready (rs := [12]) (by kernel_rfl) (by simp) ?_
                            refine AllReadyIn.cons rfl (fun K hK => ?_) AllReadyIn.nil
                            go_simp
                            refine hK _ _ ?_
                            clear hK K
                            refine wpAnyIn_ready (rs := [13]) (by kernel_rfl) (by simp) ?_
                            refine AllReadyIn.cons rfl (fun K hK => ?_) AllReadyIn.nil
                            go_simp
                            refine hK _ _ ?_
                            clear hK K
                            refine wpAnyIn_done (by kernel_rfl) ?_ _
                            gi_wp2
                            refine bodyPost_ret (results_none rfl _ _ _) rfl ?_
                            exact ⟨⟨_, rfl⟩, .inr ⟨_, hx8⟩⟩
                        exact AllReadyIn.nil
                      exact AllReadyIn.nil
                    exact AllReadyIn.nil
                  refine AllReadyIn.cons rfl (fun K hK => ?_) ?_
                  · go_simp
                    refine hK _ _ ?_
                    clear hK K
                    refine wpAnyIn_ready (rs := [7, 9]) (by kernel_rfl) (by simp) ?_
                    refine AllReadyIn.cons rfl (fun K hK => ?_) ?_
                    · go_simp
                      refine hK _ _ ?_
                      clear hK K
                      refine wpAnyIn_ready (rs := [9]) (by kernel_rfl) (by simp) ?_
                      refine AllReadyIn.cons rfl (fun K hK => ?_) ?_
                      · go_simp
                        refine hK _ _ ?_
                        clear hK K
                        refine wpAnyIn_ready (rs := [10]) (by kernel_rfl) (by simp) ?_
                        refine AllReadyIn.cons rfl (fun K hK => ?_) ?_
                        · go_simp
                          refine ⟨trivial, fun h => (by cases h), ?_⟩
                          refine (callsIn_wide.2 (putT1 x.2 _ (by omega))).mono ?_
                          rintro e W7 ⟨rfl, b7⟩
                          have hc7 := (HI6.out.box.below b7).cell 0
                          simp only [List.getElem?_toArray, List.getElem?_cons_zero] at hc7
                          have hY7 := HY.out (8 + 2 * k) (by omega) W7 (HJ.out _ _ _ HJ6.out b7)
                          rw [HTD.out] at hY7
                          obtain ⟨fn, tmps, assign, body, hy, hR⟩ := yieldAny (nn - 1) hY7
                          have HR := Lib.hid hR
                          have HK7 := Lib.hid (HI6.out.ke' b7)
                          clear hR hY7
                          gi_wp2
                          refine wpAnyIn_ready (rs := [11]) (by kernel_rfl) (by simp) ?_
                          refine AllReadyIn.cons rfl (fun K hK => ?_) AllReadyIn.nil
                          go_simp
                          refine ⟨fun h => (by cases h), ?_⟩
                          refine RoundIn.mono HR.out ?_
                          intro e W8 h0
                          obtain ⟨b8, rfl, h8⟩ := YR.from HK7.out h0
                          clear h0 m0 ml x0 xl hc7
                          rcases h8 with ⟨rfl, hj8, hk8⟩ | ⟨rfl, hx8⟩
                          · gi_wp2
                            refine wpAnyIn_ready (rs := [12]) (by kernel_rfl) (by simp) ?_
                            refine AllReadyIn.cons rfl (fun K hK => ?_) AllReadyIn.nil
                            go_simp
                            refine hK _ _ ?_
                            clear hK K
                            refine wpAnyIn_ready (rs := [13]) (by kernel_rfl) (by simp) ?_
                            refine AllReadyIn.cons rfl (fun K hK => ?_) AllReadyIn.nil
                            go_simp
                            refine hK _ _ ?_
                            clear hK K
                            refine wpAnyIn_done (by kernel_rfl) ?_ _
                            have HI8 := Lib.hid (HI6.out.ke hk8)
                            have HJ8 := Lib.hid hj8
                            clear hk8 hj8
                            gi_wp2
                            refine ⟨⟨k + 1, by omega, by go_num, (by have := HJ8.out; rw [show 8 + 2 * k + 1 = 7 + 2 * (k + 1) by omega] at this; exact this), HI8.out⟩, ?_⟩
                            simp [intOf]
                            omega
                          · gi_wp2
                            refine wpAnyIn_ready (rs := [12]) (by kernel_rfl) (by simp) ?_
                            refine AllReadyIn.cons rfl (fun K hK => ?_) AllReadyIn.nil
                            go_simp
                            refine hK _ _ ?_
                            clear hK K
                            refine wpAnyIn_ready (rs := [13]) (by kernel_rfl) (by simp) ?_
                            refine AllReadyIn.cons rfl (fun K hK => ?_) AllReadyIn.nil
                            go_simp
                            refine hK _ _ ?_
                            clear hK K
                            refine wpAnyIn_done (by kernel_rfl) ?_ _
                            gi_wp2
                            refine bodyPost_ret (results_none rfl _ _ _) rfl ?_
                            exact ⟨⟨_, rfl⟩, .inr ⟨_, hx8⟩⟩
                        exact AllReadyIn.nil
                      exact AllReadyIn.nil
                    refine AllReadyIn.cons rfl (fun K hK => ?_) ?_
                    · go_simp
                      refine hK _ _ ?_
                      clear hK K
                      refine wpAnyIn_ready (rs := [7, 10]) (by kernel_rfl) (by simp) ?_
                      refine AllReadyIn.cons rfl (fun K hK => ?_) ?_
                      · go_simp
                        refine hK _ _ ?_
                        clear hK K
                        refine wpAnyIn_ready (rs := [10]) (by kernel_rfl) (by simp) ?_
                        refine AllReadyIn.cons rfl (fun K hK => ?_) ?_
                        · go_simp
                          refine ⟨trivial, fun h => (by cases h), ?_⟩
                          refine (callsIn_wide.2 (putT1 x.2 _ (by omega))).mono ?_
                          rintro e W7 ⟨rfl, b7⟩
                          have hc7 := (HI6.out.box.below b7).cell 0
                          simp only [List.getElem?_toArray, List.getElem?_cons_zero] at hc7
                          have hY7 := HY.out (8 + 2 * k) (by omega) W7 (HJ.out _ _ _ HJ6.out b7)
                          rw [HTD.out] at hY7
                          obtain ⟨fn, tmps, assign, body, hy, hR⟩ := yieldAny (nn - 1) hY7
                          have HR := Lib.hid hR
                          have HK7 := Lib.hid (HI6.out.ke' b7)
                          clear hR hY7
                          gi_wp2
                          refine wpAnyIn_ready (rs := [11]) (by kernel_rfl) (by simp) ?_
                          refine AllReadyIn.cons rfl (fun K hK => ?_) AllReadyIn.nil
                          go_simp
                          refine ⟨fun h => (by cases h), ?_⟩
                          refine RoundIn.mono HR.out ?_
                          intro e W8 h0
                          obtain ⟨b8, rfl, h8⟩ := YR.from HK7.out h0
                          clear h0 m0 ml x0 xl hc7
                          rcases h8 with ⟨rfl, hj8, hk8⟩ | ⟨rfl, hx8⟩
                          · gi_wp2
                            refine wpAnyIn_ready (rs := [12]) (by kernel_rfl) (by simp) ?_
                            refine AllReadyIn.cons rfl (fun K hK => ?_) AllReadyIn.nil
                            go_simp
                            refine hK _ _ ?_
                            clear hK K
                            refine wpAnyIn_ready (rs := [13]) (by kernel_rfl) (by simp) ?_
                            refine AllReadyIn.cons rfl (fun K hK => ?_) AllReadyIn.nil
                            go_simp
                            refine hK _ _ ?_
                            clear hK K
                            refine wpAnyIn_done (by kernel_rfl) ?_ _
                            have HI8 := Lib.hid (HI6.out.ke hk8)
                            have HJ8 := Lib.hid hj8
                            clear hk8 hj8
                            gi_wp2
                            refine ⟨⟨k + 1, by omega, by go_num, (by have := HJ8.out; rw [show 8 + 2 * k + 1 = 7 + 2 * (k + 1) by omega] at this; exact this), HI8.out⟩, ?_⟩
                            simp [intOf]
                            omega
                          · gi_wp2
                            refine wpAnyIn_ready (rs := [12]) (by kernel_rfl) (by simp) ?_
                            refine AllReadyIn.cons rfl (fun K hK => ?_) AllReadyIn.nil
                            go_simp
                            refine hK _ _ ?_
                            clear hK K
                            refine wpAnyIn_ready (rs := [13]) (by kernel_rfl) (by simp) ?_
                            refine AllReadyIn.cons rfl (fun K hK => ?_) AllReadyIn.nil
                            go_simp
                            refine hK _ _ ?_
                            clear hK K
                            refine wpAnyIn_done (by kernel_rfl) ?_ _
                            gi_wp2
                            refine bodyPost_ret (results_none rfl _ _ _) rfl ?_
                            exact ⟨⟨_, rfl⟩, .inr ⟨_, hx8⟩⟩
                        exact AllReadyIn.nil
                      refine AllReadyIn.cons rfl (fun K hK => ?_) ?_
                      · go_simp
                        refine ⟨trivial, fun h => (by cases h), ?_⟩
                        refine (callsIn_wide.2 (putT1 x.2 _ (by omega))).mono ?_
                        rintro e W7 ⟨rfl, b7⟩
                        have hc7 := (HI6.out.box.below b7).cell 0
                        simp only [List.getElem?_toArray, List.getElem?_cons_zero] at hc7
                        have hY7 := HY.out (8 + 2 * k) (by omega) W7 (HJ.out _ _ _ HJ6.out b7)
                        rw [HTD.out] at hY7
                        obtain ⟨fn, tmps, assign, body, hy, hR⟩ := yieldAny (nn - 1) hY7
                        have HR := Lib.hid hR
                        have HK7 := Lib.hid (HI6.out.ke' b7)
                        clear hR hY7
                        gi_wp2
                        refine wpAnyIn_ready (rs := [7]) (by kernel_rfl) (by simp) ?_
                        refine AllReadyIn.cons rfl (fun K hK => ?_) ?_
                        · go_simp
                          refine hK _ _ ?_
                          clear hK K
                          refine wpAnyIn_ready (rs := [11]) (by kernel_rfl) (by simp) ?_
                          refine AllReadyIn.cons rfl (fun K hK => ?_) AllReadyIn.nil
                          go_simp
                          refine ⟨fun h => (by cases h), ?_⟩
                          refine RoundIn.mono HR.out ?_
                          intro e W8 h0
                          obtain ⟨b8, rfl, h8⟩ := YR.from HK7.out h0
                          clear h0 m0 ml x0 xl hc7
                          rcases h8 with ⟨rfl, hj8, hk8⟩ | ⟨rfl, hx8⟩
                          · gi_wp2
                            refine wpAnyIn_ready (rs := [12]) (by kernel_rfl) (by simp) ?_
                            refine AllReadyIn.cons rfl (fun K hK => ?_) AllReadyIn.nil
                            go_simp
                            refine hK _ _ ?_
                            clear hK K
                            refine wpAnyIn_ready (rs := [13]) (by kernel_rfl) (by simp) ?_
                            refine AllReadyIn.cons rfl (fun K hK => ?_) AllReadyIn.nil
                            go_simp
                            refine hK _ _ ?_
                            clear hK K
                            refine wpAnyIn_done (by kernel_rfl) ?_ _
                            have HI8 := Lib.hid (HI6.out.ke hk8)
                            have HJ8 := Lib.hid hj8
                            clear hk8 hj8
                            gi_wp2
                            refine ⟨⟨k + 1, by omega, by go_num, (by have := HJ8.out; rw [show 8 + 2 * k + 1 = 7 + 2 * (k + 1) by omega] at this; exact this), HI8.out⟩, ?_⟩
                            simp [intOf]
                            omega
                          · gi_wp2
                            refine wpAnyIn_ready (rs := [12]) (by kernel_rfl) (by simp) ?_
                            refine AllReadyIn.cons rfl (fun K hK => ?_) AllReadyIn.nil
                            go_simp
                            refine hK _ _ ?_
                            clear hK K
                            refine wpAnyIn_ready (rs := [13]) (by kernel_rfl) (by simp) ?_
                            refine AllReadyIn.cons rfl (fun K hK => ?_) AllReadyIn.nil
                            go_simp
                            refine hK _ _ ?_
                            clear hK K
                            refine wpAnyIn_done (by kernel_rfl) ?_ _
                            gi_wp2
                            refine bodyPost_ret (results_none rfl _ _ _) rfl ?_
                            exact ⟨⟨_, rfl⟩, .inr ⟨_, hx8⟩⟩
                        exact AllReadyIn.nil
                      exact AllReadyIn.nil
                    exact AllReadyIn.nil
                  exact AllReadyIn.nil
                · clear d0 dl
                  gi_wp2
                  refine wpAnyIn_ready (rs := [5]) (by kernel_rfl) (by simp) ?_
                  refine AllReadyIn.cons rfl (fun K hK => ?_) AllReadyIn.nil
                  go_simp
                  refine hK _ _ ?_
                  clear hK K
                  refine wpAnyIn_ready (rs := [6]) (by kernel_rfl) (by simp) ?_
                  refine AllReadyIn.cons rfl (fun K hK => ?_) AllReadyIn.nil
                  go_simp
                  refine hK _ _ ?_
                  clear hK K
                  refine wpAnyIn_ready (rs := [7, 8]) (by kernel_rfl) (by simp) ?_
                  refine AllReadyIn.cons rfl (fun K hK => ?_) ?_
                  · go_simp
                    refine hK _ _ ?_
                    clear hK K
                    refine wpAnyIn_ready (rs := [8]) (by kernel_rfl) (by simp) ?_
                    refine AllReadyIn.cons rfl (fun K hK => ?_) ?_
                    · go_simp
                      refine hK _ _ ?_
                      clear hK K
                      refine wpAnyIn_ready (rs := [9]) (by kernel_rfl) (by simp) ?_
                      refine AllReadyIn.cons rfl (fun K hK => ?_) ?_
                      · go_simp
                        refine hK _ _ ?_
                        clear hK K
                        refine wpAnyIn_ready (rs := [10]) (by kernel_rfl) (by simp) ?_
                        refine AllReadyIn.cons rfl (fun K hK => ?_) ?_
                        · go_simp
                          refine ⟨trivial, ?_⟩
                          refine hK _ _ ?_
                          clear hK K
                          refine wpAnyIn_ready (rs := [11]) (by kernel_rfl) (by simp) ?_
                          refine AllReadyIn.cons rfl (fun K hK => ?_) AllReadyIn.nil
                          go_simp
                          refine ⟨fun _ _ => trivial, ?_⟩
                          refine hK _ _ ?_
                          clear hK K
                          refine wpAnyIn_ready (rs := [12]) (by kernel_rfl) (by simp) ?_
                          refine AllReadyIn.cons rfl (fun K hK => ?_) AllReadyIn.nil
                          go_simp
                          refine hK _ _ ?_
                          clear hK K
                          refine wpAnyIn_ready (rs := [13]) (by kernel_rfl) (by simp) ?_
                          refine AllReadyIn.cons rfl (fun K hK => ?_) AllReadyIn.nil
                          go_simp
                          refine hK _ _ ?_
                          clear hK K
                          refine wpAnyIn_done (by kernel_rfl) ?_ _
                          gi_wp2
                          refine bodyPost_ret (results_none rfl _ _ _) rfl ?_
                          exact ⟨⟨_, rfl⟩, .inr ⟨_, hx6⟩⟩
                        exact AllReadyIn.nil
                      exact AllReadyIn.nil
                    exact AllReadyIn.nil
                  refine AllReadyIn.cons rfl (fun K hK => ?_) ?_
                  · go_simp
                    refine hK _ _ ?_
                    clear hK K
                    refine wpAnyIn_ready (rs := [7, 9]) (by kernel_rfl) (by simp) ?_
                    refine AllReadyIn.cons rfl (fun K hK => ?_) ?_
                    · go_simp
                      refine hK _ _ ?_
                      clear hK K
                      refine wpAnyIn_ready (rs := [9]) (by kernel_rfl) (by simp) ?_
                      refine AllReadyIn.cons rfl (fun K hK => ?_) ?_
                      · go_simp
                        refine hK _ _ ?_
                        clear hK K
                        refine wpAnyIn_ready (rs := [10]) (by kernel_rfl) (by simp) ?_
                        refine AllReadyIn.cons rfl (fun K hK => ?_) ?_
                        · go_simp
                          refine ⟨trivial, ?_⟩
                          refine hK _ _ ?_
                          clear hK K
                          refine wpAnyIn_ready (rs := [11]) (by kernel_rfl) (by simp) ?_
                          refine AllReadyIn.cons rfl (fun K hK => ?_) AllReadyIn.nil
                          go_simp
                          refine ⟨fun _ _ => trivial, ?_⟩
                          refine hK _ _ ?_
                          clear hK K
                          refine wpAnyIn_ready (rs := [12]) (by kernel_rfl) (by simp) ?_
                          refine AllReadyIn.cons rfl (fun K hK => ?_) AllReadyIn.nil
                          go_simp
                          refine hK _ _ ?_
                          clear hK K
                          refine wpAnyIn_ready (rs := [13]) (by kernel_rfl) (by simp) ?_
                          refine AllReadyIn.cons rfl (fun K hK => ?_) AllReadyIn.nil
                          go_simp
                          refine hK _ _ ?_
                          clear hK K
                          refine wpAnyIn_done (by kernel_rfl) ?_ _
                          gi_wp2
                          refine bodyPost_ret (results_none rfl _ _ _) rfl ?_
                          exact ⟨⟨_, rfl⟩, .inr ⟨_, hx6⟩⟩
                        exact AllReadyIn.nil
                      exact AllReadyIn.nil
                    refine AllReadyIn.cons rfl (fun K hK => ?_) ?_
                    · go_simp
                      refine hK _ _ ?_
                      clear hK K
                      refine wpAnyIn_ready (rs := [7, 10]) (by kernel_rfl) (by simp) ?_
                      refine AllReadyIn.cons rfl (fun K hK => ?_) ?_
                      · go_simp
                        refine hK _ _ ?_
                        clear hK K
                        refine wpAnyIn_ready (rs := [10]) (by kernel_rfl) (by simp) ?_
                        refine AllReadyIn.cons rfl (fun K hK => ?_) ?_
                        · go_simp
                          refine ⟨trivial, ?_⟩
                          refine hK _ _ ?_
                          clear hK K
                          refine wpAnyIn_ready (rs := [11]) (by kernel_rfl) (by simp) ?_
                          refine AllReadyIn.cons rfl (fun K hK => ?_) AllReadyIn.nil
                          go_simp
                          refine ⟨fun _ _ => trivial, ?_⟩
                          refine hK _ _ ?_
                          clear hK K
                          refine wpAnyIn_ready (rs := [12]) (by kernel_rfl) (by simp) ?_
                          refine AllReadyIn.cons rfl (fun K hK => ?_) AllReadyIn.nil
                          go_simp
                          refine hK _ _ ?_
                          clear hK K
                          refine wpAnyIn_ready (rs := [13]) (by kernel_rfl) (by simp) ?_
                          refine AllReadyIn.cons rfl (fun K hK => ?_) AllReadyIn.nil
                          go_simp
                          refine hK _ _ ?_
                          clear hK K
                          refine wpAnyIn_done (by kernel_rfl) ?_ _
                          gi_wp2
                          refine bodyPost_ret (results_none rfl _ _ _) rfl ?_
                          exact ⟨⟨_, rfl⟩, .inr ⟨_, hx6⟩⟩
                        exact AllReadyIn.nil
                      refine AllReadyIn.cons rfl (fun K hK => ?_) ?_
                      · go_simp
                        refine ⟨trivial, ?_⟩
                        refine hK _ _ ?_
                        clear hK K
                        refine wpAnyIn_ready (rs := [7]) (by kernel_rfl) (by simp) ?_
                        refine AllReadyIn.cons rfl (fun K hK => ?_) ?_
                        · go_simp
                          refine hK _ _ ?_
                          clear hK K
                          refine wpAnyIn_ready (rs := [11]) (by kernel_rfl) (by simp) ?_
                          refine AllReadyIn.cons rfl (fun K hK => ?_) AllReadyIn.nil
                          go_simp
                          refine ⟨fun _ _ => trivial, ?_⟩
                          refine hK _ _ ?_
                          clear hK K
                          refine wpAnyIn_ready (rs := [12]) (by kernel_rfl) (by simp) ?_
                          refine AllReadyIn.cons rfl (fun K hK => ?_) AllReadyIn.nil
                          go_simp
                          refine hK _ _ ?_
                          clear hK K
                          refine wpAnyIn_ready (rs := [13]) (by kernel_rfl) (by simp) ?_
                          refine AllReadyIn.cons rfl (fun K hK => ?_) AllReadyIn.nil
                          go_simp
                          refine hK _ _ ?_
                          clear hK K
                          refine wpAnyIn_done (by kernel_rfl) ?_ _
                          gi_wp2
                          refine bodyPost_ret (results_none rfl _ _ _) rfl ?_
                          exact ⟨⟨_, rfl⟩, .inr ⟨_, hx6⟩⟩
                        exact AllReadyIn.nil
                      exact AllReadyIn.nil
                    exact AllReadyIn.nil
                  exact AllReadyIn.nil
            · have hlti : ¬ (k : Int) < (p.chs.length : Int) := by omega
              obtain rfl : k = p.chs.length := by omega
              gi_wp2
              go_end0
              exact ⟨⟨_, rfl⟩, .inl HJ1.out⟩
end Go.Proofs.YtdpbdkacngaemaaDoor.st

/- All pieces of a part; what the program's pieces answers. -/
namespace Go.Proofs.YtdpbdkacngaemaaDoor.st
open Go Go.RowKit Go.Shelf Go.Proofs.YtdpbdkacngaemaaDoor.ib Go.Proofs.YtdpbdkacngaemaaDoor.wi Go.Proofs.YtdpbdkacngaemaaDoor.mt
open Go.Proofs.YtdpbdkacngaemaaDoor.ch (ChL OChs chVals infoCh)
set_option maxRecDepth 100000

attribute [local go_sem] Oper.semAt_some

def twoB (c : Ch) : List (List UInt8) := [intB c.1, textB c.2]
def tokL (p : Pa) : List (List UInt8) := numB p.base.1 :: numB p.base.2 :: numB p.target.1 :: numB p.target.2 :: intB p.fr :: intB p.all :: numB p.chs.length :: p.chs.flatMap twoB
theorem tokL_flat (p : Pa) : (tokL p).flatten = pBytes p := by
  have h : ∀ l : List Ch, (l.flatMap twoB).flatten = chsB l := fun l => by
    induction l with
    | nil => rfl
    | cons c r ih =>
      show (twoB c ++ r.flatMap twoB).flatten = chB c ++ chsB r
      rw [List.flatten_append, ih]
      simp [twoB, chB]
  unfold tokL pBytes headB gdBs
  simp only [List.flatten_cons, h, List.append_assoc]
theorem tokL_len (p : Pa) : (tokL p).length = 7 + 2 * p.chs.length := by
  have h : ∀ l : List Ch, (l.flatMap twoB).length = 2 * l.length := fun l => by
    induction l with
    | nil => rfl
    | cons c r ih =>
      show (twoB c ++ r.flatMap twoB).length = 2 * (r.length + 1)
      rw [List.length_append, ih]
      show 2 + _ = _
      omega
  unfold tokL
  simp only [List.length_cons, h]
  omega
theorem two_at : ∀ (l : List Ch) (i : Nat) (h : i < l.length), (l.flatMap twoB).getD (2 * i) [] = intB l[i].1 ∧ (l.flatMap twoB).getD (2 * i + 1) [] = textB l[i].2
  | [], i, h => absurd h (by simp)
  | c :: r, 0, h => ⟨rfl, rfl⟩
  | c :: r, i + 1, h => two_at r i (by simpa using h)
def tkF (p : Pa) (i : Nat) : List UInt8 := (tokL p).getD i []
theorem tks (p : Pa) : Tks p (tkF p) := by
  refine ⟨rfl, rfl, rfl, rfl, rfl, rfl, rfl, fun i h => ?_, fun i h => ?_⟩
  · rw [Nat.add_comm]
    exact (two_at p.chs i h).1
  · rw [show 8 + 2 * i = (2 * i + 1) + 7 by omega]
    exact (two_at p.chs i h).2
abbrev Tk := { x : List UInt8 // x.length ≤ 1000 }
theorem lift_tk : ∀ (l : List (List UInt8)), (∀ x ∈ l, x.length ≤ 1000) → ∃ T : List Tk, T.map (fun x => x.1) = l
  | [], _ => ⟨[], rfl⟩
  | x :: r, h => by
    obtain ⟨T, hT⟩ := lift_tk r (fun y hy => h y (List.mem_cons_of_mem _ hy))
    exact ⟨⟨x, h x (by simp)⟩ :: T, by rw [List.map_cons, hT]⟩
theorem tok_thin (p : Pa) (h : Ok p) : ∀ x ∈ tokL p, x.length ≤ 1000 := by
  have h9 : ∀ n, (numB n).length ≤ 9 := fun n => by
    have := digs_len n
    simp [numB]
    omega
  have hn : ∀ n, (numB n).length ≤ 1000 := fun n => by have := h9 n; omega
  intro x hx
  simp only [tokL, List.mem_cons, List.mem_flatMap] at hx
  rcases hx with rfl | rfl | rfl | rfl | rfl | rfl | rfl | ⟨c, hc, hx⟩
  · exact hn _
  · exact hn _
  · exact hn _
  · exact hn _
  · exact hn _
  · exact hn _
  · exact hn _
  · simp only [twoB, List.mem_cons, List.not_mem_nil, or_false] at hx
    rcases hx with rfl | rfl
    · exact hn _
    · have := (h.chs c hc).2.2
      have h3 := h9 c.2.length
      unfold textB
      rw [List.length_append]
      omega

theorem grown_of {w w' : World} (h : Below w.heap.size w w') : w.grownBy w' none := ⟨h.os, h.tape, h.output, h.size, fun k hk _ => h.block k hk⟩

theorem pieces_stops {w0 w : World} {nB Bs : Nat} {p : Pa} {A : Option Addr} {c : Nat} {T : List Tk} (nn : Nat) (hA : ChL w0 A p.chs) (hok : Ok p) (hgb : gdB p.base) (hgt : gdB p.target)
    (hb : Below w0.heap.size w0 w) (hp : Blk w Bs 27 (paC p A c)) (hns : Bs ≠ nB) (hnl : nB < w.heap.size) (hT : T.map (fun x => x.1) = tokL p) :
    SeqStopsK Fence.wide nn Tryd.prog 45 #[.pointer (some ⟨Bs, 0, none⟩)] (fun x : Tk => #[.string (str x.1)]) (KE w0.heap.size nB) (fun ys => ys = T) (fun _ => True) T.length w := by
  intro l J Jx W hW hJ hJx hY h0
  have hlen : T.length = 7 + 2 * p.chs.length := by rw [← tokL_len, ← hT, List.length_map]
  have hsz := hb.size
  have hbW : Below w0.heap.size w0 W := below_step hb hW
  refine CallsIn.mono (pieces1_in (w0 := w0) (nB := nB) (Jn := fun i W => J (T.take i) W) (Jx := fun i W => Jx (T.take i) W) (tk := tkF p) nn hA hok hgb hgt hbW (hp.below hW) hns (Nat.lt_of_lt_of_le hnl hW.size) (tks p) (fun i W1 W2 h1 h2 => hJ _ _ _ none h1 (grown_of h2) (fun r e => by cases e)) (fun i hi W1 h1 => ?_) (by show J (T.take 0) W; rw [List.take_zero]; exact h0)) ?_
  · have hi' : i < T.length := by omega
    have hx : tkF p i = (T[i]).1 := by
      unfold tkF
      rw [← hT, List.getD_eq_getElem?_getD, List.getElem?_map, List.getElem?_eq_getElem hi']
      rfl
    obtain ⟨fn, tmps, assign, body, hy, hR⟩ := yieldAny 0 (hY (T.take i) T[i] W1 h1 (by rw [List.length_take]; omega))
    dsimp only at hy
    rw [hx]
    refine ⟨fn, tmps, assign, body, hy, hR.mono ?_⟩
    rintro e W2 (⟨rfl, h2, h3⟩ | ⟨rfl, h2⟩)
    · exact ⟨true, rfl, .inl ⟨rfl, by rw [List.take_succ_eq_append_getElem hi']; exact h2, h3⟩⟩
    · exact ⟨false, rfl, .inr ⟨rfl, by rw [List.take_succ_eq_append_getElem hi']; exact h2⟩⟩
  · rintro e W2 ⟨h1, h2 | ⟨i, h2⟩⟩
    · refine ⟨h1, .inl ⟨T, rfl, ?_⟩⟩
      rw [List.take_of_length_le (by omega)] at h2
      exact h2
    · exact ⟨h1, .inr ⟨_, trivial, h2⟩⟩

theorem pieces_any (p : Pa) (A : Option Addr) (c : Nat) (w : World) :
    Calls Tryd.prog 31 #[.agg (paC p A c)] w fun e w' => e = .returned (.func (.func 45) #[] #[.pointer (some ⟨w.heap.size, 0, none⟩)]) ∧ w' = w.alloc (.cells (paC p A c) 27) := by
  unfold paC
  go_enter Tryd.func31, Tryd.ntmps31
  go_wp2_with fail
  go_ret
  exact ⟨rfl, rfl⟩
end Go.Proofs.YtdpbdkacngaemaaDoor.st


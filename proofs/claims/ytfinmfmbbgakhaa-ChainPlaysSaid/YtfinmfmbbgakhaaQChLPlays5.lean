/- ChainPlays: whatever is done to a chain, it answers, and tells, as the document says: for the first sixty acts, any number of blocks, and a place where it is copied; the copy goes its own way. No condition. -/
import Derived.Test.YtfinmfmbbgakhaaQ12
import Derived.Test.YtfinmfmbbgakhaaQ8
import Derived.Test.YtfinmfmbbgakhaaQChLPlays2
import Derived.Test.YtfinmfmbbgakhaaQChLPlays3
import Derived.Test.YtfinmfmbbgakhaaQChLPlays4
import Derived.LoopTactic
import Derived.Test.YtfinmfmbbgakhaaRows
import Derived.Deep.DeepHandedRow
import Derived.ProofKit
import Derived.OpenShut
import Derived.ShutString
import Derived.SizedLaws
import Derived.ChangeOld
import Derived.Below
import Derived.SliceStrings
/- The walk of ChainPlays. -/
namespace Go.Proofs.Ytfinmfmbbgakhaa.ch
open Go Go.RowKit Go.Proofs.Ytfinmfmbbgakhaa.ib
set_option maxRecDepth 100000

theorem act8_any {Is : IsT} (H : Impl Is) {m p q : Nat} {X : Nat → Prop} {w : World} {d : CH} (h : Tw Is w m p q d d X) (hm : m ≤ w.heap.size) (x : ActC) (hn : b64 x.n) (hg : gdB x.g) (hT : PtM m w x.A x.zs) (hl : x.zs.length ≤ 9223372036854775807) :
    Calls Try.prog 16 #[.pointer (some ⟨p, 0, none⟩), .pointer (some ⟨q, 0, none⟩), .agg x.cs] w (DoP Is m p q X w (d.act x).1 (d.act x).1) := by
  obtain ⟨what, n, c, g, A, cap, zs⟩ := x
  unfold CH.act
  dsimp only at *
  split
  · rename_i hw
    exact do_write H h hm what hw n c g A cap zs hn
  split
  · rename_i hw
    exact do_snap H h hm what hw n c g A cap zs hg
  split
  · rename_i hw
    exact do_roll H h hm what hw n c g A cap zs hn
  split
  · rename_i hw
    exact do_hide H h hm what hw n c g A cap zs hg
  · rename_i k1 k2 k3 k4
    exact do_add H h hm what (fun e => k1 (.inl e)) (fun e => k1 (.inr (.inl e))) (fun e => k1 (.inr (.inr e))) (fun e => k2 (.inl e)) (fun e => k2 (.inr e)) k3 k4 n c g hg A cap zs hT hl

/-- Both chains, the act done or not. -/
def PlS (Is : IsT) (m p q : Nat) (w0 : World) (d d' : CH) (b : Bool) (W : World) : Prop := TwK Is m p q (fun _ => False) w0 (if b then d' else d) (if b then d' else d) W
def PlG (pp qq bb bo k len c0 : Nat) (what n cz y1 y2 : Int) (A : Option Addr) (zl cap : Nat) : Nat → Value → World → Prop
  | 0, v, _ => v = .pointer (some ⟨pp, 0, none⟩)
  | 1, v, _ => v = .pointer (some ⟨qq, 0, none⟩)
  | 2, v, _ => v = .slice (some ⟨bb, bo, none⟩) len c0
  | 3, v, _ => v = .int .i64 (k : Int)
  | 4, v, _ => v = .pointer (some ⟨bb, bo + k * 6, none⟩)
  | 5, v, _ => v = .agg #[.int .i64 what, .int .i64 n, .int .u8 cz, .int .u64 y1, .int .u64 y2, .slice A zl cap]
  | 6, v, _ => v = .bool true
  | 7, v, _ => v = .bool false
  | 8, v, _ => v = .bool false
  | 9, v, _ => v = .pointer (some ⟨pp, 0, none⟩)
  | 10, v, _ => v = .pointer (some ⟨qq, 0, none⟩)
  | 11, v, _ => v = .slice (some ⟨bb, bo, none⟩) len c0
  | 12, v, _ => v = .int .i64 (k : Int)
  | 13, v, _ => v = .pointer (some ⟨bb, bo + k * 6, none⟩)
  | 14, v, _ => v = .pointer (some ⟨bb, bo + k * 6 + 3, none⟩)
  | 15, v, _ => v = .agg #[.int .u64 y1, .int .u64 y2]
  | 16, v, _ => v = .slice (some ⟨bb, bo, none⟩) len c0
  | 17, v, _ => v = .int .i64 (k : Int)
  | 18, v, _ => v = .pointer (some ⟨bb, bo + k * 6, none⟩)
  | 19, v, _ => v = .pointer (some ⟨bb, bo + k * 6 + 1, none⟩)
  | 20, v, _ => v = .int .i64 n
  | 21, v, _ => v = .bool true
  | 22, v, _ => v = .bool false
  | 23, v, _ => v = .bool false
  | _, _, _ => True

/-- The loop's relation. -/
def PlRel (Is : IsT) (n : Nat) (w : World) (v u i : Value) (wr : World) : Prop :=
  ∃ (k : Nat) (d : CH) (p q : Nat), k ≤ n ∧ k ≤ 60 ∧ v = .pointer (some ⟨p, 0, none⟩) ∧ u = .pointer (some ⟨q, 0, none⟩) ∧ i = .int .i64 (k : Int) ∧ Tw Is wr w.heap.size p q d d (fun _ => False) ∧ Below w.heap.size w wr

set_option maxRecDepth 100000 in
set_option maxHeartbeats 6400000 in
theorem chainPlays_walk {Is : IsT} (H : Impl Is) (A0 : Option Addr) (c0 : Nat) (xs : List ActC) (b : Int) (wb : (Lit.int .i64 b).wf = true) (cp : Int) (wc : (Lit.int .u8 cp).wf = true) (w : World) (hl : xs.length ≤ 9223372036854775807) (hT : ActsC w A0 xs) :
    Calls Try.prog 3 #[.slice A0 xs.length c0, .int .i64 b, .int .u8 cp] w (okTrue w) := by
  have hb64 : b64 b := bounds_i64 wb
  have hcb := bounds_u8 wc
  have HT := Lib.hid hT
  obtain ⟨co, hco⟩ : ∃ co : Nat, cp % 60 = (co : Int) := ⟨(cp % 60).toNat, by omega⟩
  have HCE := Lib.hid hco
  obtain ⟨len, hlen⟩ : ∃ n, xs.length = n := ⟨_, rfl⟩
  have HLEN := Lib.hid hlen
  rw [hlen] at hl ⊢
  clear hT wb wc hco hlen
  go_enter Try.func3, Try.ntmps3
  go_wp2_with fail
  by_cases hbn : b < 1 ∨ 8 < b
  · refine (H.new_none b w hb64 hbn).mono ?_
    rintro e W1 ⟨rfl, hb1⟩
    have HB1 := Lib.hid hb1
    clear hb1
    go_wp2_with fail
    refine (rnew_none b W1 hbn).mono ?_
    rintro e W2 ⟨rfl, hb2⟩
    have HB2 := Lib.hid (below_step HB1.out hb2)
    clear hb2
    go_wp2_with fail
    refine (works_any H W2).mono ?_
    rintro e W3 ⟨rfl, hb3⟩
    have HB3 := Lib.hid (below_step HB2.out hb3)
    clear hb3
    go_wp2_with fail
    go_ret
    exact ⟨rfl, HB3.out⟩
  · obtain ⟨nb, rfl⟩ : ∃ nb : Nat, b = (nb : Int) := ⟨b.toNat, by omega⟩
    have hn1 : 1 ≤ nb := by omega
    have hn8 : nb ≤ 8 := by omega
    clear hbn hb64
    refine (H.new_some nb w hn1 hn8).mono ?_
    rintro e W1 ⟨p, own, rfl, hi1, hb1, ho1⟩
    have HI1 := Lib.hid hi1
    have HB1 := Lib.hid hb1
    have HO1 := Lib.hid ho1
    clear hi1 hb1 ho1
    go_wp2_with fail
    refine (rnew_some nb W1 hn1 hn8).mono ?_
    rintro e W2 ⟨q, own2, rfl, hi2, hb2, ho2⟩
    have HTW : Hid (Tw Is W2 w.heap.size p q (chNew nb) (chNew nb) (fun _ => False)) :=
      ⟨own, own2, H.keep HI1.out (fun j hj => hb2.block j (H.low HI1.out j hj)) hb2.size, hi2, fun j hj => ⟨HO1.out j hj, fun h => by have := ho2 j h; have := H.low HI1.out j hj; omega, id⟩, fun j hj => ⟨Nat.le_trans HB1.out.size (ho2 j hj), id⟩, fun j hj => hj.elim⟩
    have HB2 := Lib.hid (below_step HB1.out hb2)
    clear hi2 hb2 ho2 HI1 HB1 HO1
    generalize chNew nb = d0 at *
    go_wp2_with fail
    go_loopw [7, 8, 9, 10] (fun v u i _ wr => PlRel Is len w v u i wr) (fun _ _ i _ _ => 61 - (intOf i).toNat)
    case atStart => exact ⟨0, d0, p, q, Nat.zero_le _, Nat.zero_le _, rfl, rfl, rfl, HTW.out, HB2.out⟩
    case round =>
      obtain ⟨k, d, p, q, hk, hk60, rfl, rfl, rfl, htw, hbw⟩ := hrel
      have HTK := Lib.hid htw
      have HBK := Lib.hid hbw
      clear htw hbw HTW HB2
      by_cases hgo : k < len ∧ k < 60
      · obtain ⟨hlt, hlt6⟩ := hgo
        have hkl : (k : Int) < (len : Int) := by omega
        have hk6 : (k : Int) < 60 := by omega
        obtain ⟨bb, bo, rfl, hbb, q0, q1, q2, q3, q4, q5, hok⟩ := HT.out k (by rw [HLEN.out]; exact hlt)
        have Q0 := Lib.hid q0
        have Q1 := Lib.hid q1
        have Q2 := Lib.hid q2
        have Q3 := Lib.hid q3
        have Q4 := Lib.hid q4
        have Q5 := Lib.hid q5
        have HOK := Lib.hid hok
        clear q0 q1 q2 q3 q4 q5 hok
        have HM : Hid (w.heap.size ≤ wr.heap.size) := HBK.out.size
        by_cases hcopy : k = co
        case' pos =>
          subst hcopy
          have hce := HCE.out
          obtain ⟨own, own2, hd, hr, hx1, hx2, _⟩ := HTK.out
          have HD := Lib.hid hd
          have HR := Lib.hid hr
          have HX1 := Lib.hid hx1
          clear hd hr hx1 hx2
          go_wp2_with fail
          refine (H.copy HD.out).mono ?_
          rintro e W1 ⟨p1, own3, rfl, i1, b1, o1⟩
          have I1 := Lib.hid i1
          have B1 := Lib.hid b1
          have O1 := Lib.hid o1
          have D1 := Lib.hid (H.keep HD.out (fun j hj => b1.block j (H.low HD.out j hj)) b1.size)
          have R1 := Lib.hid (HR.out.below b1)
          clear i1 b1 o1
          go_wp2_with fail
          refine (rcopy_any R1.out).mono ?_
          rintro e W2 ⟨q1, own4, rfl, i2, b2, o2⟩
          have I2 := Lib.hid (H.keep I1.out (fun j hj => b2.block j (H.low I1.out j hj)) b2.size)
          have J2 := Lib.hid i2
          have B2 := Lib.hid (below_step B1.out b2)
          have O2 := Lib.hid o2
          have HS1 : Hid (W1.heap.size ≤ W2.heap.size) := b2.size
          have D2 := Lib.hid (H.keep D1.out (fun j hj => b2.block j (H.low D1.out j hj)) b2.size)
          clear i2 b2 o2 D1 R1
          go_wp2_with fail
          refine (data_any 120 W2).mono ?_
          rintro e W2' ⟨rfl, b2⟩
          have I3 := Lib.hid (H.keep I2.out (fun j hj => b2.block j (H.low I2.out j hj)) b2.size)
          have J3 := Lib.hid (J2.out.below b2)
          have B3 := Lib.hid (below_step B2.out b2)
          have D3 := Lib.hid (H.keep D2.out (fun j hj => b2.block j (H.low D2.out j hj)) b2.size)
          have HS2 : Hid (W2.heap.size ≤ W2'.heap.size) := b2.size
          clear b2
          go_wp2_with fail
          refine (H.write1 0 (dat 120) D3.out (by unfold b64; omega)).mono ?_
          rintro e W4 ⟨⟨rfl, own5, d5, _, _⟩, t5⟩
          have D5 := Lib.hid d5
          have T5 := Lib.hid t5
          clear d5 t5
          go_wp2_with fail
          refine (H.roll1 0 D5.out (by unfold b64; omega)).mono ?_
          rintro e W3 ⟨⟨rfl, own6, _, _, _⟩, t6⟩
          have ht : But (fun j => j = p) W2' W3 := T5.out.trans t6 (fun _ h => .inl h)
          have hop := H.at_ HD.out
          have hpl := H.low HD.out _ hop
          have HT3 : Hid (Tw Is W3 w.heap.size p1 q1 d d (fun _ => False)) := by
            have hs1 := HS1.out
            have hs2 := HS2.out
            have hm := HM.out
            have hb1 := B1.out.size
            refine ⟨own3, own4, H.keep I3.out (fun j hj => ht.block j (H.low I3.out j hj) fun ho => ?_) ht.size, J3.out.keep (fun j hj => ht.block j (J3.out.low j hj) fun ho => ?_) ht.size, fun j hj => ⟨?_, fun h => ?_, id⟩, fun j hj => ⟨?_, id⟩, fun j hj => hj.elim⟩
            · rcases O1.out j hj with h1 | h1
              · exact h1.2 ho
              · omega
            · have := O2.out j hj
              omega
            · rcases O1.out j hj with h1 | h1
              · exact (HX1.out j h1.1).1
              · omega
            · have := O2.out j h
              have := H.low I1.out j hj
              omega
            · have := O2.out j hj
              omega
          have HB3 : Hid (Below w.heap.size w W3) := (HBK.out.trans (B3.out.mono HM.out)).trans (ht.below (fun j hj => by rw [hj]; exact (HX1.out _ hop).1) (Nat.le_trans HM.out B3.out.size))
          clear ht t6 T5 hop hpl D5 I3 J3 B3 D3 HS2 I2 J2 B2 O2 HS1 D2 I1 B1 O1 HD HR HX1 hce HTK HBK HM
          dsimp only
          go_wp2_with fail
          obtain ⟨pp, hpp⟩ : ∃ x, x = p1 := ⟨_, rfl⟩
          obtain ⟨qq, hqq⟩ : ∃ x, x = q1 := ⟨_, rfl⟩
          subst hpp
          subst hqq
        case' neg =>
          have hce := HCE.out
          have hceq : ((k : Int) == (co : Int)) = false := by simp; omega
          have HT3 := HTK
          have HB3 := HBK
          clear HTK HBK HM
          go_wp2_with fail
          clear hce hceq
          obtain ⟨pp, hpp⟩ : ∃ x, x = p := ⟨_, rfl⟩
          obtain ⟨qq, hqq⟩ : ∃ x, x = q := ⟨_, rfl⟩
          subst hpp
          subst hqq
          obtain ⟨W3, hW3⟩ : ∃ x, x = wr := ⟨_, rfl⟩
          subst hW3
        all_goals
          have HM3 : Hid (w.heap.size ≤ W3.heap.size) := HB3.out.size
          have HLX : Hid (len ≤ 9223372036854775807) := hl
          generalize xs[k]'(by rw [HLEN.out]; exact hlt) = x at *
          obtain ⟨what, n, c, g, A, cap, zs⟩ := x
          obtain ⟨hn, hg, hpt, hzl⟩ := HOK.out
          dsimp only at hpt
          have HPT : Hid (PtM w.heap.size w A zs) := ⟨hpt, fun i hi j hj => by obtain ⟨b, o, h1, h2, _⟩ := hpt i hi; obtain ⟨o', h3⟩ := hj; rw [h1] at h3; simp only [Option.some.injEq, Addr.mk.injEq] at h3; omega⟩
          dsimp only at Q0 Q1 Q2 Q3 Q4 Q5 hn hg hzl
          obtain ⟨d', hd'⟩ : ∃ d', (d.act ⟨what, n, c, g, A, cap, zs⟩).1 = d' := ⟨_, rfl⟩
          obtain ⟨y1, hy1⟩ : ∃ y, (g.1 : Int) = y := ⟨_, rfl⟩
          obtain ⟨y2, hy2⟩ : ∃ y, (g.2 : Int) = y := ⟨_, rfl⟩
          obtain ⟨cz, hcz⟩ : ∃ y, (c.toNat : Int) = y := ⟨_, rfl⟩
          have HACT : Hid (∀ W, TwK Is w.heap.size pp qq (fun _ => False) W3 d d W → Below w.heap.size w W → Calls Try.prog 16 #[.pointer (some ⟨pp, 0, none⟩), .pointer (some ⟨qq, 0, none⟩), .agg #[.int .i64 what, .int .i64 n, .int .u8 cz, .int .u64 y1, .int .u64 y2, .slice A zs.length cap]] W (fun x W' => x = .returned (.bool true) ∧ TwK Is w.heap.size pp qq (fun _ => False) W3 d' d' W')) := fun W hS hbm => by
            have h := act8_any H hS.1 hbm.size ⟨what, n, c, g, A, cap, zs⟩ hn hg (HPT.out.below hbm) hzl
            unfold ActC.cs at h
            dsimp only at h
            rw [hd', hy1, hy2, hcz] at h
            exact h.mono fun e W' ⟨h1, h2, h3⟩ => ⟨h1, h2, hS.2.trans h3⟩
          have HSAM : Hid (∀ W, TwK Is w.heap.size pp qq (fun _ => False) W3 d' d' W → Calls Try.prog 17 #[.pointer (some ⟨pp, 0, none⟩), .pointer (some ⟨qq, 0, none⟩), .agg #[.int .u64 y1, .int .u64 y2], .int .i64 n] W (okB true W)) := fun W hS => by
            have h := same_any H hS.1 g hg n hn
            unfold gv at h
            rw [hy1, hy2] at h
            exact h
          rw [hy1] at Q3
          rw [hy2] at Q4
          rw [hcz] at Q2
          have HS3 : Hid (PlS Is w.heap.size pp qq W3 d d' false W3.drew) := ⟨HT3.out.below H (drewC (Below.refl _ _) 1), Ke.of_below (drewC (Below.refl _ _) 1)⟩
          clear hy1 hy2 hcz hd' hn hg hpt hzl HOK HPT hl
          generalize zs.length = zl at *
          refine wp_region_inv (by kernel_rfl) [55, 56, 57, 58, 59, 60, 61, 62, 63, 64, 65, 66, 67, 68, 69, 70, 71, 72, 73, 74, 75, 76, 77, 78] (by kernel_rfl) (fun L vs W => PlS Is w.heap.size pp qq W3 d d' (L 6) W ∧ (L 8 = true → L 6 = true) ∧ ∀ i, L i = true → i < 24 → PlG pp qq bb bo k len c0 what n cz y1 y2 A zl cap i (vs i) W) ⟨HS3.out, fun h => (by cases h), fun i hi => by cases hi⟩ ?_ ?_ ?_
          · intro i o L vs ρ W ho hli haft hρ hgd hI
            obtain ⟨hS, hC, hG'⟩ := hI
            have hG : ∀ j, L j = true → PlG pp qq bb bo k len c0 what n cz y1 y2 A zl cap j (vs j) W := fun j hj => by
              by_cases h16 : j < 24
              · exact hG' j hj h16
              · match j, h16 with
                | j + 24, _ => exact trivial
            have hi16 : i < 24 := (Array.getElem?_eq_some_iff.1 ho).1
            have hc := hρ.const
            have hfn := hρ.fn
            have nextG : ∀ v W', PlG pp qq bb bo k len c0 what n cz y1 y2 A zl cap i v W' → ∀ j, updB L i j = true → j < 24 → PlG pp qq bb bo k len c0 what n cz y1 y2 A zl cap j (updV vs i v j) W' := fun v W' h2 j hj h16 => by
              by_cases hji : j = i
              · subst hji
                simpa [updV] using h2
              · simp only [updB, if_neg hji] at hj
                have := hG' j hj h16
                simp only [updV, if_neg hji]
                match j, h16, this with
                | 0, _, h => exact h
                | 1, _, h => exact h
                | 2, _, h => exact h
                | 3, _, h => exact h
                | 4, _, h => exact h
                | 5, _, h => exact h
                | 6, _, h => exact h
                | 7, _, h => exact h
                | 8, _, h => exact h
                | 9, _, h => exact h
                | 10, _, h => exact h
                | 11, _, h => exact h
                | 12, _, h => exact h
                | 13, _, h => exact h
                | 14, _, h => exact h
                | 15, _, h => exact h
                | 16, _, h => exact h
                | 17, _, h => exact h
                | 18, _, h => exact h
                | 19, _, h => exact h
                | 20, _, h => exact h
                | 21, _, h => exact h
                | 22, _, h => exact h
                | 23, _, h => exact h
                | j + 24, h, _ => exact absurd h (by omega)
            have next : i ≠ 6 → (i = 8 → L 6 = true) → ∀ v W', PlS Is w.heap.size pp qq W3 d d' (L 6) W' → PlG pp qq bb bo k len c0 what n cz y1 y2 A zl cap i v W' → PlS Is w.heap.size pp qq W3 d d' (updB L i 6) W' ∧ (updB L i 8 = true → updB L i 6 = true) ∧ ∀ j, updB L i j = true → j < 24 → PlG pp qq bb bo k len c0 what n cz y1 y2 A zl cap j (updV vs i v j) W' := fun n1 n3 v W' h1 h2 => by
              refine ⟨?_, ?_, nextG v W' h2⟩
              · simp only [updB, if_neg (Ne.symm n1)]
                exact h1
              · intro hm
                simp only [updB, if_neg (Ne.symm n1)]
                by_cases him : 8 = i
                · exact n3 him.symm
                · simp only [updB, if_neg him] at hm
                  exact hC hm
            have hbm : Below w.heap.size w W := HB3.out.trans (hS.2.below HM3.out)
            have l0 : W.cell? ⟨bb, bo + k * 6, none⟩ = some (.int .i64 what) := by rw [hbm.cell (p := ⟨bb, bo + k * 6, none⟩) hbb]; exact Q0.out
            have l1 : W.cell? ⟨bb, bo + k * 6 + 1, none⟩ = some (.int .i64 n) := by rw [hbm.cell (p := ⟨bb, bo + k * 6 + 1, none⟩) hbb]; exact Q1.out
            have l2 : W.cell? ⟨bb, bo + k * 6 + 2, none⟩ = some (.int .u8 cz) := by rw [hbm.cell (p := ⟨bb, bo + k * 6 + 2, none⟩) hbb]; exact Q2.out
            have l3 : W.cell? ⟨bb, bo + k * 6 + 3, none⟩ = some (.int .u64 y1) := by rw [hbm.cell (p := ⟨bb, bo + k * 6 + 3, none⟩) hbb]; exact Q3.out
            have l4 : W.cell? ⟨bb, bo + k * 6 + 4, none⟩ = some (.int .u64 y2) := by rw [hbm.cell (p := ⟨bb, bo + k * 6 + 4, none⟩) hbb]; exact Q4.out
            have l5 : W.cell? ⟨bb, bo + k * 6 + 5, none⟩ = some (.slice A zl cap) := by rw [hbm.cell (p := ⟨bb, bo + k * 6 + 5, none⟩) hbb]; exact Q5.out
            have hltb : bb < W.heap.size := Nat.lt_of_lt_of_le hbb hbm.size
            rcases i with _ | _ | _ | _ | _ | _ | _ | _ | _ | _ | _ | _ | _ | _ | _ | _ | _ | _ | _ | _ | _ | _ | _ | _ | i
            all_goals (first | omega | skip)
            all_goals simp only [List.getElem?_toArray, List.getElem?_cons_zero, List.getElem?_cons_succ, Option.some.injEq] at ho
            all_goals subst ho
            · have o7 : ρ (.tmp 7) = .pointer (some ⟨pp, 0, none⟩) := hρ.out 7 rfl
              exact stepTo_value (w' := W) (by unfold execOp; simp only [o7, hc]; go_simp) (next (by decide) (fun h => absurd h (by decide)) _ _ hS rfl)
            · have o8 : ρ (.tmp 8) = .pointer (some ⟨qq, 0, none⟩) := hρ.out 8 rfl
              exact stepTo_value (w' := W) (by unfold execOp; simp only [o8, hc]; go_simp) (next (by decide) (fun h => absurd h (by decide)) _ _ hS rfl)
            · have o0 : ρ (.tmp 0) = .slice (some ⟨bb, bo, none⟩) len c0 := hρ.out 0 rfl
              exact stepTo_value (w' := W) (by unfold execOp; simp only [o0, hc]; go_simp) (next (by decide) (fun h => absurd h (by decide)) _ _ hS rfl)
            · have o9 : ρ (.tmp 9) = .int .i64 (k : Int) := hρ.out 9 rfl
              exact stepTo_value (w' := W) (by unfold execOp; simp only [o9, hc]; go_simp) (next (by decide) (fun h => absurd h (by decide)) _ _ hS rfl)
            · have g57 : PlG pp qq bb bo k len c0 what n cz y1 y2 A zl cap 2 (vs 2) W := hG 2 (haft 2 (by kernel_rfl))
              have s57 : ρ (.tmp 57) = .slice (some ⟨bb, bo, none⟩) len c0 := (hρ.at_ 57 2 rfl).trans g57
              have g58 : PlG pp qq bb bo k len c0 what n cz y1 y2 A zl cap 3 (vs 3) W := hG 3 (haft 3 (by kernel_rfl))
              have s58 : ρ (.tmp 58) = .int .i64 (k : Int) := (hρ.at_ 58 3 rfl).trans g58
              exact stepTo_value (w' := W) (by unfold execOp; simp only [s57, s58, hc]; go_simp) (next (by decide) (fun h => absurd h (by decide)) _ _ hS rfl)
            · have g59 : PlG pp qq bb bo k len c0 what n cz y1 y2 A zl cap 4 (vs 4) W := hG 4 (haft 4 (by kernel_rfl))
              have s59 : ρ (.tmp 59) = .pointer (some ⟨bb, bo + k * 6, none⟩) := (hρ.at_ 59 4 rfl).trans g59
              exact stepTo_value (w' := W) (by unfold execOp; simp only [s59, hc]; go_simp) (next (by decide) (fun h => absurd h (by decide)) _ _ hS rfl)
            · have g55 : PlG pp qq bb bo k len c0 what n cz y1 y2 A zl cap 0 (vs 0) W := hG 0 (haft 0 (by kernel_rfl))
              have s55 : ρ (.tmp 55) = .pointer (some ⟨pp, 0, none⟩) := (hρ.at_ 55 0 rfl).trans g55
              have g56 : PlG pp qq bb bo k len c0 what n cz y1 y2 A zl cap 1 (vs 1) W := hG 1 (haft 1 (by kernel_rfl))
              have s56 : ρ (.tmp 56) = .pointer (some ⟨qq, 0, none⟩) := (hρ.at_ 56 1 rfl).trans g56
              have g60 : PlG pp qq bb bo k len c0 what n cz y1 y2 A zl cap 5 (vs 5) W := hG 5 (haft 5 (by kernel_rfl))
              have s60 : ρ (.tmp 60) = .agg #[.int .i64 what, .int .i64 n, .int .u8 cz, .int .u64 y1, .int .u64 y2, .slice A zl cap] := (hρ.at_ 60 5 rfl).trans g60
              rw [hli] at hS
              refine stepTo_enter (f := 16) (args := #[.pointer (some ⟨pp, 0, none⟩), .pointer (some ⟨qq, 0, none⟩), .agg #[.int .i64 what, .int .i64 n, .int .u8 cz, .int .u64 y1, .int .u64 y2, .slice A zl cap]]) (w' := W) (by unfold execOp; simp only [hfn, s55, s56, s60]; go_simp) ((HACT.out W hS hbm).mono ?_)
              rintro x W' ⟨rfl, h1⟩
              refine ⟨_, rfl, ?_, fun _ => by simp [updB], nextG _ _ rfl⟩
              simp only [updB]
              exact h1
            · have g61 : PlG pp qq bb bo k len c0 what n cz y1 y2 A zl cap 6 (vs 6) W := hG 6 (haft 6 (by kernel_rfl))
              have s61 : ρ (.tmp 61) = .bool true := (hρ.at_ 61 6 rfl).trans g61
              exact stepTo_value (w' := W) (by unfold execOp; simp only [s61, hc]; go_simp) (next (by decide) (fun h => absurd h (by decide)) _ _ hS rfl)
            · have g62 : PlG pp qq bb bo k len c0 what n cz y1 y2 A zl cap 7 (vs 7) W := hG 7 (haft 7 (by kernel_rfl))
              have s62 : ρ (.tmp 62) = .bool false := (hρ.at_ 62 7 rfl).trans g62
              exact stepTo_value (w' := W) (by unfold execOp; simp only [s62, hc]; go_simp) (next (by decide) (fun _ => haft 6 (by kernel_rfl)) _ _ hS rfl)
            · have o7 : ρ (.tmp 7) = .pointer (some ⟨pp, 0, none⟩) := hρ.out 7 rfl
              exact stepTo_value (w' := W) (by unfold execOp; simp only [o7, hc]; go_simp) (next (by decide) (fun h => absurd h (by decide)) _ _ hS rfl)
            · have o8 : ρ (.tmp 8) = .pointer (some ⟨qq, 0, none⟩) := hρ.out 8 rfl
              exact stepTo_value (w' := W) (by unfold execOp; simp only [o8, hc]; go_simp) (next (by decide) (fun h => absurd h (by decide)) _ _ hS rfl)
            · have o0 : ρ (.tmp 0) = .slice (some ⟨bb, bo, none⟩) len c0 := hρ.out 0 rfl
              exact stepTo_value (w' := W) (by unfold execOp; simp only [o0, hc]; go_simp) (next (by decide) (fun h => absurd h (by decide)) _ _ hS rfl)
            · have o9 : ρ (.tmp 9) = .int .i64 (k : Int) := hρ.out 9 rfl
              exact stepTo_value (w' := W) (by unfold execOp; simp only [o9, hc]; go_simp) (next (by decide) (fun h => absurd h (by decide)) _ _ hS rfl)
            · have g66 : PlG pp qq bb bo k len c0 what n cz y1 y2 A zl cap 11 (vs 11) W := hG 11 (haft 11 (by kernel_rfl))
              have s66 : ρ (.tmp 66) = .slice (some ⟨bb, bo, none⟩) len c0 := (hρ.at_ 66 11 rfl).trans g66
              have g67 : PlG pp qq bb bo k len c0 what n cz y1 y2 A zl cap 12 (vs 12) W := hG 12 (haft 12 (by kernel_rfl))
              have s67 : ρ (.tmp 67) = .int .i64 (k : Int) := (hρ.at_ 67 12 rfl).trans g67
              exact stepTo_value (w' := W) (by unfold execOp; simp only [s66, s67, hc]; go_simp) (next (by decide) (fun h => absurd h (by decide)) _ _ hS rfl)
            · have g68 : PlG pp qq bb bo k len c0 what n cz y1 y2 A zl cap 13 (vs 13) W := hG 13 (haft 13 (by kernel_rfl))
              have s68 : ρ (.tmp 68) = .pointer (some ⟨bb, bo + k * 6, none⟩) := (hρ.at_ 68 13 rfl).trans g68
              exact stepTo_value (w' := W) (by unfold execOp; simp only [s68, hc]; go_simp) (next (by decide) (fun h => absurd h (by decide)) _ _ hS rfl)
            · have g69 : PlG pp qq bb bo k len c0 what n cz y1 y2 A zl cap 14 (vs 14) W := hG 14 (haft 14 (by kernel_rfl))
              have s69 : ρ (.tmp 69) = .pointer (some ⟨bb, bo + k * 6 + 3, none⟩) := (hρ.at_ 69 14 rfl).trans g69
              exact stepTo_value (w' := W) (by unfold execOp; simp only [s69, hc]; go_simp) (next (by decide) (fun h => absurd h (by decide)) _ _ hS rfl)
            · have o0 : ρ (.tmp 0) = .slice (some ⟨bb, bo, none⟩) len c0 := hρ.out 0 rfl
              exact stepTo_value (w' := W) (by unfold execOp; simp only [o0, hc]; go_simp) (next (by decide) (fun h => absurd h (by decide)) _ _ hS rfl)
            · have o9 : ρ (.tmp 9) = .int .i64 (k : Int) := hρ.out 9 rfl
              exact stepTo_value (w' := W) (by unfold execOp; simp only [o9, hc]; go_simp) (next (by decide) (fun h => absurd h (by decide)) _ _ hS rfl)
            · have g71 : PlG pp qq bb bo k len c0 what n cz y1 y2 A zl cap 16 (vs 16) W := hG 16 (haft 16 (by kernel_rfl))
              have s71 : ρ (.tmp 71) = .slice (some ⟨bb, bo, none⟩) len c0 := (hρ.at_ 71 16 rfl).trans g71
              have g72 : PlG pp qq bb bo k len c0 what n cz y1 y2 A zl cap 17 (vs 17) W := hG 17 (haft 17 (by kernel_rfl))
              have s72 : ρ (.tmp 72) = .int .i64 (k : Int) := (hρ.at_ 72 17 rfl).trans g72
              exact stepTo_value (w' := W) (by unfold execOp; simp only [s71, s72, hc]; go_simp) (next (by decide) (fun h => absurd h (by decide)) _ _ hS rfl)
            · have g73 : PlG pp qq bb bo k len c0 what n cz y1 y2 A zl cap 18 (vs 18) W := hG 18 (haft 18 (by kernel_rfl))
              have s73 : ρ (.tmp 73) = .pointer (some ⟨bb, bo + k * 6, none⟩) := (hρ.at_ 73 18 rfl).trans g73
              exact stepTo_value (w' := W) (by unfold execOp; simp only [s73, hc]; go_simp) (next (by decide) (fun h => absurd h (by decide)) _ _ hS rfl)
            · have g74 : PlG pp qq bb bo k len c0 what n cz y1 y2 A zl cap 19 (vs 19) W := hG 19 (haft 19 (by kernel_rfl))
              have s74 : ρ (.tmp 74) = .pointer (some ⟨bb, bo + k * 6 + 1, none⟩) := (hρ.at_ 74 19 rfl).trans g74
              exact stepTo_value (w' := W) (by unfold execOp; simp only [s74, hc]; go_simp) (next (by decide) (fun h => absurd h (by decide)) _ _ hS rfl)
            · have g64 : PlG pp qq bb bo k len c0 what n cz y1 y2 A zl cap 9 (vs 9) W := hG 9 (haft 9 (by kernel_rfl))
              have s64 : ρ (.tmp 64) = .pointer (some ⟨pp, 0, none⟩) := (hρ.at_ 64 9 rfl).trans g64
              have g65 : PlG pp qq bb bo k len c0 what n cz y1 y2 A zl cap 10 (vs 10) W := hG 10 (haft 10 (by kernel_rfl))
              have s65 : ρ (.tmp 65) = .pointer (some ⟨qq, 0, none⟩) := (hρ.at_ 65 10 rfl).trans g65
              have g70 : PlG pp qq bb bo k len c0 what n cz y1 y2 A zl cap 15 (vs 15) W := hG 15 (haft 15 (by kernel_rfl))
              have s70 : ρ (.tmp 70) = .agg #[.int .u64 y1, .int .u64 y2] := (hρ.at_ 70 15 rfl).trans g70
              have g75 : PlG pp qq bb bo k len c0 what n cz y1 y2 A zl cap 20 (vs 20) W := hG 20 (haft 20 (by kernel_rfl))
              have s75 : ρ (.tmp 75) = .int .i64 n := (hρ.at_ 75 20 rfl).trans g75
              have yq1 : L 6 = true := hC (haft 8 (by kernel_rfl))
              have hS1 := hS
              rw [yq1] at hS1
              refine stepTo_enter (f := 17) (args := #[.pointer (some ⟨pp, 0, none⟩), .pointer (some ⟨qq, 0, none⟩), .agg #[.int .u64 y1, .int .u64 y2], .int .i64 n]) (w' := W) (by unfold execOp; simp only [hfn, s64, s65, s70, s75]; go_simp) ((HSAM.out W hS1).mono ?_)
              rintro x W' ⟨rfl, hb'⟩
              exact ⟨_, rfl, next (by decide) (fun h => absurd h (by decide)) _ _ (by rw [yq1]; exact TwK.below H hS1 hb') rfl⟩
            · have g76 : PlG pp qq bb bo k len c0 what n cz y1 y2 A zl cap 21 (vs 21) W := hG 21 (haft 21 (by kernel_rfl))
              have s76 : ρ (.tmp 76) = .bool true := (hρ.at_ 76 21 rfl).trans g76
              exact stepTo_value (w' := W) (by unfold execOp; simp only [s76, hc]; go_simp) (next (by decide) (fun h => absurd h (by decide)) _ _ hS rfl)
            · have g63 : PlG pp qq bb bo k len c0 what n cz y1 y2 A zl cap 8 (vs 8) W := hG 8 (haft 8 (by kernel_rfl))
              have s63 : ρ (.tmp 63) = .bool false := (hρ.at_ 63 8 rfl).trans g63
              have g77 : PlG pp qq bb bo k len c0 what n cz y1 y2 A zl cap 22 (vs 22) W := hG 22 (haft 22 (by kernel_rfl))
              have s77 : ρ (.tmp 77) = .bool false := (hρ.at_ 77 22 rfl).trans g77
              exact stepTo_value (w' := W) (by unfold execOp; simp only [s63, s77, hc]; go_simp) (next (by decide) (fun h => absurd h (by decide)) _ _ hS rfl)
          · intro i o L vs W j want ho hli haft hg hv hI
            obtain ⟨hS, hC, hG'⟩ := hI
            have hG : ∀ j, L j = true → PlG pp qq bb bo k len c0 what n cz y1 y2 A zl cap j (vs j) W := fun j hj => by
              by_cases h16 : j < 24
              · exact hG' j hj h16
              · match j, h16 with
                | j + 24, _ => exact trivial
            have hi16 : i < 24 := (Array.getElem?_eq_some_iff.1 ho).1
            rcases i with _ | _ | _ | _ | _ | _ | _ | _ | _ | _ | _ | _ | _ | _ | _ | _ | _ | _ | _ | _ | _ | _ | _ | _ | i
            all_goals (first | omega | skip)
            all_goals simp only [List.getElem?_toArray, List.getElem?_cons_zero, List.getElem?_cons_succ, Option.some.injEq] at ho
            all_goals subst ho
            all_goals simp only [reduceCtorEq, Option.some.injEq, Prod.mk.injEq] at hg
            · obtain ⟨rfl, rfl⟩ := hg
              exact (hv (hG 8 (haft 8 (by kernel_rfl)))).elim
            · obtain ⟨rfl, rfl⟩ := hg
              exact (hv (hG 8 (haft 8 (by kernel_rfl)))).elim
            · obtain ⟨rfl, rfl⟩ := hg
              exact (hv (hG 8 (haft 8 (by kernel_rfl)))).elim
            · obtain ⟨rfl, rfl⟩ := hg
              exact (hv (hG 8 (haft 8 (by kernel_rfl)))).elim
            · obtain ⟨rfl, rfl⟩ := hg
              exact (hv (hG 8 (haft 8 (by kernel_rfl)))).elim
            · obtain ⟨rfl, rfl⟩ := hg
              exact (hv (hG 8 (haft 8 (by kernel_rfl)))).elim
            · obtain ⟨rfl, rfl⟩ := hg
              exact (hv (hG 8 (haft 8 (by kernel_rfl)))).elim
            · obtain ⟨rfl, rfl⟩ := hg
              exact (hv (hG 8 (haft 8 (by kernel_rfl)))).elim
            · obtain ⟨rfl, rfl⟩ := hg
              exact (hv (hG 8 (haft 8 (by kernel_rfl)))).elim
            · obtain ⟨rfl, rfl⟩ := hg
              exact (hv (hG 8 (haft 8 (by kernel_rfl)))).elim
            · obtain ⟨rfl, rfl⟩ := hg
              exact (hv (hG 8 (haft 8 (by kernel_rfl)))).elim
            · obtain ⟨rfl, rfl⟩ := hg
              exact (hv (hG 8 (haft 8 (by kernel_rfl)))).elim
            · obtain ⟨rfl, rfl⟩ := hg
              exact (hv (hG 8 (haft 8 (by kernel_rfl)))).elim
            · obtain ⟨rfl, rfl⟩ := hg
              exact (hv (hG 8 (haft 8 (by kernel_rfl)))).elim
          · intro vs W hI
            obtain ⟨hS, _, hG⟩ := hI
            have g23 : vs 23 = .bool false := hG 23 (by decide) (by decide)
            have HSF : Hid (TwK Is w.heap.size pp qq (fun _ => False) W3 d' d' W) := hS
            have HBF : Hid (Below w.heap.size w W) := HB3.out.trans (hS.2.below HM3.out)
            clear hS hG
            simp only [putList, putSel, if_true]
            rw [g23]
            clear g23
            generalize vs 0 = x0
            generalize vs 1 = x1
            generalize vs 2 = x2
            generalize vs 3 = x3
            generalize vs 4 = x4
            generalize vs 5 = x5
            generalize vs 6 = x6
            generalize vs 7 = x7
            generalize vs 8 = x8
            generalize vs 9 = x9
            generalize vs 10 = x10
            generalize vs 11 = x11
            generalize vs 12 = x12
            generalize vs 13 = x13
            generalize vs 14 = x14
            generalize vs 15 = x15
            generalize vs 16 = x16
            generalize vs 17 = x17
            generalize vs 18 = x18
            generalize vs 19 = x19
            generalize vs 20 = x20
            generalize vs 21 = x21
            generalize vs 22 = x22
            simp only [Act.put, List.setIfInBounds_toArray, List.set_cons_succ, List.set_cons_zero]
            go_wp2_with fail
            go_roundw
            case rel =>
              exact ⟨k + 1, d', pp, qq, by omega, by omega, rfl, rfl, by go_num, HSF.out.1, HBF.out⟩
            case measure => simp [intOf]; omega
      · have hx : ¬ k < len ∨ (k < len ∧ ¬ k < 60) := by omega
        rcases hx with hx | ⟨hx, hx6⟩
        · have hkl : ¬ (k : Int) < (len : Int) := by omega
          go_wp2_with fail
          refine (works_any H wr).mono ?_
          rintro e W3 ⟨rfl, hb3⟩
          have HB3 := Lib.hid (HBK.out.trans (hb3.mono HBK.out.size))
          clear hb3
          go_wp2_with fail
          go_ret
          exact ⟨rfl, HB3.out⟩
        · have hkl : (k : Int) < (len : Int) := by omega
          have hk6 : ¬ (k : Int) < 60 := by omega
          go_wp2_with fail
          refine (works_any H wr).mono ?_
          rintro e W3 ⟨rfl, hb3⟩
          have HB3 := Lib.hid (HBK.out.trans (hb3.mono HBK.out.size))
          clear hb3
          go_wp2_with fail
          go_ret
          exact ⟨rfl, HB3.out⟩
end Go.Proofs.Ytfinmfmbbgakhaa.ch

/- ChainPlays: whatever is done to a chain, it answers, and tells, as the document says: for the first sixty acts, any number of blocks, and a place where it is copied; the copy goes its own way. No condition. -/
namespace Go.Proofs.Ytfinmfmbbgakhaa.chainPlays
open Go.ChangeShapes Go.WideShapes Go.ChangeAt Go.RowKit
open Go.ChangeMaps (open_string shut_string)
open Go.Proofs.Ytfinmfmbbgakhaa.ib Go.Proofs.Ytfinmfmbbgakhaa.ch

theorem own : ownKnob Try.prog.godebug = none := by kernel_rfl
theorem laidOut : laidOutB Try.prog = true := by kernel_rfl

theorem witness (os : Os) {H : Type} (enc : TypeId × Value → H) :
    (OpenSpec.ofChange Rows.chainPlaysSpec).preRow enc Try.prog Try.f3 Rows.chainPlaysRow.domain false Rows.chainPlaysRow.laid ((World.holding Try.prog os ⟨#[], #[], []⟩).forCall (fun _ _ => 0) ⟨#[], #[.slice none 0 0, .int .i64 0, .int .u8 0], []⟩).memory #[.slice none 0 0, .int .i64 0, .int .u8 0] := by
  have hw : (DataW.whole enc Try.prog ((World.holding Try.prog os ⟨#[], #[], []⟩).forCall (fun _ _ => 0) ⟨#[], #[.slice none 0 0, .int .i64 0, .int .u8 0], []⟩).memory Try.f3.params.toList (OpenSpec.ofChange Rows.chainPlaysSpec).vars false (#[.slice none 0 0, .int .i64 0, .int .u8 0] : Array Value).toList 8).map (fun x => (x.1, x.2.1)) =
      some ([.nil, .lit (.int .i64 0), .lit (.int .u8 0)], []) := by kernel_rfl
  obtain ⟨⟨x1, x2, x3⟩, hx, hx1⟩ := Option.map_eq_some_iff.1 hw
  simp only [Prod.mk.injEq] at hx1
  obtain ⟨rfl, rfl⟩ := hx1
  exact OpenSpec.preRow_of_cond 8 hx (by kernel_rfl) (fun k hk => by cases hk) (by kernel_rfl) (laidMetH_nil _ _)

set_option maxRecDepth 100000 in
set_option maxHeartbeats 1600000 in
theorem lifted (os : Os) (started : os.Started) (H : Type) (enc : TypeId × Value → H) (F : Stop.Interp) :
    ReturnsInHanded {} Try.checked os 3 .any ((OpenSpec.ofChange Rows.chainPlaysSpec).preRow enc Try.prog Try.f3 Rows.chainPlaysRow.domain false Rows.chainPlaysRow.laid) (((OpenSpec.ofChange Rows.chainPlaysSpec).at F).post enc Try.prog Try.f3 false true false false) := by
  refine returnsInHanded_of_row (C := Try.checked) (s := OpenSpec.ofChange Rows.chainPlaysSpec) own started (by kernel_rfl) Try.func3
    (witness_row_at (enc := enc) (C := Try.checked) false (World.holding Try.prog os ⟨#[], #[], []⟩) #[.slice none 0 0, .int .i64 0, .int .u8 0] rfl (by kernel_rfl) (by kernel_rfl) (by kernel_rfl) (witness os enc)) ?_
  intro W base args ds gs before hval0 hW _ _ hsz0 hL _ _
  have hval : ∀ (j : Nat) t v, Try.f3.params[j]? = some t → args[j]? = some v → Value.okWide Try.prog W .any base t v := hval0
  have hW' := hW
  obtain ⟨p, q, hA0, hV, rfl, hfz, hnd⟩ := hW
  have hA : DataW.TrodAll enc Try.prog W 0 (fun _ => true) true Try.f3.params.toList args.toList ds p := hA0
  rw [Try.params3] at hA hval
  obtain ⟨v0, vs0, d0, ds0, p0, q0, hargs, rfl, rfl, h0, r0⟩ := trodAll_cons hA
  obtain ⟨v1, vs1, d1, ds1, p1, q1, rfl, rfl, rfl, h1, r1⟩ := trodAll_cons r0
  obtain ⟨v2, vs2, d2, ds2, p2, q2, rfl, rfl, rfl, h2, r2⟩ := trodAll_cons r1
  obtain ⟨rfl, rfl, rfl⟩ := trodAll_nil r2
  obtain rfl : args = #[v0, v1, v2] := by cases args; simp_all
  obtain ⟨rfl, rfl⟩ := trodVars_none hV
  obtain ⟨a0, l0, c0, rfl⟩ := okWide_slice Try.underlying22 (hval 0 22 v0 rfl rfl)
  have k0 := h0
  have lt0 : ∀ x ∈ p0, x.block < W.heap.size := by obtain ⟨m, hm⟩ := k0; exact DataW.trod_lt m _ _ _ hm
  obtain ⟨zs0, hzl0, hl0, hT0⟩ := acts8_of k0
  subst hzl0
  obtain ⟨a1, rfl, rfl, rfl, w1⟩ := open_int Try.underlying3 (hval 1 3 v1 rfl rfl) h1
  obtain ⟨a2, rfl, rfl, rfl, w2⟩ := open_int Try.underlying5 (hval 2 5 v2 rfl rfl) h2
  clear hA0 hval0 hsz0
  simp only [List.append_nil] at hW'
  refine (chainPlays_walk hImpl a0 c0 zs0 a1 w1 a2 w2 W hl0 hT0).mono fun e W' ⟨he, hg⟩ => ?_
  subst he
  exact ⟨_, rfl, _, _, _, [], _, [], hW', trodAll_mk1 (shut_bool Try.underlying4 _), (trodAll_cons_mk (Below.trod laidOut (by kernel_rfl) (of_decide_eq_true (by kernel_rfl)) k0 hg lt0) (trodAll_cons_mk (shut_int Try.underlying3 w1) (trodAll_cons_mk (shut_int Try.underlying5 w2) trodAll_mk0))), rfl, hg.frame _, fun h => by cases h⟩

theorem over : Rows.ChainPlaysSaid :=
  OpenClaim.holds_of_cond 3 Try.f3 rfl rfl rfl rfl rfl rfl rfl ⟨rfl, rfl, rfl, rfl, rfl⟩ rfl rfl rfl rfl rfl (by kernel_rfl) Try.func3 (by kernel_rfl)
    (of_decide_eq_true (by kernel_rfl)) (by unfold Func.isWrapper; first | (rw [if_pos (by decide +kernel)]; kernel_rfl) | (rw [if_neg (by decide +kernel)]; exact ⟨rfl, rfl⟩))
    (fun os started H enc _ F => by rw [OpenClaim.pre_eq_preRow]; exact lifted os started H enc F)

theorem proved : Rows.ChainPlaysSaid :=
  over
#print axioms proved
end Go.Proofs.Ytfinmfmbbgakhaa.chainPlays


/- What Wake of the document's disk does. -/
import Derived.Test.YtbpkgfhhoejmcaaRkFlush
import Derived.Test.YtbpkgfhhoejmcaaDkWake
namespace Go.Proofs.Ytbpkgfhhoejmcaa.dk
open Go Go.RowKit

theorem sRow_set (s : Sects) (k : Nat) (o : Option Bt) : (sRow s).set k (.string (sStr o)) = sRow (s.set k o) := by
  simp [sRow, List.map_set]

theorem StrsB.setO {w : World} {g : Nat} {s : Sects} (h : StrsB w g s) (k : Nat) (hk : k < s.length) (o : Option Bt) : StrsB (w.setCell ⟨g, k, none⟩ (.string (sStr o))) g (s.set k o) := by
  obtain ⟨e, h⟩ := h
  refine ⟨e, ?_⟩
  have h2 := h.set_ k (.string (sStr o))
  rw [show (sRow s ++ e).toArray.setIfInBounds k (.string (sStr o)) = (sRow (s.set k o) ++ e).toArray from by
    rw [List.setIfInBounds_toArray, List.set_append_left _ _ (by rw [sRow_length]; exact hk), sRow_set]] at h2
  exact h2

/-- The first k of one, the others of the other one. -/
def mix (a b : Sects) (k : Nat) : Sects := a.take k ++ b.drop k
theorem mix_length (a b : Sects) (k : Nat) (h : a.length = b.length) (hk : k ≤ a.length) : (mix a b k).length = a.length := by simp [mix]; omega
theorem mix_zero (a b : Sects) : mix a b 0 = b := by simp [mix]
theorem mix_all (a b : Sects) (h : a.length = b.length) : mix a b a.length = a := by
  unfold mix
  rw [List.take_length, h, List.drop_length, List.append_nil]
theorem mix_step (a b : Sects) (k : Nat) (h : a.length = b.length) (hk : k < a.length) : (mix a b k).set k (look a (k : Int)) = mix a b (k + 1) := by
  have hl : (a.take k).length = k := by simp; omega
  have hd : b.drop k = b[k] :: b.drop (k + 1) := List.drop_eq_getElem_cons (by omega)
  have ht : a.take (k + 1) = a.take k ++ [a[k]] := List.take_succ_eq_append_getElem hk
  unfold mix
  rw [look_nat, List.getElem?_eq_getElem hk, Option.getD_some, List.set_append_right _ _ (by rw [hl]; exact Nat.le_refl _), hl, Nat.sub_self, hd, List.set_cons_zero, ht, List.append_assoc]
  rfl
theorem cnt_step (a : Sects) (k : Nat) (hk : k < a.length) : cnt (a.take (k + 1)) = cnt (a.take k) + (if (look a (k : Int)).isSome then 1 else 0) := by
  have ht : a.take (k + 1) = a.take k ++ [a[k]] := List.take_succ_eq_append_getElem hk
  unfold cnt
  rw [look_nat, List.getElem?_eq_getElem hk, Option.getD_some, ht, List.countP_append]
  simp only [List.countP_cons, List.countP_nil, Nat.zero_add]

def W8 (d : DD) (gb cb gn cn : Nat) (u : Int) : Array Value := put8 d.n d.room gb cb gn cn u (.slice none 0 0) d.fuse false

def RWk1 (W : World) (d : DD) (p gb cb gn cn : Nat) (i : Value) (wr : World) : Prop :=
  ∃ k : Nat, k ≤ d.n ∧ i = .int .i64 (k : Int) ∧ Blk wr p 49 (W8 d gb cb gn cn (cnt (d.base.take k) : Int)) ∧ StrsB wr gn (mix d.base d.now k) ∧ But (fun j => j = p ∨ j = gn) W wr

def RWk2 (W : World) (d : DD) (bs : List Bool) (p gb cb gn cn : Nat) (i : Value) (wr : World) : Prop :=
  ∃ k : Nat, k ≤ d.more.length ∧ i = .int .i64 (k : Int) ∧ Blk wr p 49 (W8 d gb cb gn cn (cnt (play d.base (stay (d.more.take k) bs)) : Int)) ∧ StrsB wr gn (play d.base (stay (d.more.take k) bs)) ∧ StrsB wr gb (play d.base (stay (d.more.take k) bs)) ∧ But (fun j => j = p ∨ j = gn ∨ j = gb) W wr

section
variable {w : World} {own : Nat → Prop} {p gb cb gn cn : Nat} {v : Value} {d : DD}

theorem rwake_on {most : Nat} (h : RkIs most w own p d) (hon : d.on = true) (A : Option Addr) (n c : Nat) (bs : List Bool) :
    Calls Try.prog 32 #[.pointer (some ⟨p, 0, none⟩), .slice A n c] w (RkPost most own p (d.wake bs) (.tuple #[]) w) := by
  have H := Lib.hid h
  have hw : d.wake bs = d := by unfold DD.wake; rw [if_pos hon]
  rw [hw]
  obtain ⟨h0, gb, cb, gn, cn, v, h1⟩ := h
  obtain ⟨c0, c1, c2, c3, c4, c5, c6, c7⟩ := blk8 h1.blk
  rw [hon] at c7
  clear h0 h1 c0 c1 c2 c3 c4 c5 c6 hon hw
  go_enter Try.func32, Try.ntmps32
  go_wp2_with fail
  go_end0
  exact ⟨rfl, own, H.out, But.refl _ _, Grows.refl _ _⟩

set_option maxRecDepth 100000 in
set_option maxHeartbeats 3200000 in
theorem rwake_off {most : Nat} (h : RkIs most w own p d) (hmost : most ≤ 100000) (hon : d.on = false) (A : Option Addr) (c : Nat) (bs : List Bool) (hb : BoolsAt w A bs) (hbo : ∀ b o, A = some ⟨b, o, none⟩ → 0 < bs.length → ¬ own b) :
    Calls Try.prog 32 #[.pointer (some ⟨p, 0, none⟩), .slice A bs.length c] w (RkPost most own p (d.wake bs) (.tuple #[]) w) := by
  have hw : d.wake bs = { d with base := play d.base (stay d.more bs), more := [], on := true } := by unfold DD.wake; rw [if_neg (by rw [hon]; simp)]
  rw [hw]
  obtain ⟨h0, gb, cb, gn, cn, v, h1⟩ := h
  have H0 := Lib.hid h0
  have H1 := Lib.hid h1
  have HBO := Lib.hid hbo
  have HBA := Lib.hid hb
  have hml : d.more.length ≤ 100000 := Nat.le_trans h0.more1 hmost
  have hn1 := h0.n1
  have hbk : Hid (Blk w p 49 (put8 d.n d.room gb cb gn cn (d.used : Int) v d.fuse false)) := by have := h1.blk; rw [hon] at this; exact this
  obtain ⟨c0, c1, c2, c3, c4, c5, c6, c7⟩ := blk8 h1.blk
  rw [hon] at c7
  have f4 := h1.blk.frozen 4
  have f5 := h1.blk.frozen 5
  obtain ⟨V, cv, hA, hv⟩ := writes_view h1.more
  have HV := Lib.hid hv
  have hplt := h1.blk.lt
  subst hA
  clear h0 h1 hb hbo hw hv c0 c1 c2 c3 c6 hmost
  go_enter Try.func32, Try.ntmps32
  go_wp2_with fail
  have HP2 : Hid (Blk ((w.setCell ⟨p, 5, none⟩ (.slice none 0 0)).setCell ⟨p, 4, none⟩ (.int .i64 0)) p 49 (W8 d gb cb gn cn 0)) := (hbk.out.set_ 5 _).set_ 4 _
  have HB2 : Hid (But (fun j => j = p ∨ j = gn) w ((w.setCell ⟨p, 5, none⟩ (.slice none 0 0)).setCell ⟨p, 4, none⟩ (.int .i64 0))) := ((But.refl _ w).setCell _ _ (.inl (.inl rfl))).setCell _ _ (.inl (.inl rfl))
  have hgp := H1.out.pn.symm
  have HN2 : Hid (StrsB ((w.setCell ⟨p, 5, none⟩ (.slice none 0 0)).setCell ⟨p, 4, none⟩ (.int .i64 0)) gn d.now) := (H1.out.now.of_block (set_other _ _ _ _ _ hgp)).of_block (set_other _ _ _ _ _ hgp)
  generalize (w.setCell ⟨p, 5, none⟩ (.slice none 0 0)).setCell ⟨p, 4, none⟩ (.int .i64 0) = W2 at *
  clear f4 f5 hbk c4 c5 c7
  go_loopw [5] (fun i wr => RWk1 w d p gb cb gn cn i wr) (fun i _ => d.n - (intOf i).toNat)
  case atStart => exact ⟨0, Nat.zero_le _, rfl, HP2.out, by rw [mix_zero]; exact HN2.out, HB2.out⟩
  case round =>
    obtain ⟨k, hk, rfl, hP, hS, hB⟩ := hrel
    have HP := Lib.hid hP
    have HS := Lib.hid hS
    have HB := Lib.hid hB
    have hlen : d.base.length = d.now.length := d.now_length.symm
    have hgb := H1.out.low _ H1.out.ob
    have hSB : StrsB wr gb d.base := H1.out.base.of_block (hB.block gb hgb (fun e => by rcases e with e | e; exact H1.out.pb e.symm; exact H1.out.bn e))
    have HSB := Lib.hid hSB
    obtain ⟨d0, d1, d2, d3, d4, d5, d6, d7⟩ := blk8 hP
    clear d1 d5 d6
    have f4 := HP.out.frozen 4
    have f7 := HP.out.frozen 7
    have hp := hP.lt
    have hgnl := hS.lt
    have hgbl := hSB.lt
    have HLen := Lib.hid hlen
    have hcl : cnt (d.base.take k) ≤ 1024 := by have := cnt_le (d.base.take k); have h2 : (d.base.take k).length ≤ k := by simp; omega
                                                omega
    clear hP hS hB hSB hlen HP2 HB2 HN2
    by_cases hlt : k < d.n
    · have hml2 := mix_length d.base d.now k HLen.out (Nat.le_of_lt hlt)
      have cb_ := HSB.out.cell k hlt
      have cn_ := HS.out.cell k (by rw [hml2]; exact hlt)
      have fn := HS.out.frozen k
      have hst := mix_step d.base d.now k HLen.out hlt
      have hct := cnt_step d.base k hlt
      have he := sStr_some (look d.base (k : Int)) (fun u hu => H0.out.base1 u (look_mem hu))
      have hset := HS.out.setO k (by rw [hml2]; exact hlt) (look d.base (k : Int))
      rw [hst] at hset
      have hne : p ≠ gn := H1.out.pn
      have HNE := Lib.hid hne
      have HCT := Lib.hid hct
      have hk1 : (k : Int) < (d.n : Int) := by omega
      obtain ⟨b, hbb⟩ : ∃ b, (look d.base (k : Int)).isSome = b := ⟨_, rfl⟩
      rw [hbb] at he
      have HBB := Lib.hid hbb
      generalize sStr (look d.base (k : Int)) = S at *
      generalize sStr (look (mix d.base d.now k) (k : Int)) = S' at *
      have hbn : gb ≠ gn := H1.out.bn
      clear hst hct hml2 hbb
      go_wp2_with fail
      refine wp_region_still_w 13 (by kernel_rfl) (by kernel_rfl) ?_
      simp only [List.take_succ_cons, List.take_zero, List.drop_succ_cons, List.drop_zero]
      iterate 13 still_step
      refine wpStill_nil ?_
      have HSet : Hid (StrsB ((wr.setCell ⟨gn, k, none⟩ (.string S)).drew) gn (mix d.base d.now (k + 1))) := hset.of_block rfl
      have HP3 : Hid (Blk ((wr.setCell ⟨gn, k, none⟩ (.string S)).drew) p 49 (W8 d gb cb gn cn (cnt (d.base.take k) : Int))) := HP.out.of_block (set_other wr gn k _ p HNE.out)
      have HB3 : Hid (But (fun j => j = p ∨ j = gn) w ((wr.setCell ⟨gn, k, none⟩ (.string S)).drew)) := (HB.out.setCell _ _ (.inl (.inr rfl))).drew
      have HSB3 : Hid (StrsB ((wr.setCell ⟨gn, k, none⟩ (.string S)).drew) gb d.base) := HSB.out.of_block (set_other wr gn k _ gb H1.out.bn)
      cases b with
      | false =>
        go_wp2_with fail
        go_roundw
        case rel => exact ⟨k + 1, by omega, by go_num, by rw [HCT.out, HBB.out]; exact HP3.out, HSet.out, HB3.out⟩
        case measure => simp [intOf]; omega
      | true =>
        go_wp2_with fail
        go_roundw
        case rel => exact ⟨k + 1, by omega, by go_num, by rw [HCT.out, HBB.out]; exact HP3.out.set_ 4 _, HSet.out.of_block (set_other _ _ _ _ _ HNE.out.symm), HB3.out.setCell _ _ (.inl (.inl rfl))⟩
        case measure => simp [intOf]; omega
    · have hke : k = d.n := by omega
      have hk1 : ¬ (k : Int) < (d.n : Int) := by omega
      have hbl : d.base.take d.n = d.base := List.take_length
      have hmx : mix d.base d.now d.n = d.base := mix_all _ _ HLen.out
      rw [hke, hmx] at HS
      rw [hke, hbl] at HP
      have HP4 : Hid (Blk wr p 49 (W8 d gb cb gn cn (cnt d.base : Int))) := HP.out
      have HS4 : Hid (StrsB wr gn d.base) := HS.out
      clear HP HS hbl hmx hke d2 d3 d4 f4 f7 hcl
      go_wp2_with fail
      have HB4 := Lib.hid HB.out
      have HSB4 := Lib.hid HSB.out
      clear HB HSB hgnl hgbl hp d0 d7 hlt hk1 HLen
      go_loopw [6] (fun i wr => RWk2 w d bs p gb cb gn cn i wr) (fun i _ => d.more.length - (intOf i).toNat)
      case atStart => exact ⟨0, Nat.zero_le _, rfl, by rw [List.take_zero]; exact HP4.out, by rw [List.take_zero]; exact HS4.out, by rw [List.take_zero]; exact HSB4.out, HB4.out.mono (fun j hj => by rcases hj with h | h; exact .inl h; exact .inr (.inl h))⟩
      case round =>
        clear HP4 HS4 HSB4 HB4
        obtain ⟨k, hk, rfl, hP, hS, hSB, hB⟩ := hrel
        have HP := Lib.hid hP
        have HS := Lib.hid hS
        have HSB := Lib.hid hSB
        have HB := Lib.hid hB
        obtain ⟨d0, d1, d2, d3, d4, d5, d6, d7⟩ := blk8 hP
        have f7 := hP.frozen 7
        have hp := hP.lt
        clear d0 d1 d3 d4 d5 d6 hP hS hSB hB
        by_cases hlt : k < d.more.length
        · obtain ⟨g, hA, hg, hm0, hm1⟩ := HV.out k hlt
          subst hA
          have hgp : g ≠ p := H1.out.vp g rfl
          have hgb : g ≠ gb := H1.out.vb g rfl
          have hgn : g ≠ gn := H1.out.vn g rfl
          have hgo : wr.heap[g]? = w.heap[g]? := HB.out.block g hg (fun e => by rcases e with e | e | e <;> contradiction)
          have HGO := Lib.hid hgo
          have hgw : g < wr.heap.size := Nat.lt_of_lt_of_le hg HB.out.size
          have m0 : wr.cell? ⟨g, k * 2, none⟩ = some (.int .i64 (d.more[k].1 : Int)) := (World.cell?_of_block (a := ⟨g, k * 2, none⟩) hgo).trans hm0
          have m1 : wr.cell? ⟨g, k * 2 + 1, none⟩ = some (.string (str d.more[k].2)) := (World.cell?_of_block (a := ⟨g, k * 2 + 1, none⟩) hgo).trans hm1
          have hat := H0.out.at1 _ (List.getElem_mem hlt)
          have hsn := stay_snoc d.more bs k hlt
          have hk1 : (k : Int) < (d.more.length : Int) := by omega
          have HSN := Lib.hid hsn
          have HAT := Lib.hid hat
          clear hm0 hm1 hat hsn hgo
          by_cases hkb : k < bs.length
          · obtain ⟨bb, bo, rfl, hbb, hbc⟩ := HBA.out k hkb
            have hbn := HBO.out bb bo rfl (by omega)
            have hbe : wr.heap[bb]? = w.heap[bb]? := HB.out.block bb hbb (fun e => hbn (by rcases e with e | e | e <;> rw [e]; exact H1.out.op; exact H1.out.on_; exact H1.out.ob))
            have hkc : wr.cell? ⟨bb, bo + k, none⟩ = some (.bool bs[k]) := (World.cell?_of_block (a := ⟨bb, bo + k, none⟩) hbe).trans hbc
            have hbw : bb < wr.heap.size := Nat.lt_of_lt_of_le hbb HB.out.size
            have hkb1 : (k : Int) < (bs.length : Int) := by omega
            have hge : bs[k]? = some bs[k] := List.getElem?_eq_getElem hkb
            have HGE := Lib.hid hge
            obtain ⟨q, hq⟩ : ∃ q, bs[k] = q := ⟨_, rfl⟩
            rw [hq] at hkc
            have HQ := Lib.hid hq
            clear hbc hbn hbe hge hq
            cases q with
            | false =>
              have hsame : stay (d.more.take (k + 1)) bs = stay (d.more.take k) bs := by rw [HSN.out, HGE.out, HQ.out]; simp
              have HSA := Lib.hid hsame
              clear hsame
              go_wp2_with fail
              go_roundw
              case rel => exact ⟨k + 1, by omega, by go_num, by rw [HSA.out]; exact HP.out, by rw [HSA.out]; exact HS.out, by rw [HSA.out]; exact HSB.out, HB.out⟩
              case measure => simp [intOf]; omega
            | true =>
              have hsame : stay (d.more.take (k + 1)) bs = stay (d.more.take k) bs ++ [(d.more[k].1, d.more[k].2)] := by rw [HSN.out, HGE.out, HQ.out]; rfl
              have HSA := Lib.hid hsame
              have hpl : play d.base (stay (d.more.take (k + 1)) bs) = put (play d.base (stay (d.more.take k) bs)) d.more[k].1 d.more[k].2 := by rw [HSA.out, play_snoc]
              have HPL := Lib.hid hpl
              have h32 : ∀ u, some u ∈ play d.base (stay (d.more.take k) bs) → u.length = 32 := play_all H0.out.base1 (fun x hx => (H0.out.at1 x (List.mem_of_mem_take (stay_mem _ _ _ hx))).2)
              have hsl : (play d.base (stay (d.more.take k) bs)).length = d.n := play_length _ _
              generalize play d.base (stay (d.more.take k) bs) = s at *
              generalize d.more[k].1 = a at *
              generalize d.more[k].2 = x at *
              have HPut := Lib.hid (rput_any wr d.n d.room p gb cb gn cn s (.slice none 0 0) d.fuse false HP.out HS.out a x HAT.out.2 HAT.out.1 hsl hn1 h32)
              have HSL := Lib.hid hsl
              have i0 : (0 : Int) ≤ (a : Int) := by omega
              have i1 : (a : Int) < (d.n : Int) := by have := HAT.out.1; omega
              have hpb : p ≠ gb := H1.out.pb
              have hbn : gb ≠ gn := H1.out.bn
              have HPB := Lib.hid hpb
              have HBN := Lib.hid hbn
              clear hsame h32 hpl hsl
              go_wp2_with fail
              refine HPut.out.mono ?_
              rintro e w5 ⟨rfl, hp5, hs5, hb5⟩
              have HP5 := Lib.hid hp5
              have HS5 := Lib.hid hs5
              have HB5 := Lib.hid hb5
              have hg5 : w5.heap[g]? = wr.heap[g]? := hb5.block g hgw (fun e => by rcases e with e | e <;> contradiction)
              have n0 : w5.cell? ⟨g, k * 2, none⟩ = some (.int .i64 (a : Int)) := (World.cell?_of_block (a := ⟨g, k * 2, none⟩) hg5).trans m0
              have n1 : w5.cell? ⟨g, k * 2 + 1, none⟩ = some (.string (str x)) := (World.cell?_of_block (a := ⟨g, k * 2 + 1, none⟩) hg5).trans m1
              have hsb5 : StrsB w5 gb s := HSB.out.of_block (hb5.block gb HSB.out.lt (fun e => by rcases e with e | e; exact HPB.out e.symm; exact HBN.out e))
              have HSB5 := Lib.hid hsb5
              have ca := hsb5.cell a (by rw [HSL.out]; exact HAT.out.1)
              have fa := hsb5.frozen a
              generalize sStr (look s (a : Int)) = S at *
              obtain ⟨e0, e1, e2, e3, e4, e5, e6, e7⟩ := blk8 hp5
              have hg5w : g < w5.heap.size := Nat.lt_of_lt_of_le hgw hb5.size
              have hgbl := hsb5.lt
              have hpl5 := hp5.lt
              clear e0 e1 e3 e4 e5 e6 e7 hp5 hs5 hb5 hg5 hsb5 m0 m1 d2 d7 f7 HPut
              go_wp2_with fail
              refine wp_region_still_w 15 (by kernel_rfl) (by kernel_rfl) ?_
              simp only [List.take_succ_cons, List.take_zero, List.drop_succ_cons, List.drop_zero]
              iterate 15 still_step
              refine wpStill_nil ?_
              go_wp2_with fail
              go_roundw
              case rel =>
                refine ⟨k + 1, by omega, by go_num, ?_, ?_, ?_, ?_⟩
                · rw [HPL.out]
                  exact HP5.out.of_block (set_other w5 gb a _ p HPB.out)
                · rw [HPL.out]
                  exact HS5.out.of_block (set_other w5 gb a _ gn HBN.out.symm)
                · rw [HPL.out]
                  exact HSB5.out.set_ a (by rw [HSL.out]; exact HAT.out.1) x
                · exact (HB.out.trans (HB5.out.mono (S' := fun j => j = p ∨ j = gn ∨ j = gb) (fun j hj => by rcases hj with h | h; exact .inl h; exact .inr (.inl h))) (fun j hj => .inl hj)).setCell _ _ (.inl (.inr (.inr rfl))) |>.drew
              case measure => simp [intOf]; omega
          · have hkb1 : ¬ (k : Int) < (bs.length : Int) := by omega
            have hsame : stay (d.more.take (k + 1)) bs = stay (d.more.take k) bs := by rw [HSN.out, List.getElem?_eq_none (by omega)]; simp
            have HSA := Lib.hid hsame
            clear hsame
            go_wp2_with fail
            go_roundw
            case rel => exact ⟨k + 1, by omega, by go_num, by rw [HSA.out]; exact HP.out, by rw [HSA.out]; exact HS.out, by rw [HSA.out]; exact HSB.out, HB.out⟩
            case measure => simp [intOf]; omega
        · have hke : k = d.more.length := by omega
          have hk1 : ¬ (k : Int) < (d.more.length : Int) := by omega
          rw [hke, List.take_length] at HP HS HSB
          go_wp2_with fail
          go_end0
          have hn2 : (DD.n { d with base := play d.base (stay d.more bs), more := [], on := true }) = d.n := play_length _ _
          refine ⟨rfl, own, ⟨?_, gb, cb, gn, cn, .slice none 0 0, ?_⟩, (HB.out.mono (S' := own) (fun j hj => by rcases hj with h | h | h <;> rw [h]; exact H1.out.op; exact H1.out.on_; exact H1.out.ob)).setCell _ _ (.inl H1.out.op), Grows.refl _ _⟩
          · refine { H0.out with n0 := ?_, n1 := ?_, more1 := Nat.zero_le _, at1 := fun x hx => by simp at hx, base1 := play_all H0.out.base1 (fun x hx => (H0.out.at1 x (stay_mem _ _ _ hx)).2) }
            · rw [hn2]; exact H0.out.n0
            · rw [hn2]; exact H0.out.n1
          · refine ⟨?_, ?_, ?_, ⟨rfl, .inl ⟨rfl, rfl⟩⟩, H1.out.op, H1.out.ob, H1.out.on_, fun j hj => by simp [Value.ownBlock] at hj, H1.out.bn, fun j hj => ?_⟩
            · rw [hn2]
              exact HP.out.set_ 7 _
            · exact HSB.out.of_block (set_other _ _ _ _ _ H1.out.pb.symm)
            · exact HS.out.of_block (set_other _ _ _ _ _ H1.out.pn.symm)
            · have := H1.out.low j hj
              have := HB.out.size
              rw [size_set]
              omega

theorem rwake_any {most : Nat} (h : RkIs most w own p d) (hmost : most ≤ 100000) (A : Option Addr) (n c : Nat) (bs : List Bool) (hn : bs.length = n) (hb : BoolsAt w A bs) (hbo : ∀ b o, A = some ⟨b, o, none⟩ → 0 < bs.length → ¬ own b) :
    Calls Try.prog 32 #[.pointer (some ⟨p, 0, none⟩), .slice A n c] w (RkPost most own p (d.wake bs) (.tuple #[]) w) := by
  subst hn
  by_cases hon : d.on = true
  · exact rwake_on h hon A _ c bs
  · exact rwake_off h hmost (by simpa using hon) A c bs hb hbo
end
end Go.Proofs.Ytbpkgfhhoejmcaa.dk

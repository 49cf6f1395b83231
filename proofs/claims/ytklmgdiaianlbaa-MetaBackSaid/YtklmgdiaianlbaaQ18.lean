/- MtDec. -/
import Derived.Test.YtklmgdiaianlbaaQ14
import Derived.Test.YtklmgdiaianlbaaQ9
set_option linter.unusedVariables false
set_option linter.unusedSimpArgs false
/- The document's own Decode. -/
namespace Go.Proofs.Ytklmgdiaianlbaa.mt
open Go Go.RowKit Go.Proofs.Ytklmgdiaianlbaa.ib Go.Proofs.Ytklmgdiaianlbaa.wi Go.Proofs.Ytklmgdiaianlbaa.im
set_option maxRecDepth 100000

def DcRel (w : World) (p c gm b : Nat) (s : St) (v0 : Value) (l : List Int) (N : Nat) (i : Value) (wr : World) : Prop :=
  ∃ (k : Nat) (v1 : Value) (xs : List OSn), k ≤ N ∧ i = .int .i64 (k : Int) ∧ xs.map (·.1) = (spsS b k s).1 ∧ DS w wr p c gm b (spsS b k s).2 v0 v1 nlS l xs tk0

def D10G (Bz gm p : Nat) (v1 : Value) (x1 x2 : Int) (hid : Bool) (img : List Int) : Nat → Value → World → Prop
  | 0, v, _ => v = .pointer (some ⟨gm, 1, none⟩)
  | 1, v, _ => v = v1
  | 2, v, _ => v = .agg #[.int .u64 x1, .int .u64 x2]
  | 3, v, _ => v = .bool hid
  | 4, v, _ => v = .pointer (some ⟨p, 0, none⟩)
  | 5, v, W => ∃ A e, v = .slice A img.length e ∧ OInts W Bz (.slice A img.length e) img
  | 6, v, W => ∃ A e, v = .agg #[.int .u64 x1, .int .u64 x2, .slice A img.length e, .bool hid] ∧ OInts W Bz (.slice A img.length e) img
  | 7, v, W => ∃ bb A e, v = .slice (some ⟨bb, 0, none⟩) 1 1 ∧ Blk W bb 48 #[.int .u64 x1, .int .u64 x2, .slice A img.length e, .bool hid] ∧ OInts W Bz (.slice A img.length e) img
  | _, _, _ => True
theorem D10G_mono (Bz gm p : Nat) (v1 : Value) (x1 x2 : Int) (hid : Bool) (img : List Int) (i : Nat) (v : Value) (w w' : World) (hi : i < 8) (h : D10G Bz gm p v1 x1 x2 hid img i v w) (hb : Kp 75 w w') : D10G Bz gm p v1 x1 x2 hid img i v w' := by
  match i, hi, h with
  | 0, _, h | 1, _, h | 2, _, h | 3, _, h | 4, _, h => exact h
  | 5, _, ⟨A, e, hv, h2⟩ => exact ⟨A, e, hv, oi_kp h2 hb (by decide)⟩
  | 6, _, ⟨A, e, hv, h2⟩ => exact ⟨A, e, hv, oi_kp h2 hb (by decide)⟩
  | 7, _, ⟨bb, A, e, hv, ⟨h2, h3⟩⟩ => exact ⟨bb, A, e, hv, ⟨hb _ _ _ (by decide) h2, oi_kp h3 hb (by decide)⟩⟩
  | j + 8, hi, _ => exact absurd hi (by omega)
def D16G (Bz p : Nat) (x1 x2 y1 y2 : Int) (nx al : Nat) (img : List Int) : Nat → Value → World → Prop
  | 0, v, _ => v = .agg #[.int .u64 x1, .int .u64 x2]
  | 1, v, _ => v = .agg #[.int .u64 y1, .int .u64 y2]
  | 2, v, _ => v = .int .i64 (nx : Int)
  | 3, v, _ => v = .int .i64 (al : Int)
  | 4, v, _ => v = .pointer (some ⟨p, 0, none⟩)
  | 5, v, W => ∃ A e, v = .slice A img.length e ∧ OInts W Bz (.slice A img.length e) img
  | 6, v, W => ∃ A e, v = .agg #[.int .u64 x1, .int .u64 x2, .int .u64 y1, .int .u64 y2, .int .i64 (nx : Int), .int .i64 (al : Int), .slice A img.length e] ∧ OInts W Bz (.slice A img.length e) img
  | _, _, _ => True
theorem D16G_mono (Bz p : Nat) (x1 x2 y1 y2 : Int) (nx al : Nat) (img : List Int) (i : Nat) (v : Value) (w w' : World) (hi : i < 7) (h : D16G Bz p x1 x2 y1 y2 nx al img i v w) (hb : Kp 75 w w') : D16G Bz p x1 x2 y1 y2 nx al img i v w' := by
  match i, hi, h with
  | 0, _, h | 1, _, h | 2, _, h | 3, _, h | 4, _, h => exact h
  | 5, _, ⟨A, e, hv, h2⟩ => exact ⟨A, e, hv, oi_kp h2 hb (by decide)⟩
  | 6, _, ⟨A, e, hv, h2⟩ => exact ⟨A, e, hv, oi_kp h2 hb (by decide)⟩
  | j + 7, hi, _ => exact absurd hi (by omega)

def DcS (w : World) (p c gm b : Nat) (s s' : St) (v0 v1 v2 : Value) (l : List Int) (xs : List OSn) (t : Tk) (gg : Nat) (x1 x2 : Int) (q : Bool) (W : World) : Prop :=
  DS w W p c gm b (cond q s' s) v0 v1 v2 l xs t ∧ Blk W gg 26 #[.int .u64 x1, .int .u64 x2]
section
variable {w W : World} {p c gm b : Nat} {s s' : St} {v0 v1 v2 : Value} {l : List Int} {xs : List OSn} {t : Tk} {gg : Nat} {x1 x2 : Int} {q : Bool}
theorem DcS.grow {W' : World} (h : DcS w p c gm b s s' v0 v1 v2 l xs t gg x1 x2 q W) (hb : Below W.heap.size W W') : DcS w p c gm b s s' v0 v1 v2 l xs t gg x1 x2 q W' := ⟨h.1.grow hb, h.2.below hb⟩
def okIm (B : Nat) (img : List Int) (S : World → Prop) (W : World) (e : Ending) (W' : World) : Prop := ∃ A d, e = .returned (.slice A img.length d) ∧ OInts W' B (.slice A img.length d) img ∧ Kp 75 W W' ∧ S W'
theorem dimage {s : St} (h : DcS w p c gm b s (intsS b s).2 v0 v1 v2 l xs t gg x1 x2 false W) (hb : b ≤ 100) :
    Calls Try.prog 59 #[.pointer (some ⟨p, 0, none⟩)] W (okIm w.heap.size (intsS b s).1 (DcS w p c gm b s (intsS b s).2 v0 v1 v2 l xs t gg x1 x2 true) W) := by
  refine (image_any h.1.rs hb).mono ?_
  rintro e W' ⟨v, rfl, ho, hr, hbu⟩
  obtain ⟨A, d, rfl⟩ := own_form ho
  exact ⟨A, d, rfl, row_base ho h.1.below.size, h.1.rs.kp hbu, h.1.turn hbu hr, (h.1.rs.kp hbu) _ _ _ (by decide) h.2⟩
end

def DcT (w : World) (p c gm b : Nat) (s s' : St) (v0 v1 v2 : Value) (l : List Int) (xs : List OSn) (t : Tk) (ga : Nat) (x1 x2 : Int) (gb : Nat) (y1 y2 : Int) (q : Bool) (W : World) : Prop :=
  DcS w p c gm b s s' v0 v1 v2 l xs t ga x1 x2 q W ∧ Blk W gb 26 #[.int .u64 y1, .int .u64 y2]
theorem DcT.grow {w W W' : World} {p c gm b : Nat} {s s' : St} {v0 v1 v2 : Value} {l : List Int} {xs : List OSn} {t : Tk} {ga gb : Nat} {x1 x2 y1 y2 : Int} {q : Bool} (h : DcT w p c gm b s s' v0 v1 v2 l xs t ga x1 x2 gb y1 y2 q W) (hb : Below W.heap.size W W') :
    DcT w p c gm b s s' v0 v1 v2 l xs t ga x1 x2 gb y1 y2 q W' := ⟨h.1.grow hb, h.2.below hb⟩
theorem timage {w W : World} {p c gm b : Nat} {s : St} {v0 v1 v2 : Value} {l : List Int} {xs : List OSn} {t : Tk} {ga gb : Nat} {x1 x2 y1 y2 : Int} (h : DcT w p c gm b s (intsS b s).2 v0 v1 v2 l xs t ga x1 x2 gb y1 y2 false W) (hb : b ≤ 100) :
    Calls Try.prog 59 #[.pointer (some ⟨p, 0, none⟩)] W (okIm w.heap.size (intsS b s).1 (DcT w p c gm b s (intsS b s).2 v0 v1 v2 l xs t ga x1 x2 gb y1 y2 true) W) := by
  refine (dimage h.1 hb).mono ?_
  rintro e W' ⟨A, d, rfl, ho, hk, hr⟩
  exact ⟨A, d, rfl, ho, hk, hr, hk _ _ _ (by decide) h.2⟩

set_option maxHeartbeats 6400000 in
theorem mdec_any (s : ByteArray) (w : World) (hs : s.size ≤ 100000) : Calls Try.prog 18 #[.string s] w (endM (mDec (bl s)) w) := by
  have hb1 := (Below.refl w.heap.size w).alloc (Nat.le_refl _) (.cells #[.slice none 0 0, .slice none 0 0, .int .u64 0, .int .u64 0, .int .u64 0, .int .u64 0, .int .i64 0, .int .i64 0, .slice none 0 0] 30)
  have hr1 : Blk _ w.heap.size 30 (mC nlS nlS nlS tk0) := Blk.new w 30 #[.slice none 0 0, .slice none 0 0, .int .u64 0, .int .u64 0, .int .u64 0, .int .u64 0, .int .i64 0, .int .i64 0, .slice none 0 0]
  obtain ⟨W1, hW1⟩ : ∃ z, w.alloc (.cells #[.slice none 0 0, .slice none 0 0, .int .u64 0, .int .u64 0, .int .u64 0, .int .u64 0, .int .i64 0, .int .i64 0, .slice none 0 0] 30) = z := ⟨_, rfl⟩
  rw [hW1] at hb1 hr1
  have hb2 := hb1.alloc hb1.size (.cells #[.string s, .bool false] 75)
  have hq2 := Blk.new W1 75 #[.string s, .bool false]
  have hr2 := hr1.below ((Below.refl _ W1).alloc (Nat.le_refl _) (.cells #[.string s, .bool false] 75))
  have hz2 : W1.heap.size < (W1.alloc (.cells #[.string s, .bool false] 75)).heap.size := by simp
  obtain ⟨W2, hW2⟩ : ∃ z, W1.alloc (.cells #[.string s, .bool false] 75) = z := ⟨_, rfl⟩
  rw [hW2] at hb2 hq2 hr2 hz2
  have hbb := (Below.refl _ W2).alloc (Nat.le_refl _) (.cells #[.pointer (some ⟨W1.heap.size, 0, none⟩), .int .i64 0] 77)
  have hb3 := hb2.alloc hb2.size (.cells #[.pointer (some ⟨W1.heap.size, 0, none⟩), .int .i64 0] 77)
  have hp3 := Blk.new W2 77 #[.pointer (some ⟨W1.heap.size, 0, none⟩), .int .i64 0]
  have hq3 := hq2.below hbb
  have hr3 := hr2.below hbb
  obtain ⟨W3, hW3⟩ : ∃ z, W2.alloc (.cells #[.pointer (some ⟨W1.heap.size, 0, none⟩), .int .i64 0] 77) = z := ⟨_, rfl⟩
  rw [hW3] at hb3 hp3 hq3 hr3
  have HRS : Hid (RS W3 W2.heap.size W1.heap.size 0 (some (bl s))) := ⟨hp3, by omega, s, rfl, hq3, by omega⟩
  have HRES := Lib.hid hr3
  have HB := Lib.hid hb3
  have HPN : Hid (w.heap.size ≤ W2.heap.size ∧ w.heap.size ≤ W1.heap.size) := ⟨hb2.size, hb1.size⟩
  clear hb1 hr1 hb2 hq2 hr2 hb3 hp3 hbb hq3 hr3 hz2 hs
  go_enter Try.func18, Try.ntmps18
  go_wp2_with fail
  try rw [hW3]
  obtain ⟨c, hc⟩ : ∃ c, W1.heap.size = c := ⟨_, rfl⟩
  obtain ⟨p, hp⟩ : ∃ p, W2.heap.size = p := ⟨_, rfl⟩
  rw [hc] at HRS HPN ⊢
  rw [hp] at HRS HPN ⊢
  clear hW1 hW2 hW3 hp hc
  refine (small_any HRS.out).mono ?_
  rintro e W4 ⟨rfl, hb4, hr4⟩
  obtain ⟨s1, hs1⟩ : ∃ z, (smallS (some (bl s))).2 = z := ⟨_, rfl⟩
  obtain ⟨n0, hn0⟩ : ∃ z : Nat, (smallS (some (bl s))).1 = z := ⟨_, rfl⟩
  rw [hn0]
  rw [hs1] at hr4
  have HN0 := Lib.hid hn0
  have HS1 := Lib.hid hs1
  have hle0 := smallS_le (some (bl s))
  rw [hn0] at hle0
  clear hn0 hs1
  obtain ⟨b, hb⟩ : ∃ b : Nat, min n0 100 = b := ⟨_, rfl⟩
  have hmin : min (n0 : Int) 100 = (b : Int) := by omega
  have HB4 := Lib.hid (HB.out.trans (hb4.below (B := w.heap.size) (fun i hi => by unfold Tc at hi; rw [hi]; exact HPN.out.2) HB.out.size))
  have HRES4 := Lib.hid (HRES.out.of_block (hb4.block _ HRES.out.lt (fun e => by
    obtain ⟨y, hy⟩ := HRS.out.left.blk
    exact absurd e (blk_type HRES.out hy (by decide)))))
  have HR4 := Lib.hid hr4
  have HBM := Lib.hid hb
  clear hb4 hr4 HB HRES HRS hb
  have k0 := HR4.out.blk.cell 0
  have k1 := HR4.out.blk.cell 1
  have f1 := HR4.out.blk.frozen 1
  simp only [List.getElem?_toArray, List.getElem?_cons_zero, List.getElem?_cons_succ] at k0 k1
  have hltp := HR4.out.blk.lt
  go_wp2_with fail
  clear k0 k1 f1 hltp hmin
  have HR5 : Hid (RS (W4.setCell ⟨p, 1, none⟩ (.int .i64 (b : Int))) p c b s1) := by
    refine ⟨HR4.out.blk.set_ 1 _, HR4.out.ne, HR4.out.left.block (set_oth _ _ _ _ _ (Ne.symm ?_))⟩
    exact fun e => HR4.out.ne e.symm
  have HB5 := Lib.hid (HB4.out.setCell (p := ⟨p, 1, none⟩) HPN.out.1 (.int .i64 (b : Int)))
  have HRES5 := Lib.hid (HRES4.out.of_block (set_oth W4 p 1 (.int .i64 (b : Int)) _ (blk_type HRES4.out HR4.out.blk (by decide))))
  obtain ⟨W5, hW5⟩ : ∃ z, W4.setCell ⟨p, 1, none⟩ (.int .i64 (b : Int)) = z := ⟨_, rfl⟩
  rw [hW5] at HR5 HB5 HRES5 ⊢
  have HB100 : Hid (b ≤ 100) := by unfold Hid; have := HBM.out; omega
  clear hW5 HR4 HB4 HRES4
  refine (image_any HR5.out HB100.out).mono ?_
  rintro e W6 ⟨v0, rfl, ho6, hr6, hb6⟩
  obtain ⟨A0, d0, rfl⟩ := own_form ho6
  have HO6 := Lib.hid (row_base ho6 HB5.out.size)
  have HR6 := Lib.hid hr6
  have HB6 := Lib.hid (HB5.out.trans (hb6.below (B := w.heap.size) (fun i hi => by unfold Tc at hi; rw [hi]; exact HPN.out.2) HB5.out.size))
  have HRES6 := Lib.hid (HR5.out.kp hb6 _ _ _ (by decide) HRES5.out)
  obtain ⟨s2, hs2⟩ : ∃ z, (intsS b s1).2 = z := ⟨_, rfl⟩
  rw [hs2] at HR6
  have HS2 := Lib.hid hs2
  clear ho6 hr6 hb6 HR5 HB5 HRES5 hs2
  dsimp only
  go_wp2_with fail
  have HO6 := Lib.hid HO6.out
  have HW7 : Hid (DS w (W6.alloc (.cells #[.slice A0 (intsS b s1).1.length d0, .slice none 0 0, .int .u64 0, .int .u64 0, .int .u64 0, .int .u64 0, .int .i64 0, .int .i64 0, .slice none 0 0] 30)) p c W6.heap.size b s2 (.slice A0 (intsS b s1).1.length d0) nlS nlS (intsS b s1).1 [] tk0) := by
    have hbb := (Below.refl _ W6).alloc (Nat.le_refl _) (.cells #[.slice A0 (intsS b s1).1.length d0, .slice none 0 0, .int .u64 0, .int .u64 0, .int .u64 0, .int .u64 0, .int .i64 0, .int .i64 0, .slice none 0 0] 30)
    have hlt := HRES6.out.lt
    exact ⟨below_step HB6.out hbb, HR6.out.below hbb, Blk.new W6 _ _, HRES6.out.below hbb, oi_below HO6.out hbb, OSns.nil _ _, oi_nil _ _, HPN.out.1, HPN.out.2, hlt⟩
  obtain ⟨gm, hgm⟩ : ∃ g, W6.heap.size = g := ⟨_, rfl⟩
  obtain ⟨l0, hl0⟩ : ∃ z, (intsS b s1).1 = z := ⟨_, rfl⟩
  have HL0 := Lib.hid hl0
  rw [hl0] at HW7 ⊢
  obtain ⟨W7, hW7⟩ : ∃ z, W6.alloc (.cells #[.slice A0 l0.length d0, .slice none 0 0, .int .u64 0, .int .u64 0, .int .u64 0, .int .u64 0, .int .i64 0, .int .i64 0, .slice none 0 0] 30) = z := ⟨_, rfl⟩
  rw [hW7, hgm] at HW7
  try rw [hW7]
  try rw [hgm]
  clear hW7 hgm hl0 HB6 HRES6 HR6 HO6
  refine (small_any HW7.out.rs).mono ?_
  rintro e W8 ⟨rfl, hb8, hr8⟩
  have HD8 := Lib.hid (HW7.out.turn hb8 hr8)
  obtain ⟨s3, hs3⟩ : ∃ z, (smallS s2).2 = z := ⟨_, rfl⟩
  obtain ⟨n1, hn1⟩ : ∃ z : Nat, (smallS s2).1 = z := ⟨_, rfl⟩
  rw [hn1]
  rw [hs3] at HD8
  have HN1 := Lib.hid hn1
  have HNN0 := Lib.hid HN0.out
  have HS3 := Lib.hid hs3
  have hle1 := smallS_le s2
  rw [hn1] at hle1
  clear hn1 hs3 hb8 hr8 HW7 hle0 HN0
  obtain ⟨N, hN⟩ : ∃ N : Nat, min n1 100 = N := ⟨_, rfl⟩
  have HN := Lib.hid hN
  clear hN
  dsimp only
  generalize hv0 : Value.slice A0 l0.length d0 = v0 at *
  clear hv0
  go_wp2_with fail
  go_loopw [7, 8, 9] (fun i _ _ wr => DcRel w p c gm b s3 v0 l0 N i wr) (fun i _ _ _ => n1 - (intOf i).toNat)
  case atStart => exact ⟨0, nlS, [], Nat.zero_le _, rfl, rfl, HD8.out⟩
  case round =>
    obtain ⟨k, v1, xs, hk, rfl, hxs, hd⟩ := hrel
    have HD := Lib.hid hd
    have HXS := Lib.hid hxs
    clear hd hxs
    have hNN := HN.out
    by_cases hlt : k < N
    · have hki : (k : Int) < (n1 : Int) := by omega
      have hkh : (k : Int) < 100 := by omega
      clear hNN
      go_wp2_with fail
      refine (guid_any HD.out.rs).mono ?_
      rintro e W9 ⟨rfl, hb9, hr9⟩
      have HD9 := Lib.hid (HD.out.turn hb9 hr9)
      obtain ⟨sk, hsk⟩ : ∃ z, (spsS b k s3).2 = z := ⟨_, rfl⟩
      rw [hsk] at HD9 ⊢
      have HSK := Lib.hid hsk
      obtain ⟨g, hg⟩ : ∃ z, (gdS sk).1 = z := ⟨_, rfl⟩
      obtain ⟨s4, hs4⟩ : ∃ z, (gdS sk).2 = z := ⟨_, rfl⟩
      rw [hs4] at HD9
      rw [hg]
      have HG := Lib.hid hg
      have HS4 := Lib.hid hs4
      clear hg hs4 hsk hb9 hr9 HD
      unfold gv
      obtain ⟨x1, hx1⟩ : ∃ z, (g.1 : Int) = z := ⟨_, rfl⟩
      obtain ⟨x2, hx2⟩ : ∃ z, (g.2 : Int) = z := ⟨_, rfl⟩
      rw [hx1, hx2]
      have HX1 := Lib.hid hx1
      have HX2 := Lib.hid hx2
      clear hx1 hx2
      dsimp only
      have HDA := Lib.hid (HD9.out.grow ((Below.refl _ W9).alloc (Nat.le_refl _) (.cells #[.int .u64 x1, .int .u64 x2] 26)))
      have HGA := Lib.hid (Blk.new W9 26 #[.int .u64 x1, .int .u64 x2])
      obtain ⟨WA, hWA⟩ : ∃ z, W9.alloc (.cells #[.int .u64 x1, .int .u64 x2] 26) = z := ⟨_, rfl⟩
      rw [hWA] at HDA HGA
      go_wp2_with fail
      try rw [hWA]
      obtain ⟨gg, hgg⟩ : ∃ z, W9.heap.size = z := ⟨_, rfl⟩
      rw [hgg] at HGA ⊢
      clear hgg hWA HD9
      refine (small_any HDA.out.rs).mono ?_
      rintro e WB ⟨rfl, hbB, hrB⟩
      have HDB := Lib.hid (HDA.out.turn hbB hrB)
      have HGB := Lib.hid ((HDA.out.rs.kp hbB) _ _ _ (by decide) HGA.out)
      obtain ⟨hh, hhh⟩ : ∃ z : Nat, (smallS s4).1 = z := ⟨_, rfl⟩
      obtain ⟨s5, hs5⟩ : ∃ z, (smallS s4).2 = z := ⟨_, rfl⟩
      rw [hs5] at HDB
      rw [hhh]
      have hq : ((hh : Int) == 1) = decide (hh = 1) := by rw [Bool.eq_iff_iff]; simp; omega
      obtain ⟨hid, hhid⟩ : ∃ z, decide (hh = 1) = z := ⟨_, rfl⟩
      rw [hhid] at hq
      have HHI : Hid (decide ((smallS s4).1 = 1) = hid) := by unfold Hid; rw [hhh]; exact hhid
      have HS5 := Lib.hid hs5
      clear hs5 hhh hhid hbB hrB HDA HGA
      dsimp only
      go_wp2_with fail
      have HSC : Hid (DcS w p c gm b s5 (intsS b s5).2 v0 v1 nlS l0 xs tk0 gg x1 x2 false WB) := ⟨HDB.out, HGB.out⟩
      obtain ⟨img, himg⟩ : ∃ z, (intsS b s5).1 = z := ⟨_, rfl⟩
      have HIM : Hid (∀ W, DcS w p c gm b s5 (intsS b s5).2 v0 v1 nlS l0 xs tk0 gg x1 x2 false W → Calls Try.prog 59 #[.pointer (some ⟨p, 0, none⟩)] W (okIm w.heap.size img (DcS w p c gm b s5 (intsS b s5).2 v0 v1 nlS l0 xs tk0 gg x1 x2 true) W)) := fun W h => by rw [← himg]; exact dimage h HB100.out
      have HIG := Lib.hid himg
      obtain ⟨s6, hs6⟩ : ∃ z, (intsS b s5).2 = z := ⟨_, rfl⟩
      rw [hs6] at HSC HIM
      have HS6 := Lib.hid hs6
      clear himg hs6 HDB HGB
      refine wp_region_pre (by kernel_rfl) 8 [46, 47, 48, 49, 50, 51, 52, 53] (by kernel_rfl) (fun L vs W => DcS w p c gm b s5 s6 v0 v1 nlS l0 xs tk0 gg x1 x2 (L 5) W ∧ ∀ i, L i = true → i < 8 → D10G w.heap.size gm p v1 x1 x2 hid img i (vs i) W) ⟨HSC.out.grow ((Below.refl _ _).drew), fun i hi => by cases hi⟩ ?_ ?_
      · intro i o L vs ρ W hi51 ho hli haft hρ hI
        obtain ⟨hS, hG'⟩ := hI
        have hG : ∀ j, L j = true → D10G w.heap.size gm p v1 x1 x2 hid img j (vs j) W := fun j hj => by
          by_cases h51 : j < 8
          · exact hG' j hj h51
          · match j, h51 with
            | j + 8, _ => exact trivial
        have hc := hρ.const
        have hfn := hρ.fn
        have next : ∀ v W', Kp 75 W W' → DcS w p c gm b s5 s6 v0 v1 nlS l0 xs tk0 gg x1 x2 (updB L i 5) W' → D10G w.heap.size gm p v1 x1 x2 hid img i v W' → DcS w p c gm b s5 s6 v0 v1 nlS l0 xs tk0 gg x1 x2 (updB L i 5) W' ∧ ∀ j, updB L i j = true → j < 8 → D10G w.heap.size gm p v1 x1 x2 hid img j (updV vs i v j) W' := fun v W' h1 h0 h2 => by
          refine ⟨h0, fun j hj h51 => ?_⟩
          by_cases hji : j = i
          · subst hji
            simpa [updV] using h2
          · simp only [updB, if_neg hji] at hj
            simpa [updV, hji] using D10G_mono w.heap.size gm p v1 x1 x2 hid img j _ W W' h51 (hG' j hj h51) h1
        have hm := hS.1.m
        have m1 := hm.cell 1
        have hltm := hm.lt
        have q0 := hS.2.cell 0
        have q1 := hS.2.cell 1
        have hltq := hS.2.lt
        simp only [mC, List.getElem?_toArray, List.getElem?_cons_zero, List.getElem?_cons_succ] at m1 q0 q1
        rcases i with _ | _ | _ | _ | _ | _ | _ | _ | i
        all_goals (first | omega | skip)
        all_goals simp only [List.getElem?_toArray, List.getElem?_cons_zero, List.getElem?_cons_succ, Option.some.injEq] at ho
        all_goals subst ho
        · have o5 : ρ (.tmp 5) = .pointer (some ⟨gm, 0, none⟩) := hρ.out 5 rfl
          exact stepTo_value (w' := W) (by unfold execOp; simp only [o5, hc]; go_simp) (next _ _ (Kp.refl _ _) (by simpa only [updB, Nat.reduceEqDiff, if_false, if_true, reduceIte] using hS) rfl)
        · have g46 : D10G w.heap.size gm p v1 x1 x2 hid img 0 (vs 0) W := hG 0 (haft 0 (by kernel_rfl))
          have s46 : ρ (.tmp 46) = .pointer (some ⟨gm, 1, none⟩) := (hρ.at_ 46 0 rfl).trans g46
          exact stepTo_value (w' := W) (by unfold execOp; simp only [s46, hc]; go_simp) (next _ _ (Kp.refl _ _) (by simpa only [updB, Nat.reduceEqDiff, if_false, if_true, reduceIte] using hS) rfl)
        · have o8 : ρ (.tmp 8) = .pointer (some ⟨gg, 0, none⟩) := hρ.out 8 rfl
          exact stepTo_value (w' := W) (by unfold execOp; simp only [o8, hc]; go_simp) (next _ _ (Kp.refl _ _) (by simpa only [updB, Nat.reduceEqDiff, if_false, if_true, reduceIte] using hS) rfl)
        · have o9 : ρ (.tmp 9) = .bool hid := hρ.out 9 rfl
          exact stepTo_value (w' := W) (by unfold execOp; simp only [o9, hc]; go_simp) (next _ _ (Kp.refl _ _) (by simpa only [updB, Nat.reduceEqDiff, if_false, if_true, reduceIte] using hS) rfl)
        · have o4 : ρ (.tmp 4) = .pointer (some ⟨p, 0, none⟩) := hρ.out 4 rfl
          exact stepTo_value (w' := W) (by unfold execOp; simp only [o4, hc]; go_simp) (next _ _ (Kp.refl _ _) (by simpa only [updB, Nat.reduceEqDiff, if_false, if_true, reduceIte] using hS) rfl)
        · have g50 : D10G w.heap.size gm p v1 x1 x2 hid img 4 (vs 4) W := hG 4 (haft 4 (by kernel_rfl))
          have s50 : ρ (.tmp 50) = .pointer (some ⟨p, 0, none⟩) := (hρ.at_ 50 4 rfl).trans g50
          rw [hli] at hS
          refine stepTo_enter (f := 59) (args := #[.pointer (some ⟨p, 0, none⟩)]) (w' := W) (by unfold execOp; simp only [hfn, s50]; go_simp) ((HIM.out W hS).mono ?_)
          rintro x W' ⟨A5, e5, rfl, ho5, hb', h1⟩
          exact ⟨_, rfl, next _ _ hb' (by simpa only [updB, if_true, reduceIte] using h1) ⟨A5, e5, rfl, ho5⟩⟩
        · have g48 : D10G w.heap.size gm p v1 x1 x2 hid img 2 (vs 2) W := hG 2 (haft 2 (by kernel_rfl))
          have s48 : ρ (.tmp 48) = .agg #[.int .u64 x1, .int .u64 x2] := (hρ.at_ 48 2 rfl).trans g48
          have g49 : D10G w.heap.size gm p v1 x1 x2 hid img 3 (vs 3) W := hG 3 (haft 3 (by kernel_rfl))
          have s49 : ρ (.tmp 49) = .bool hid := (hρ.at_ 49 3 rfl).trans g49
          obtain ⟨A51, e51, g51, hh512⟩ : D10G w.heap.size gm p v1 x1 x2 hid img 5 (vs 5) W := hG 5 (haft 5 (by kernel_rfl))
          have s51 : ρ (.tmp 51) = .slice A51 img.length e51 := (hρ.at_ 51 5 rfl).trans g51
          exact stepTo_value (v := .agg #[.int .u64 x1, .int .u64 x2, .slice A51 img.length e51, .bool hid]) (w' := W) (by unfold execOp; simp only [s48, s49, s51, hc]; go_simp) (next _ _ (Kp.refl _ _) (by have h0 := hS; simpa only [updB, Nat.reduceEqDiff, if_false, if_true, reduceIte] using h0) ⟨A51, e51, rfl, hh512⟩)
        · obtain ⟨A52, e52, g52, hh522⟩ : D10G w.heap.size gm p v1 x1 x2 hid img 6 (vs 6) W := hG 6 (haft 6 (by kernel_rfl))
          have s52 : ρ (.tmp 52) = .agg #[.int .u64 x1, .int .u64 x2, .slice A52 img.length e52, .bool hid] := (hρ.at_ 52 6 rfl).trans g52
          exact stepTo_value (v := .slice (some ⟨W.heap.size, 0, none⟩) 1 1) (w' := W.alloc (.cells #[.int .u64 x1, .int .u64 x2, .slice A52 img.length e52, .bool hid] 48)) (by unfold execOp; simp only [s52, hc]; go_simp) (next _ _ (Kp.of_below ((Below.refl _ W).alloc (Nat.le_refl _) _)) (by have h0 := hS.grow ((Below.refl _ W).alloc (Nat.le_refl _) (.cells #[.int .u64 x1, .int .u64 x2, .slice A52 img.length e52, .bool hid] 48)); simpa only [updB, Nat.reduceEqDiff, if_false, if_true, reduceIte] using h0) ⟨W.heap.size, A52, e52, rfl, Blk.new _ _ _, oi_below hh522 ((Below.refl _ W).alloc (Nat.le_refl _) _)⟩)
      · intro L vs WC hL hI
        obtain ⟨hS, hG⟩ := hI
        have g1 : vs 1 = v1 := hG 1 (hL 1 (by decide)) (by decide)
        have g7' : ∃ bb A e, vs 7 = .slice (some ⟨bb, 0, none⟩) 1 1 ∧ Blk WC bb 48 #[.int .u64 x1, .int .u64 x2, .slice A img.length e, .bool hid] ∧ OInts WC w.heap.size (.slice A img.length e) img := hG 7 (hL 7 (by decide)) (by decide)
        obtain ⟨bb, A, e, g7, hsn, hoi⟩ := g7'
        obtain ⟨i0, hi, hz0, hz1, hz2⟩ := info_parts infoSp
        have hS' : DS w WC p c gm b s6 v0 v1 nlS l0 xs tk0 := by
          have h5 : L 5 = true := hL 5 (by decide)
          rw [h5] at hS
          exact hS.1
        have HSD := Lib.hid hS'
        have HOI := Lib.hid hoi
        have HNW := Lib.hid (news4 hsn)
        have hxl : xs.length = k := by
          have := congrArg List.length HXS.out
          rw [List.length_map, spsS_len] at this
          exact this
        have HON : Hid (∀ u ∈ ([.int .u64 x1, .int .u64 x2, .slice A img.length e, .bool hid] : List Value), u.oneCell' = true) := by
          intro u hu
          simp only [List.mem_cons, List.not_mem_nil, or_false] at hu
          rcases hu with rfl | rfl | rfl | rfl <;> rfl
        have hk100 : k < 100 := by omega
        have HXL := Lib.hid hxl
        have HPS : Hid (∀ v' w1, w1.ownsRow w.heap.size 48 4 v' (xs.length + 1) (spRow xs ++ [.int .u64 x1, .int .u64 x2, .slice A img.length e, .bool hid]) → WC.grownBy w1 v1.ownBlock →
            DS w (w1.setCell ⟨gm, 1, none⟩ v') p c gm b s6 v0 v' nlS l0 (xs ++ [((⟨g, img, hid⟩ : Sp), .slice A img.length e)]) tk0 ∧ w1.cell? ⟨gm, 1, none⟩ = some v1 ∧ w1.frozen? ⟨gm, 1, none⟩ = false) := by
          intro v' w1 ho hg
          have hk := Kp.of_grown hg HSD.out.row.1
          have hm := hk _ _ _ (by decide) HSD.out.m
          refine ⟨HSD.out.push (x := (⟨g, img, hid⟩ : Sp)) HOI.out ?_ hg, ?_, hm.frozen 1⟩
          · unfold spV
            dsimp only
            rw [HX1.out, HX2.out]
            exact ho
          · rw [hm.cell 1]
            simp [mC]
        clear hL hS hG hsn hoi hS'
        simp only [putList, putSel, if_true]
        rw [g1, g7]
        generalize vs 0 = z0
        generalize vs 2 = z2
        generalize vs 3 = z3
        generalize vs 4 = z4
        generalize vs 5 = z5
        generalize vs 6 = z6
        clear g1 g7 hxl
        simp only [Act.put, List.setIfInBounds_toArray, List.set_cons_succ, List.set_cons_zero]
        refine wpAny_one (i := 8) (by kernel_rfl) rfl rfl ?_
        refine wp_append_any (.tmp 47) (.tmp 53) 23 rfl w.heap.size 48 i0 (.agg #[.int .u64 0, .int .u64 0, .slice none 0 0, .bool false]) 4 48 Try.underlying23 hi hz0 hz1 hz2 rfl (by decide) _ xs.length _ rfl HSD.out.row.1 ⟨bb, 0, none⟩ 1 1 [.int .u64 x1, .int .u64 x2, .slice A img.length e, .bool hid] rfl rfl HNW.out HON.out (by have := HXL.out; unfold maxLen; omega) (by have := HXL.out; omega) HSD.out.below.size ?_
        intro v' w1 hown hgrow hv
        obtain ⟨A', c', rfl⟩ := own_form hown
        obtain ⟨hds, k1, f1⟩ := HPS.out _ w1 hown hgrow
        have HDS := Lib.hid hds
        have hltm : gm < w1.heap.size := World.block_lt_of_cell? w1 _ k1
        clear hown hgrow hv hds HPS
        go_simp
        refine wpAny_one (i := 9) (by kernel_rfl) rfl rfl ?_
        go_simp
        refine wpAny_one (i := 10) (by kernel_rfl) rfl rfl ?_
        go_simp
        refine ⟨by kernel_rfl, ?_⟩
        go_wp2_with fail
        go_roundw
        case rel =>
          have hsn := spsS_snoc b k s3
          have hst : spS b sk = ((⟨g, img, hid⟩ : Sp), s6) := by
            unfold spS
            dsimp only
            rw [HG.out, HS4.out, HS5.out, HHI.out, HIG.out, HS6.out]
          refine ⟨k + 1, .slice A' (xs.length + 1) c', xs ++ [((⟨g, img, hid⟩ : Sp), .slice A img.length e)], by omega, by go_num, ?_, ?_⟩
          · rw [hsn, HSK.out, hst, List.map_append, HXS.out]
            rfl
          · rw [hsn, HSK.out, hst]
            exact HDS.out
        case measure => simp [intOf]; omega
    · obtain rfl : k = N := by omega
      obtain ⟨A0, d0, rfl⟩ := own_form HD.out.live
      obtain ⟨A1, d1, rfl⟩ := own_form HD.out.row.1
      have hfacts : okMt0 l0 (xs.map (·.1)) := by
        refine ⟨?_, fun x hx => ?_, ?_, ?_⟩
        · rw [← HL0.out]; exact intsS_ok _ _
        · rw [HXS.out] at hx
          obtain ⟨h1, h2, h3⟩ := spsS_ok b k s3 x hx
          exact ⟨h1, h3, by rw [h2]; have := HB100.out; omega⟩
        · rw [← HL0.out, intsS_len]; have := HB100.out; omega
        · rw [HXS.out, spsS_len]; have := HN.out; omega
      have HF := Lib.hid hfacts
      clear hfacts
      have HMS : Hid (mS (some (bl s)) = (⟨l0, xs.map (·.1), (tkS b (spsS b k s3).2).1⟩, (tkS b (spsS b k s3).2).2)) := by
        unfold Hid mS
        dsimp only
        rw [HNN0.out, HBM.out, HS1.out, HL0.out, HS2.out, HN1.out, HS3.out, HN.out, HXS.out]
      have HTOK : Hid (okInts (tkS b (spsS b k s3).2).1.img ∧ (tkS b (spsS b k s3).2).1.img.length ≤ 100) := by
        unfold Hid tkS
        dsimp only
        split
        · exact ⟨intsS_ok _ _, by rw [intsS_len]; exact HB100.out⟩
        · exact ⟨fun z hz => absurd hz (by simp [tk0]), by simp [tk0]⟩
      obtain ⟨sN, hsN⟩ : ∃ z, (spsS b k s3).2 = z := ⟨_, rfl⟩
      rw [hsN] at HMS HD HTOK
      clear hsN HXS HNN0 HN1 HL0 HS1 HS2 HS3 HBM
      have hn : (¬ (k : Int) < (n1 : Int)) ∨ ((k : Int) < (n1 : Int) ∧ ¬ (k : Int) < 100) := by have := HN.out; omega
      clear hNN hle1
      rcases hn with hn | ⟨hn, hn2⟩
      all_goals
        go_wp2_with fail
        refine (small_any HD.out.rs).mono ?_
        rintro e W9 ⟨rfl, hb9, hr9⟩
        have HD9 := Lib.hid (HD.out.turn hb9 hr9)
        obtain ⟨s4, hs4⟩ : ∃ z, (smallS sN).2 = z := ⟨_, rfl⟩
        obtain ⟨f, hf⟩ : ∃ z : Nat, (smallS sN).1 = z := ⟨_, rfl⟩
        rw [hs4] at HD9
        rw [hf]
        have HF4 := Lib.hid hf
        have HS4 := Lib.hid hs4
        clear hs4 hf hb9 hr9 HD
        dsimp only
        by_cases h1 : f = 1
        · subst h1
          have ht : tkS b sN = (⟨(gdS s4).1, (gdS (gdS s4).2).1, (smallS (gdS (gdS s4).2).2).1, (smallS (smallS (gdS (gdS s4).2).2).2).1, (intsS b (smallS (smallS (gdS (gdS s4).2).2).2).2).1⟩, (intsS b (smallS (smallS (gdS (gdS s4).2).2).2).2).2) := by
            unfold tkS
            dsimp only
            rw [HF4.out, HS4.out]
            rfl
          rw [ht] at HMS HTOK
          clear ht HF4 HS4
          go_wp2_with fail
          refine (guid_any HD9.out.rs).mono ?_
          rintro e WA ⟨rfl, hbA, hrA⟩
          have HDA := Lib.hid (HD9.out.turn hbA hrA)
          obtain ⟨ga, hga⟩ : ∃ z, (gdS s4).1 = z := ⟨_, rfl⟩
          obtain ⟨s5, hs5⟩ : ∃ z, (gdS s4).2 = z := ⟨_, rfl⟩
          have hgaB := gdS_B s4
          rw [hga] at hgaB
          rw [hga, hs5] at HMS
          rw [hs5] at HTOK
          rw [hs5] at HDA
          rw [hga]
          have HGAB := Lib.hid hgaB
          clear hga hs5 hbA hrA HD9 hgaB
          unfold gv
          obtain ⟨x1, hx1⟩ : ∃ z, (ga.1 : Int) = z := ⟨_, rfl⟩
          obtain ⟨x2, hx2⟩ : ∃ z, (ga.2 : Int) = z := ⟨_, rfl⟩
          rw [hx1, hx2]
          have HX1 := Lib.hid hx1
          have HX2 := Lib.hid hx2
          clear hx1 hx2
          dsimp only
          have HDB := Lib.hid (HDA.out.grow ((Below.refl _ WA).alloc (Nat.le_refl _) (.cells #[.int .u64 x1, .int .u64 x2] 26)))
          have HGB := Lib.hid (Blk.new WA 26 #[.int .u64 x1, .int .u64 x2])
          obtain ⟨WB, hWB⟩ : ∃ z, WA.alloc (.cells #[.int .u64 x1, .int .u64 x2] 26) = z := ⟨_, rfl⟩
          rw [hWB] at HDB HGB
          go_wp2_with fail
          try rw [hWB]
          obtain ⟨pa, hpa⟩ : ∃ z, WA.heap.size = z := ⟨_, rfl⟩
          rw [hpa] at HGB ⊢
          clear hpa hWB HDA
          refine (guid_any HDB.out.rs).mono ?_
          rintro e WC ⟨rfl, hbC, hrC⟩
          have HDC := Lib.hid (HDB.out.turn hbC hrC)
          have HGC := Lib.hid ((HDB.out.rs.kp hbC) _ _ _ (by decide) HGB.out)
          obtain ⟨gy, hgy⟩ : ∃ z, (gdS s5).1 = z := ⟨_, rfl⟩
          obtain ⟨s6, hs6⟩ : ∃ z, (gdS s5).2 = z := ⟨_, rfl⟩
          have hgyB := gdS_B s5
          rw [hgy] at hgyB
          rw [hgy, hs6] at HMS
          rw [hs6] at HTOK
          rw [hs6] at HDC
          rw [hgy]
          have HGYB := Lib.hid hgyB
          clear hgy hs6 hbC hrC HDB HGB hgyB
          unfold gv
          obtain ⟨y1, hy1⟩ : ∃ z, (gy.1 : Int) = z := ⟨_, rfl⟩
          obtain ⟨y2, hy2⟩ : ∃ z, (gy.2 : Int) = z := ⟨_, rfl⟩
          rw [hy1, hy2]
          have HY1 := Lib.hid hy1
          have HY2 := Lib.hid hy2
          clear hy1 hy2
          dsimp only
          have HDD := Lib.hid (HDC.out.grow ((Below.refl _ WC).alloc (Nat.le_refl _) (.cells #[.int .u64 y1, .int .u64 y2] 26)))
          have HGD := Lib.hid (HGC.out.below ((Below.refl _ WC).alloc (Nat.le_refl _) (.cells #[.int .u64 y1, .int .u64 y2] 26)))
          have HHD := Lib.hid (Blk.new WC 26 #[.int .u64 y1, .int .u64 y2])
          obtain ⟨WD, hWD⟩ : ∃ z, WC.alloc (.cells #[.int .u64 y1, .int .u64 y2] 26) = z := ⟨_, rfl⟩
          rw [hWD] at HDD HGD HHD
          go_wp2_with fail
          try rw [hWD]
          obtain ⟨pb, hpb⟩ : ∃ z, WC.heap.size = z := ⟨_, rfl⟩
          rw [hpb] at HHD ⊢
          clear hpb hWD HDC HGC
          refine (small_any HDD.out.rs).mono ?_
          rintro e WE ⟨rfl, hbE, hrE⟩
          have HDE := Lib.hid (HDD.out.turn hbE hrE)
          have HGE := Lib.hid ((HDD.out.rs.kp hbE) _ _ _ (by decide) HGD.out)
          have HHE := Lib.hid ((HDD.out.rs.kp hbE) _ _ _ (by decide) HHD.out)
          obtain ⟨nx, hnx⟩ : ∃ z : Nat, (smallS s6).1 = z := ⟨_, rfl⟩
          obtain ⟨s7, hs7⟩ : ∃ z, (smallS s6).2 = z := ⟨_, rfl⟩
          have hnl := smallS_le s6
          rw [hnx] at hnl
          rw [hnx, hs7] at HMS
          rw [hs7] at HTOK HDE
          rw [hnx]
          have HNX := Lib.hid hnl
          clear hnx hs7 hnl hbE hrE HDD HGD HHD
          dsimp only
          go_wp2_with fail
          refine (small_any HDE.out.rs).mono ?_
          rintro e WF ⟨rfl, hbF, hrF⟩
          have HDF := Lib.hid (HDE.out.turn hbF hrF)
          have HGF := Lib.hid ((HDE.out.rs.kp hbF) _ _ _ (by decide) HGE.out)
          have HHF := Lib.hid ((HDE.out.rs.kp hbF) _ _ _ (by decide) HHE.out)
          obtain ⟨al, hal⟩ : ∃ z : Nat, (smallS s7).1 = z := ⟨_, rfl⟩
          obtain ⟨s8, hs8⟩ : ∃ z, (smallS s7).2 = z := ⟨_, rfl⟩
          have hnl := smallS_le s7
          rw [hal] at hnl
          rw [hal, hs8] at HMS
          rw [hs8] at HTOK HDF
          rw [hal]
          have HAL := Lib.hid hnl
          clear hal hs8 hnl hbF hrF HDE HGE HHE
          dsimp only
          go_wp2_with fail
          have HSC : Hid (DcT w p c gm b s8 (intsS b s8).2 (.slice A0 l0.length d0) (.slice A1 xs.length d1) nlS l0 xs tk0 pa x1 x2 pb y1 y2 false WF) := ⟨⟨HDF.out, HGF.out⟩, HHF.out⟩
          obtain ⟨img, himg⟩ : ∃ z, (intsS b s8).1 = z := ⟨_, rfl⟩
          have HIM : Hid (∀ W, DcT w p c gm b s8 (intsS b s8).2 (.slice A0 l0.length d0) (.slice A1 xs.length d1) nlS l0 xs tk0 pa x1 x2 pb y1 y2 false W → Calls Try.prog 59 #[.pointer (some ⟨p, 0, none⟩)] W (okIm w.heap.size img (DcT w p c gm b s8 (intsS b s8).2 (.slice A0 l0.length d0) (.slice A1 xs.length d1) nlS l0 xs tk0 pa x1 x2 pb y1 y2 true) W)) := fun W h => by rw [← himg]; exact timage h HB100.out
          rw [himg] at HTOK HMS
          obtain ⟨s9, hs9⟩ : ∃ z, (intsS b s8).2 = z := ⟨_, rfl⟩
          rw [hs9] at HSC HIM HMS
          clear himg hs9 HDF HGF HHF
          refine wp_region_pre (by kernel_rfl) 7 [67, 68, 69, 70, 71, 72, 73] (by kernel_rfl) (fun L vs W => DcT w p c gm b s8 s9 (.slice A0 l0.length d0) (.slice A1 xs.length d1) nlS l0 xs tk0 pa x1 x2 pb y1 y2 (L 5) W ∧ ∀ i, L i = true → i < 7 → D16G w.heap.size p x1 x2 y1 y2 nx al img i (vs i) W) ⟨HSC.out.grow ((Below.refl _ _).drew), fun i hi => by cases hi⟩ ?_ ?_
          · intro i o L vs ρ W hi51 ho hli haft hρ hI
            obtain ⟨hS, hG'⟩ := hI
            have hG : ∀ j, L j = true → D16G w.heap.size p x1 x2 y1 y2 nx al img j (vs j) W := fun j hj => by
              by_cases h51 : j < 7
              · exact hG' j hj h51
              · match j, h51 with
                | j + 7, _ => exact trivial
            have hc := hρ.const
            have hfn := hρ.fn
            have next : ∀ v W', Kp 75 W W' → DcT w p c gm b s8 s9 (.slice A0 l0.length d0) (.slice A1 xs.length d1) nlS l0 xs tk0 pa x1 x2 pb y1 y2 (updB L i 5) W' → D16G w.heap.size p x1 x2 y1 y2 nx al img i v W' → DcT w p c gm b s8 s9 (.slice A0 l0.length d0) (.slice A1 xs.length d1) nlS l0 xs tk0 pa x1 x2 pb y1 y2 (updB L i 5) W' ∧ ∀ j, updB L i j = true → j < 7 → D16G w.heap.size p x1 x2 y1 y2 nx al img j (updV vs i v j) W' := fun v W' h1 h0 h2 => by
              refine ⟨h0, fun j hj h51 => ?_⟩
              by_cases hji : j = i
              · subst hji
                simpa [updV] using h2
              · simp only [updB, if_neg hji] at hj
                simpa [updV, hji] using D16G_mono w.heap.size p x1 x2 y1 y2 nx al img j _ W W' h51 (hG' j hj h51) h1
            have q0 := hS.1.2.cell 0
            have q1 := hS.1.2.cell 1
            have hltq := hS.1.2.lt
            have r0 := hS.2.cell 0
            have r1 := hS.2.cell 1
            have hltr := hS.2.lt
            simp only [List.getElem?_toArray, List.getElem?_cons_zero, List.getElem?_cons_succ] at q0 q1 r0 r1
            rcases i with _ | _ | _ | _ | _ | _ | _ | i
            all_goals (first | omega | skip)
            all_goals simp only [List.getElem?_toArray, List.getElem?_cons_zero, List.getElem?_cons_succ, Option.some.injEq] at ho
            all_goals subst ho
            · have o10 : ρ (.tmp 10) = .pointer (some ⟨pa, 0, none⟩) := hρ.out 10 rfl
              exact stepTo_value (w' := W) (by unfold execOp; simp only [o10, hc]; go_simp) (next _ _ (Kp.refl _ _) (by simpa only [updB, Nat.reduceEqDiff, if_false, if_true, reduceIte] using hS) rfl)
            · have o11 : ρ (.tmp 11) = .pointer (some ⟨pb, 0, none⟩) := hρ.out 11 rfl
              exact stepTo_value (w' := W) (by unfold execOp; simp only [o11, hc]; go_simp) (next _ _ (Kp.refl _ _) (by simpa only [updB, Nat.reduceEqDiff, if_false, if_true, reduceIte] using hS) rfl)
            · have o12 : ρ (.tmp 12) = .int .i64 (nx : Int) := hρ.out 12 rfl
              exact stepTo_value (w' := W) (by unfold execOp; simp only [o12, hc]; go_simp) (next _ _ (Kp.refl _ _) (by simpa only [updB, Nat.reduceEqDiff, if_false, if_true, reduceIte] using hS) rfl)
            · have o13 : ρ (.tmp 13) = .int .i64 (al : Int) := hρ.out 13 rfl
              exact stepTo_value (w' := W) (by unfold execOp; simp only [o13, hc]; go_simp) (next _ _ (Kp.refl _ _) (by simpa only [updB, Nat.reduceEqDiff, if_false, if_true, reduceIte] using hS) rfl)
            · have o4 : ρ (.tmp 4) = .pointer (some ⟨p, 0, none⟩) := hρ.out 4 rfl
              exact stepTo_value (w' := W) (by unfold execOp; simp only [o4, hc]; go_simp) (next _ _ (Kp.refl _ _) (by simpa only [updB, Nat.reduceEqDiff, if_false, if_true, reduceIte] using hS) rfl)
            · have g71 : D16G w.heap.size p x1 x2 y1 y2 nx al img 4 (vs 4) W := hG 4 (haft 4 (by kernel_rfl))
              have s71 : ρ (.tmp 71) = .pointer (some ⟨p, 0, none⟩) := (hρ.at_ 71 4 rfl).trans g71
              rw [hli] at hS
              refine stepTo_enter (f := 59) (args := #[.pointer (some ⟨p, 0, none⟩)]) (w' := W) (by unfold execOp; simp only [hfn, s71]; go_simp) ((HIM.out W hS).mono ?_)
              rintro x W' ⟨A5, e5, rfl, ho5, hb', h1⟩
              exact ⟨_, rfl, next _ _ hb' (by simpa only [updB, if_true, reduceIte] using h1) ⟨A5, e5, rfl, ho5⟩⟩
            · have g67 : D16G w.heap.size p x1 x2 y1 y2 nx al img 0 (vs 0) W := hG 0 (haft 0 (by kernel_rfl))
              have s67 : ρ (.tmp 67) = .agg #[.int .u64 x1, .int .u64 x2] := (hρ.at_ 67 0 rfl).trans g67
              have g68 : D16G w.heap.size p x1 x2 y1 y2 nx al img 1 (vs 1) W := hG 1 (haft 1 (by kernel_rfl))
              have s68 : ρ (.tmp 68) = .agg #[.int .u64 y1, .int .u64 y2] := (hρ.at_ 68 1 rfl).trans g68
              have g69 : D16G w.heap.size p x1 x2 y1 y2 nx al img 2 (vs 2) W := hG 2 (haft 2 (by kernel_rfl))
              have s69 : ρ (.tmp 69) = .int .i64 (nx : Int) := (hρ.at_ 69 2 rfl).trans g69
              have g70 : D16G w.heap.size p x1 x2 y1 y2 nx al img 3 (vs 3) W := hG 3 (haft 3 (by kernel_rfl))
              have s70 : ρ (.tmp 70) = .int .i64 (al : Int) := (hρ.at_ 70 3 rfl).trans g70
              obtain ⟨A72, e72, g72, hh722⟩ : D16G w.heap.size p x1 x2 y1 y2 nx al img 5 (vs 5) W := hG 5 (haft 5 (by kernel_rfl))
              have s72 : ρ (.tmp 72) = .slice A72 img.length e72 := (hρ.at_ 72 5 rfl).trans g72
              exact stepTo_value (v := .agg #[.int .u64 x1, .int .u64 x2, .int .u64 y1, .int .u64 y2, .int .i64 (nx : Int), .int .i64 (al : Int), .slice A72 img.length e72]) (w' := W) (by unfold execOp; simp only [s67, s68, s69, s70, s72, hc]; go_simp) (next _ _ (Kp.refl _ _) (by have h0 := hS; simpa only [updB, Nat.reduceEqDiff, if_false, if_true, reduceIte] using h0) ⟨A72, e72, rfl, hh722⟩)
          · intro L vs WG hL hI
            obtain ⟨hS, hG⟩ := hI
            obtain ⟨A, e, g6, hoi⟩ : ∃ A e, vs 6 = .agg #[.int .u64 x1, .int .u64 x2, .int .u64 y1, .int .u64 y2, .int .i64 (nx : Int), .int .i64 (al : Int), .slice A img.length e] ∧ OInts WG w.heap.size (.slice A img.length e) img := hG 6 (hL 6 (by decide)) (by decide)
            have hS' : DS w WG p c gm b s9 (.slice A0 l0.length d0) (.slice A1 xs.length d1) nlS l0 xs tk0 := by
              have h5 : L 5 = true := hL 5 (by decide)
              rw [h5] at hS
              exact hS.1.1
            have hdz := hS'.tok (v2' := .slice A img.length e) (t' := ⟨ga, gy, nx, al, img⟩) hoi
            have k2 := hS'.m.cell 2
            have k3 := hS'.m.cell 3
            have k4 := hS'.m.cell 4
            have k5 := hS'.m.cell 5
            have k6 := hS'.m.cell 6
            have k7 := hS'.m.cell 7
            have k8 := hS'.m.cell 8
            simp only [mC, List.getElem?_toArray, List.getElem?_cons_zero, List.getElem?_cons_succ] at k2 k3 k4 k5 k6 k7 k8
            have f2 := hS'.m.frozen 2
            have f3 := hS'.m.frozen 3
            have f4 := hS'.m.frozen 4
            have f5 := hS'.m.frozen 5
            have f6 := hS'.m.frozen 6
            have f7 := hS'.m.frozen 7
            have f8 := hS'.m.frozen 8
            have hltm := hS'.m.lt
            unfold setTok at hdz
            dsimp only at hdz
            rw [HX1.out, HX2.out, HY1.out, HY2.out] at hdz
            have HDZ := Lib.hid hdz
            clear hL hS hG hoi hS' hdz
            simp only [putList, putSel, if_true]
            rw [g6]
            generalize vs 0 = z0
            generalize vs 1 = z1
            generalize vs 2 = z2
            generalize vs 3 = z3
            generalize vs 4 = z4
            generalize vs 5 = z5
            clear g6
            simp only [Act.put, List.setIfInBounds_toArray, List.set_cons_succ, List.set_cons_zero]
            refine wpAny_one (i := 7) (by kernel_rfl) rfl rfl ?_
            go_simp
            refine wpAny_one (i := 8) (by kernel_rfl) rfl rfl ?_
            go_simp
            refine ⟨by kernel_rfl, ?_⟩
            have HTK : Hid (okTk0 ⟨ga, gy, nx, al, img⟩) := ⟨HTOK.out.1, HTOK.out.2, HGAB.out, HGYB.out, by have := HNX.out; unfold i64B; dsimp only; omega, by have := HAL.out; unfold i64B; dsimp only; omega⟩
            have hat := HDZ.out.at_ HF.out HTK.out
            have HEN := Lib.hid (menc_any _ _ _ hat (mts_of HF.out HTK.out))
            have HMD := Lib.hid (fun h => mDec_yes HMS.out h)
            have HMN := Lib.hid (fun h => mDec_no HMS.out h)
            obtain ⟨WZ, hWZ⟩ : ∃ z, ((((((WG.setCell ⟨gm, 2, none⟩ (.int .u64 x1)).setCell ⟨gm, 3, none⟩ (.int .u64 x2)).setCell ⟨gm, 4, none⟩ (.int .u64 y1)).setCell ⟨gm, 5, none⟩ (.int .u64 y2)).setCell ⟨gm, 6, none⟩ (.int .i64 (nx : Int))).setCell ⟨gm, 7, none⟩ (.int .i64 (al : Int))).setCell ⟨gm, 8, none⟩ (.slice A img.length e) = z := ⟨_, rfl⟩
            rw [hWZ] at HDZ HEN ⊢
            clear hWZ k2 k3 k4 k5 k6 k7 k8 f2 f3 f4 f5 f6 f7 f8 hltm hat HTOK HMS HSC HIM
            have k0 := HDZ.out.m.cell 0
            have k1 := HDZ.out.m.cell 1
            have k2 := HDZ.out.m.cell 2
            have k3 := HDZ.out.m.cell 3
            have k4 := HDZ.out.m.cell 4
            have k5 := HDZ.out.m.cell 5
            have k6 := HDZ.out.m.cell 6
            have k7 := HDZ.out.m.cell 7
            have k8 := HDZ.out.m.cell 8
            simp only [mC, nlS, List.getElem?_toArray, List.getElem?_cons_zero, List.getElem?_cons_succ] at k0 k1 k2 k3 k4 k5 k6 k7 k8
            have hltg := HDZ.out.m.lt
            go_wp2_with fail
            refine HEN.out.mono ?_
            rintro e WY ⟨rfl, hbY⟩
            have HDY := Lib.hid (HDZ.out.grow hbY)
            clear hbY HEN k0 k1 k2 k3 k4 k5 k6 k7 k8 hltg
            obtain ⟨R, hR⟩ : ∃ z, mEnc (⟨l0, xs.map (·.1), ⟨ga, gy, nx, al, img⟩⟩ : Mt) = z := ⟨_, rfl⟩
            rw [hR] at HMD HMN ⊢
            clear hR
            obtain ⟨rl, er⟩ := R
            dsimp only
            have r0 := HDY.out.res.cell 0
            have r1 := HDY.out.res.cell 1
            have r2 := HDY.out.res.cell 2
            have r3 := HDY.out.res.cell 3
            have r4 := HDY.out.res.cell 4
            have r5 := HDY.out.res.cell 5
            have r6 := HDY.out.res.cell 6
            have r7 := HDY.out.res.cell 7
            have r8 := HDY.out.res.cell 8
            have f0 := HDY.out.res.frozen 0
            have f1 := HDY.out.res.frozen 1
            have f2 := HDY.out.res.frozen 2
            have f3 := HDY.out.res.frozen 3
            have f4 := HDY.out.res.frozen 4
            have f5 := HDY.out.res.frozen 5
            have f6 := HDY.out.res.frozen 6
            have f7 := HDY.out.res.frozen 7
            have f8 := HDY.out.res.frozen 8
            simp only [mC, nlS, List.getElem?_toArray, List.getElem?_cons_zero, List.getElem?_cons_succ] at r0 r1 r2 r3 r4 r5 r6 r7 r8
            have hltr := HDY.out.res.lt
            by_cases he : er = 0
            case' neg =>
              have hne : (er != 0) = true := by simpa using he
              have HEQ : Hid (mDec (bl s) = (mt0, 4)) := HMN.out (fun h => he (Prod.mk.inj h).2)
              clear he
              have hfi := HDY.out.fin0
              go_wp2_with fail
              show bodyPost _ _ _ _ _ (setMt WY w.heap.size nlS nlS nlS tk0)
              obtain ⟨WF, hWF⟩ : ∃ z, setMt WY w.heap.size nlS nlS nlS tk0 = z := ⟨_, rfl⟩
              rw [hWF] at hfi ⊢
              have HFI := Lib.hid hfi
              clear hfi hWF
              have hfb := HFI.out.1
              have e0 := hfb.cell 0
              have e1 := hfb.cell 1
              have e2 := hfb.cell 2
              have e3 := hfb.cell 3
              have e4 := hfb.cell 4
              have e5 := hfb.cell 5
              have e6 := hfb.cell 6
              have e7 := hfb.cell 7
              have e8 := hfb.cell 8
              simp [mC, nlS, tk0] at e0 e1 e2 e3 e4 e5 e6 e7 e8
              refine bodyPost_ret (v := .tuple #[.agg (mC nlS nlS nlS tk0), .int .i64 4]) (by simp [results, Try.results18, go_sem, mC, nlS, tk0, e0, e1, e2, e3, e4, e5, e6, e7, e8]) rfl ?_
              rw [HEQ.out]
              exact ⟨_, rfl, HFI.out.2.1, HFI.out.2.2⟩
            subst he
            by_cases hb : rl = bl s
            case' neg =>
              have hne : ((str rl).toList == s.toList) = false := by
                rw [beq_eq_false_iff_ne]
                intro h
                apply hb
                rw [toList_bl, toList_bl, bl_str] at h
                exact h
              have HEQ : Hid (mDec (bl s) = (mt0, 4)) := HMN.out (fun h => hb (Prod.mk.inj h).1)
              clear hb
              have hfi := HDY.out.fin0
              go_wp2_with fail
              show bodyPost _ _ _ _ _ (setMt WY w.heap.size nlS nlS nlS tk0)
              obtain ⟨WF, hWF⟩ : ∃ z, setMt WY w.heap.size nlS nlS nlS tk0 = z := ⟨_, rfl⟩
              rw [hWF] at hfi ⊢
              have HFI := Lib.hid hfi
              clear hfi hWF
              have hfb := HFI.out.1
              have e0 := hfb.cell 0
              have e1 := hfb.cell 1
              have e2 := hfb.cell 2
              have e3 := hfb.cell 3
              have e4 := hfb.cell 4
              have e5 := hfb.cell 5
              have e6 := hfb.cell 6
              have e7 := hfb.cell 7
              have e8 := hfb.cell 8
              simp [mC, nlS, tk0] at e0 e1 e2 e3 e4 e5 e6 e7 e8
              refine bodyPost_ret (v := .tuple #[.agg (mC nlS nlS nlS tk0), .int .i64 4]) (by simp [results, Try.results18, go_sem, mC, nlS, tk0, e0, e1, e2, e3, e4, e5, e6, e7, e8]) rfl ?_
              rw [HEQ.out]
              exact ⟨_, rfl, HFI.out.2.1, HFI.out.2.2⟩
            subst hb
            rw [str_bl]
            have HEQ : Hid (mDec (bl s) = ((⟨l0, xs.map (·.1), ⟨ga, gy, nx, al, img⟩⟩ : Mt), 0)) := HMD.out rfl
            have hfi := HDY.out.fin HF.out HTK.out
            have k0 := HDY.out.m.cell 0
            have k1 := HDY.out.m.cell 1
            have k2 := HDY.out.m.cell 2
            have k3 := HDY.out.m.cell 3
            have k4 := HDY.out.m.cell 4
            have k5 := HDY.out.m.cell 5
            have k6 := HDY.out.m.cell 6
            have k7 := HDY.out.m.cell 7
            have k8 := HDY.out.m.cell 8
            simp only [mC, nlS, List.getElem?_toArray, List.getElem?_cons_zero, List.getElem?_cons_succ] at k0 k1 k2 k3 k4 k5 k6 k7 k8
            have hltg := HDY.out.m.lt
            have hgn := HDY.out.gn
            have n1 : ¬ gm = w.heap.size := by omega
            have n2 : ¬ w.heap.size = gm := by omega
            clear hgn
            go_wp2_with fail
            show bodyPost _ _ _ _ _ (setMt WY w.heap.size (.slice A0 l0.length d0) (.slice A1 xs.length d1) (.slice A img.length e) (⟨ga, gy, nx, al, img⟩ : Tk))
            obtain ⟨WF, hWF⟩ : ∃ z, setMt WY w.heap.size (.slice A0 l0.length d0) (.slice A1 xs.length d1) (.slice A img.length e) (⟨ga, gy, nx, al, img⟩ : Tk) = z := ⟨_, rfl⟩
            rw [hWF] at hfi ⊢
            have HFI := Lib.hid hfi
            clear hfi hWF
            have hfb := HFI.out.1
            have e0 := hfb.cell 0
            have e1 := hfb.cell 1
            have e2 := hfb.cell 2
            have e3 := hfb.cell 3
            have e4 := hfb.cell 4
            have e5 := hfb.cell 5
            have e6 := hfb.cell 6
            have e7 := hfb.cell 7
            have e8 := hfb.cell 8
            simp only [mC, List.getElem?_toArray, List.getElem?_cons_zero, List.getElem?_cons_succ] at e0 e1 e2 e3 e4 e5 e6 e7 e8
            refine bodyPost_ret (v := .tuple #[.agg (mC (.slice A0 l0.length d0) (.slice A1 xs.length d1) (.slice A img.length e) (⟨ga, gy, nx, al, img⟩ : Tk)), .int .i64 0]) (by simp [results, Try.results18, go_sem, mC, e0, e1, e2, e3, e4, e5, e6, e7, e8]) rfl ?_
            rw [HEQ.out]
            exact ⟨_, rfl, HFI.out.2.1, HFI.out.2.2⟩
        · have ht : tkS b sN = (tk0, s4) := by
            unfold tkS
            dsimp only
            rw [HF4.out, HS4.out, if_neg h1]
          rw [ht] at HMS HTOK
          have hf1 : ((f : Int) == 1) = false := by rw [beq_eq_false_iff_ne]; omega
          clear h1 ht HF4 HS4
          have HTK : Hid (okTk0 tk0) := okTk00
          have hat := HD9.out.at_ HF.out HTK.out
          have HEN := Lib.hid (menc_any _ _ _ hat (mts_of HF.out HTK.out))
          have HMD := Lib.hid (fun h => mDec_yes HMS.out h)
          have HMN := Lib.hid (fun h => mDec_no HMS.out h)
          have HDZ := Lib.hid HD9.out
          clear hat HMS HD9
          have k0 := HDZ.out.m.cell 0
          have k1 := HDZ.out.m.cell 1
          have k2 := HDZ.out.m.cell 2
          have k3 := HDZ.out.m.cell 3
          have k4 := HDZ.out.m.cell 4
          have k5 := HDZ.out.m.cell 5
          have k6 := HDZ.out.m.cell 6
          have k7 := HDZ.out.m.cell 7
          have k8 := HDZ.out.m.cell 8
          simp only [mC, nlS, List.getElem?_toArray, List.getElem?_cons_zero, List.getElem?_cons_succ] at k0 k1 k2 k3 k4 k5 k6 k7 k8
          have hltg := HDZ.out.m.lt
          go_wp2_with fail
          refine HEN.out.mono ?_
          rintro e WY ⟨rfl, hbY⟩
          have HDY := Lib.hid (HDZ.out.grow hbY)
          clear hbY HEN k0 k1 k2 k3 k4 k5 k6 k7 k8 hltg
          obtain ⟨R, hR⟩ : ∃ z, mEnc (⟨l0, xs.map (·.1), tk0⟩ : Mt) = z := ⟨_, rfl⟩
          rw [hR] at HMD HMN ⊢
          clear hR
          obtain ⟨rl, er⟩ := R
          dsimp only
          have r0 := HDY.out.res.cell 0
          have r1 := HDY.out.res.cell 1
          have r2 := HDY.out.res.cell 2
          have r3 := HDY.out.res.cell 3
          have r4 := HDY.out.res.cell 4
          have r5 := HDY.out.res.cell 5
          have r6 := HDY.out.res.cell 6
          have r7 := HDY.out.res.cell 7
          have r8 := HDY.out.res.cell 8
          have f0 := HDY.out.res.frozen 0
          have f1 := HDY.out.res.frozen 1
          have f2 := HDY.out.res.frozen 2
          have f3 := HDY.out.res.frozen 3
          have f4 := HDY.out.res.frozen 4
          have f5 := HDY.out.res.frozen 5
          have f6 := HDY.out.res.frozen 6
          have f7 := HDY.out.res.frozen 7
          have f8 := HDY.out.res.frozen 8
          simp only [mC, nlS, List.getElem?_toArray, List.getElem?_cons_zero, List.getElem?_cons_succ] at r0 r1 r2 r3 r4 r5 r6 r7 r8
          have hltr := HDY.out.res.lt
          by_cases he : er = 0
          case' neg =>
            have hne : (er != 0) = true := by simpa using he
            have HEQ : Hid (mDec (bl s) = (mt0, 4)) := HMN.out (fun h => he (Prod.mk.inj h).2)
            clear he
            have hfi := HDY.out.fin0
            go_wp2_with fail
            show bodyPost _ _ _ _ _ (setMt WY w.heap.size nlS nlS nlS tk0)
            obtain ⟨WF, hWF⟩ : ∃ z, setMt WY w.heap.size nlS nlS nlS tk0 = z := ⟨_, rfl⟩
            rw [hWF] at hfi ⊢
            have HFI := Lib.hid hfi
            clear hfi hWF
            have hfb := HFI.out.1
            have e0 := hfb.cell 0
            have e1 := hfb.cell 1
            have e2 := hfb.cell 2
            have e3 := hfb.cell 3
            have e4 := hfb.cell 4
            have e5 := hfb.cell 5
            have e6 := hfb.cell 6
            have e7 := hfb.cell 7
            have e8 := hfb.cell 8
            simp [mC, nlS, tk0] at e0 e1 e2 e3 e4 e5 e6 e7 e8
            refine bodyPost_ret (v := .tuple #[.agg (mC nlS nlS nlS tk0), .int .i64 4]) (by simp [results, Try.results18, go_sem, mC, nlS, tk0, e0, e1, e2, e3, e4, e5, e6, e7, e8]) rfl ?_
            rw [HEQ.out]
            exact ⟨_, rfl, HFI.out.2.1, HFI.out.2.2⟩
          subst he
          by_cases hb : rl = bl s
          case' neg =>
            have hne : ((str rl).toList == s.toList) = false := by
              rw [beq_eq_false_iff_ne]
              intro h
              apply hb
              rw [toList_bl, toList_bl, bl_str] at h
              exact h
            have HEQ : Hid (mDec (bl s) = (mt0, 4)) := HMN.out (fun h => hb (Prod.mk.inj h).1)
            clear hb
            have hfi := HDY.out.fin0
            go_wp2_with fail
            show bodyPost _ _ _ _ _ (setMt WY w.heap.size nlS nlS nlS tk0)
            obtain ⟨WF, hWF⟩ : ∃ z, setMt WY w.heap.size nlS nlS nlS tk0 = z := ⟨_, rfl⟩
            rw [hWF] at hfi ⊢
            have HFI := Lib.hid hfi
            clear hfi hWF
            have hfb := HFI.out.1
            have e0 := hfb.cell 0
            have e1 := hfb.cell 1
            have e2 := hfb.cell 2
            have e3 := hfb.cell 3
            have e4 := hfb.cell 4
            have e5 := hfb.cell 5
            have e6 := hfb.cell 6
            have e7 := hfb.cell 7
            have e8 := hfb.cell 8
            simp [mC, nlS, tk0] at e0 e1 e2 e3 e4 e5 e6 e7 e8
            refine bodyPost_ret (v := .tuple #[.agg (mC nlS nlS nlS tk0), .int .i64 4]) (by simp [results, Try.results18, go_sem, mC, nlS, tk0, e0, e1, e2, e3, e4, e5, e6, e7, e8]) rfl ?_
            rw [HEQ.out]
            exact ⟨_, rfl, HFI.out.2.1, HFI.out.2.2⟩
          subst hb
          rw [str_bl]
          have HEQ : Hid (mDec (bl s) = ((⟨l0, xs.map (·.1), tk0⟩ : Mt), 0)) := HMD.out rfl
          have hfi := HDY.out.fin HF.out HTK.out
          have k0 := HDY.out.m.cell 0
          have k1 := HDY.out.m.cell 1
          have k2 := HDY.out.m.cell 2
          have k3 := HDY.out.m.cell 3
          have k4 := HDY.out.m.cell 4
          have k5 := HDY.out.m.cell 5
          have k6 := HDY.out.m.cell 6
          have k7 := HDY.out.m.cell 7
          have k8 := HDY.out.m.cell 8
          simp only [mC, nlS, List.getElem?_toArray, List.getElem?_cons_zero, List.getElem?_cons_succ] at k0 k1 k2 k3 k4 k5 k6 k7 k8
          have hltg := HDY.out.m.lt
          have hgn := HDY.out.gn
          have n1 : ¬ gm = w.heap.size := by omega
          have n2 : ¬ w.heap.size = gm := by omega
          clear hgn
          go_wp2_with fail
          show bodyPost _ _ _ _ _ (setMt WY w.heap.size (.slice A0 l0.length d0) (.slice A1 xs.length d1) nlS tk0)
          obtain ⟨WF, hWF⟩ : ∃ z, setMt WY w.heap.size (.slice A0 l0.length d0) (.slice A1 xs.length d1) nlS tk0 = z := ⟨_, rfl⟩
          rw [hWF] at hfi ⊢
          have HFI := Lib.hid hfi
          clear hfi hWF
          have hfb := HFI.out.1
          have e0 := hfb.cell 0
          have e1 := hfb.cell 1
          have e2 := hfb.cell 2
          have e3 := hfb.cell 3
          have e4 := hfb.cell 4
          have e5 := hfb.cell 5
          have e6 := hfb.cell 6
          have e7 := hfb.cell 7
          have e8 := hfb.cell 8
          simp only [mC, List.getElem?_toArray, List.getElem?_cons_zero, List.getElem?_cons_succ] at e0 e1 e2 e3 e4 e5 e6 e7 e8
          refine bodyPost_ret (v := .tuple #[.agg (mC (.slice A0 l0.length d0) (.slice A1 xs.length d1) nlS tk0), .int .i64 0]) (by simp [results, Try.results18, go_sem, mC, e0, e1, e2, e3, e4, e5, e6, e7, e8]) rfl ?_
          rw [HEQ.out]
          exact ⟨_, rfl, HFI.out.2.1, HFI.out.2.2⟩
end Go.Proofs.Ytklmgdiaianlbaa.mt


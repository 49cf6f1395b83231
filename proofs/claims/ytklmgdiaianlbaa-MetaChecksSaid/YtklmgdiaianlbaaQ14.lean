/- MtEnc. -/
import Derived.Test.YtklmgdiaianlbaaQ11
import Derived.Test.YtklmgdiaianlbaaQ12
import Derived.Test.YtklmgdiaianlbaaQ13
set_option linter.unusedVariables false
set_option linter.unusedSimpArgs false
/- The document's own bytes of a table. -/
namespace Go.Proofs.Ytklmgdiaianlbaa.mt
open Go Go.RowKit Go.Proofs.Ytklmgdiaianlbaa.ib Go.Proofs.Ytklmgdiaianlbaa.wi Go.Proofs.Ytklmgdiaianlbaa.im
set_option maxRecDepth 100000

def E4G (g : Nat) (A0 : Option Addr) (nl d0 : Nat) (S1 S2 : ByteArray) : Nat → Value → World → Prop
  | 0, v, _ => v = .pointer (some ⟨g, 0, none⟩)
  | 1, v, _ => v = .slice A0 nl d0
  | 2, v, _ => v = .int .i64 (nl : Int)
  | 3, v, W => ∃ B, v = .slice (some ⟨B, 0, none⟩) 1 1 ∧ IntsAt W (some ⟨B, 0, none⟩) [(nl : Int)]
  | 4, v, _ => v = .string S1
  | 5, v, _ => v = .pointer (some ⟨g, 0, none⟩)
  | 6, v, _ => v = .slice A0 nl d0
  | 7, v, _ => v = .string S2
  | 8, v, _ => v = .string S2
  | _, _, _ => True
theorem E4G_mono (g : Nat) (A0 : Option Addr) (nl d0 : Nat) (S1 S2 : ByteArray) (i : Nat) (v : Value) (w w' : World) (hi : i < 9) (h : E4G g A0 nl d0 S1 S2 i v w) (hb : Below w.heap.size w w') : E4G g A0 nl d0 S1 S2 i v w' := by
  match i, hi, h with
  | 0, _, h | 1, _, h | 2, _, h | 4, _, h | 5, _, h | 6, _, h | 7, _, h | 8, _, h => exact h
  | 3, _, ⟨B, hv, h2⟩ => exact ⟨B, hv, h2.below hb⟩
  | j + 9, hi, _ => exact absurd hi (by omega)

def E12G (g bb bo len d1 k : Nat) (gx : Gd) (hx : Int) (Bi : Option Addr) (ni ci : Nat) (S0 S1 S2 S3 : ByteArray) : Nat → Value → World → Prop
  | 0, v, _ => v = .string S0
  | 1, v, _ => v = .pointer (some ⟨g, 1, none⟩)
  | 2, v, _ => v = .slice (some ⟨bb, bo, none⟩) len d1
  | 3, v, _ => v = .int .i64 (k : Int)
  | 4, v, _ => v = .pointer (some ⟨bb, bo + k * 4, none⟩)
  | 5, v, _ => v = .pointer (some ⟨bb, bo + k * 4, none⟩)
  | 6, v, _ => v = gv gx
  | 7, v, _ => v = .string S1
  | 8, v, _ => v = .int .i64 hx
  | 9, v, W => ∃ B, v = .slice (some ⟨B, 0, none⟩) 1 1 ∧ IntsAt W (some ⟨B, 0, none⟩) [hx]
  | 10, v, _ => v = .string S2
  | 11, v, _ => v = .pointer (some ⟨g, 1, none⟩)
  | 12, v, _ => v = .slice (some ⟨bb, bo, none⟩) len d1
  | 13, v, _ => v = .int .i64 (k : Int)
  | 14, v, _ => v = .pointer (some ⟨bb, bo + k * 4, none⟩)
  | 15, v, _ => v = .pointer (some ⟨bb, bo + k * 4 + 2, none⟩)
  | 16, v, _ => v = .slice Bi ni ci
  | 17, v, _ => v = .string S3
  | _, _, _ => True
theorem E12G_mono (g bb bo len d1 k : Nat) (gx : Gd) (hx : Int) (Bi : Option Addr) (ni ci : Nat) (S0 S1 S2 S3 : ByteArray) (i : Nat) (v : Value) (w w' : World) (hi : i < 18) (h : E12G g bb bo len d1 k gx hx Bi ni ci S0 S1 S2 S3 i v w) (hb : Below w.heap.size w w') : E12G g bb bo len d1 k gx hx Bi ni ci S0 S1 S2 S3 i v w' := by
  match i, hi, h with
  | 0, _, h | 1, _, h | 2, _, h | 3, _, h | 4, _, h | 5, _, h | 6, _, h | 7, _, h | 8, _, h | 10, _, h | 11, _, h | 12, _, h | 13, _, h | 14, _, h | 15, _, h | 16, _, h | 17, _, h => exact h
  | 9, _, ⟨B, hv, h2⟩ => exact ⟨B, hv, h2.below hb⟩
  | j + 18, hi, _ => exact absurd hi (by omega)

def E16G (gt : Nat) (gb gy : Gd) (S0 S1 S2 S3 : ByteArray) : Nat → Value → World → Prop
  | 0, v, _ => v = .string S0
  | 1, v, W => ∃ B, v = .slice (some ⟨B, 0, none⟩) 1 1 ∧ IntsAt W (some ⟨B, 0, none⟩) [1]
  | 2, v, _ => v = .string S1
  | 3, v, _ => v = .pointer (some ⟨gt, 0, none⟩)
  | 4, v, _ => v = gv gb
  | 5, v, _ => v = .string S2
  | 6, v, _ => v = .pointer (some ⟨gt, 2, none⟩)
  | 7, v, _ => v = gv gy
  | 8, v, _ => v = .string S3
  | _, _, _ => True
theorem E16G_mono (gt : Nat) (gb gy : Gd) (S0 S1 S2 S3 : ByteArray) (i : Nat) (v : Value) (w w' : World) (hi : i < 9) (h : E16G gt gb gy S0 S1 S2 S3 i v w) (hb : Below w.heap.size w w') : E16G gt gb gy S0 S1 S2 S3 i v w' := by
  match i, hi, h with
  | 0, _, h | 2, _, h | 3, _, h | 4, _, h | 5, _, h | 6, _, h | 7, _, h | 8, _, h => exact h
  | 1, _, ⟨B, hv, h2⟩ => exact ⟨B, hv, h2.below hb⟩
  | j + 9, hi, _ => exact absurd hi (by omega)

def E17G (gt : Nat) (nx al : Int) (Bi : Option Addr) (ni ci : Nat) (S0 S1 S2 : ByteArray) : Nat → Value → World → Prop
  | 0, v, _ => v = .string S0
  | 1, v, _ => v = .pointer (some ⟨gt, 4, none⟩)
  | 2, v, _ => v = .int .i64 nx
  | 3, v, _ => v = .pointer (some ⟨gt, 5, none⟩)
  | 4, v, _ => v = .int .i64 al
  | 5, v, W => ∃ B, v = .slice (some ⟨B, 0, none⟩) 2 2 ∧ IntsAt W (some ⟨B, 0, none⟩) [nx, al]
  | 6, v, _ => v = .string S1
  | 7, v, _ => v = .pointer (some ⟨gt, 6, none⟩)
  | 8, v, _ => v = .slice Bi ni ci
  | 9, v, _ => v = .string S2
  | _, _, _ => True
theorem E17G_mono (gt : Nat) (nx al : Int) (Bi : Option Addr) (ni ci : Nat) (S0 S1 S2 : ByteArray) (i : Nat) (v : Value) (w w' : World) (hi : i < 10) (h : E17G gt nx al Bi ni ci S0 S1 S2 i v w) (hb : Below w.heap.size w w') : E17G gt nx al Bi ni ci S0 S1 S2 i v w' := by
  match i, hi, h with
  | 0, _, h | 1, _, h | 2, _, h | 3, _, h | 4, _, h | 6, _, h | 7, _, h | 8, _, h | 9, _, h => exact h
  | 5, _, ⟨B, hv, h2⟩ => exact ⟨B, hv, h2.below hb⟩
  | j + 10, hi, _ => exact absurd hi (by omega)


theorem spB_len (x : Sp) (h : x.img.length ≤ 8) : (spB x).length ≤ 99 := by
  unfold spB
  have h1 := gdBs_len x.g
  have h2 := numB_len (if x.hid then 1 else 0)
  have h3 := intsB_len x.img
  simp only [List.length_append]
  omega
theorem spsB_len : ∀ (l : List Sp), (∀ x ∈ l, x.img.length ≤ 8) → (spsB l).length ≤ 99 * l.length
  | [], _ => by simp [spsB]
  | x :: l, h => by
    have h1 := spB_len x (h x (by simp))
    have h2 := spsB_len l (fun y hy => h y (by simp [hy]))
    simp only [spsB, List.flatMap_cons, List.length_append, List.length_cons] at h2 ⊢
    omega
theorem spsB_snoc (l : List Sp) (k : Nat) (h : k < l.length) : spsB (l.take (k + 1)) = spsB (l.take k) ++ spB l[k] := by
  unfold spsB
  rw [List.take_succ_eq_append_getElem h, List.flatMap_append]
  simp
def EnRel (L : List UInt8) (xs : List Sp) (w : World) (v i : Value) (wr : World) : Prop :=
  ∃ k : Nat, k ≤ xs.length ∧ i = .int .i64 (k : Int) ∧ v = .string (str (L ++ spsB (xs.take k))) ∧ Below w.heap.size w wr
theorem hid_num (b : Bool) : numB (if b then 1 else 0) = intB (if b then 1 else 0) := by cases b <;> rfl
theorem nums_l (L : List UInt8) (A : Option Addr) (c : Nat) (l : List Int) (w : World) (hl : IntsAt w A l) (h0 : ∀ z ∈ l, 0 ≤ z) (hs : L.length ≤ 100000) (h1 : l.length ≤ 1000) :
    Calls Try.prog 48 #[.string (str L), .slice A l.length c] w (endT (L ++ intsB l) w) := by
  have := nums_any (str L) A c l w hl h0 (by rw [str_size]; omega)
  rwa [bl_str] at this
theorem gd_l (L : List UInt8) (g : Gd) (w : World) (hg : gdB g) (hs : L.length ≤ 100000) : Calls Try.prog 49 #[.string (str L), gv g] w (endT (L ++ gdBs g) w) := by
  have := gd_any (str L) g w hg (by rw [str_size]; omega)
  rwa [bl_str] at this
theorem one_nums (L : List UInt8) (x : Int) (hx : 0 ≤ x) (hs : L.length ≤ 100000) (S S' : ByteArray) (h1 : str L = S) (h2 : str (L ++ intB x) = S') :
    ∀ (W : World) (B : Nat), IntsAt W (some ⟨B, 0, none⟩) [x] → Calls Try.prog 48 #[.string S, .slice (some ⟨B, 0, none⟩) 1 1] W fun e W' => e = .returned (.string S') ∧ Below W.heap.size W W' := by
  intro W B hi
  have := nums_l L (some ⟨B, 0, none⟩) 1 [x] W hi (by simpa using hx) hs (by simp)
  rw [h1] at this
  refine this.mono ?_
  rintro e W' ⟨rfl, hb⟩
  exact ⟨by rw [← h2]; simp [intsB], hb⟩

set_option maxRecDepth 100000 in
set_option maxHeartbeats 6400000 in
theorem menc_any (v : Value) (m : Mt) (w : World) (h : MtAt w v m) (hs : mtS m) : Calls Try.prog 14 #[v] w (endS (mEnc m) w) := by
  obtain ⟨A0, A1, A2, d0, d1, d2, rfl, hm⟩ := h
  have HM := Lib.hid hm
  have HSZ := Lib.hid hs
  clear hm hs
  have hb0 := (Below.refl w.heap.size w).alloc (Nat.le_refl _) (.cells (mtC A0 A1 A2 d0 d1 d2 m) 30)
  have HB0 := Lib.hid hb0
  have HM0 := Lib.hid (HM.out.below hb0)
  have HA0 := Lib.hid (Blk.new w 30 (mtC A0 A1 A2 d0 d1 d2 m))
  obtain ⟨w0, hw0⟩ : ∃ z, w.alloc (.cells (mtC A0 A1 A2 d0 d1 d2 m) 30) = z := ⟨_, rfl⟩
  rw [hw0] at HB0 HM0 HA0
  clear hb0
  have c0 := HA0.out.cell 0
  have c1 := HA0.out.cell 1
  have c2 := HA0.out.cell 2
  have c3 := HA0.out.cell 3
  have c4 := HA0.out.cell 4
  have c5 := HA0.out.cell 5
  have c6 := HA0.out.cell 6
  have c7 := HA0.out.cell 7
  have c8 := HA0.out.cell 8
  have HV : Hid (MtAt w0 (.agg (mtC A0 A1 A2 d0 d1 d2 m)) m) := ⟨A0, A1, A2, d0, d1, d2, rfl, HM0.out⟩
  have hck := mcheck_any _ m m.live.length 1024 w0 HV.out HSZ.out
  unfold mtC at c0 c1 c2 c3 c4 c5 c6 c7 c8 hw0 hck ⊢
  simp only [List.getElem?_toArray, List.getElem?_cons_zero, List.getElem?_cons_succ] at c0 c1 c2 c3 c4 c5 c6 c7 c8
  have HCK := Lib.hid hck
  clear hck HV
  have hlt := HA0.out.lt
  go_enter Try.func14, Try.ntmps14
  go_wp2_with fail
  try rw [hw0]
  clear hw0 c0 c1 c2 c3 c4 c5 c6 c7 c8 hlt
  refine HCK.out.mono ?_
  rintro e W1 ⟨rfl, hb1⟩
  have HB1 := Lib.hid (below_step HB0.out hb1)
  have HM1 := Lib.hid (HM0.out.below hb1)
  have HA1 := Lib.hid (HA0.out.below hb1)
  clear hb1 HA0 HM0 HB0 HCK
  by_cases he : mCheck m m.live.length 1024 = 0
  case' neg =>
    have HE : Hid (mEnc m = ([], mCheck m m.live.length 1024)) := by unfold Hid mEnc; rw [if_pos he]
    obtain ⟨er, her⟩ : ∃ er, mCheck m m.live.length 1024 = er := ⟨_, rfl⟩
    rw [her] at he HE ⊢
    have hne : (er != 0) = true := by simpa using he
    clear he her
    go_wp2_with fail
    refine bodyPost_ret (v := .tuple #[.string ⟨#[]⟩, .int .i64 er]) (by simp [results, Try.results14, go_sem]) rfl ?_
    exact ⟨by rw [HE.out]; rfl, HB1.out⟩
  rw [he]
  have HE := Lib.hid he
  obtain ⟨hok, hl1, hl8, hs20⟩ := check_ok HM.out.mB he
  have HOK := Lib.hid hok
  have HN8 := Lib.hid hl8
  have HN20 := Lib.hid hs20
  clear he hok hl1 hl8 hs20
  go_wp2_with fail
  generalize hge : w.heap.size = g
  rw [hge] at HA1
  have HGE := Lib.hid hge
  clear hge
  generalize hnl : m.live.length = nl
  have HNL := Lib.hid hnl
  obtain ⟨len, hlen⟩ : ∃ n, m.snaps.length = n := ⟨_, rfl⟩
  have HLEN := Lib.hid hlen
  rw [hlen]
  have hl8 : nl ≤ 8 := by rw [← hnl]; exact HN8.out
  have hl20 : len ≤ 20 := by rw [← hlen]; exact HN20.out
  have HL8 := Lib.hid hl8
  have HL20 := Lib.hid hl20
  obtain ⟨L1, hL1⟩ : ∃ L, intB (nl : Int) = L := ⟨_, rfl⟩
  obtain ⟨S1, hS1⟩ : ∃ S, str L1 = S := ⟨_, rfl⟩
  have h1 : L1.length ≤ 9 := by rw [← hL1]; exact intB_len _
  obtain ⟨L2, hL2⟩ : ∃ L, L1 ++ intsB m.live = L := ⟨_, rfl⟩
  obtain ⟨S2, hS2⟩ : ∃ S, str L2 = S := ⟨_, rfl⟩
  have h2 : L2.length ≤ 100 := by rw [← hL2, List.length_append]; have := intsB_len m.live; omega
  obtain ⟨L3, hL3⟩ : ∃ L, L2 ++ intB (len : Int) = L := ⟨_, rfl⟩
  obtain ⟨S3, hS3⟩ : ∃ S, str L3 = S := ⟨_, rfl⟩
  have h3 : L3.length ≤ 110 := by rw [← hL3, List.length_append]; have := intB_len (len : Int); omega
  have HC1 := Lib.hid (one_nums [] (nl : Int) (by omega) (by simp) ⟨#[]⟩ S1 rfl (by rw [List.nil_append, hL1, hS1]))
  have HC2 : Hid (∀ W, Below W1.heap.size W1 W → Calls Try.prog 48 #[.string S1, .slice A0 nl d0] W fun e W' => e = .returned (.string S2) ∧ Below W.heap.size W W') := fun W hb => by
    have := nums_l L1 A0 d0 m.live W (HM1.out.live.below hb).ints (fun z hz => (HOK.out.live z hz).1) (by omega) (by have := HSZ.out.live; omega)
    unfold endT at this
    rw [hnl, hS1, hL2, hS2] at this
    exact this
  have HC3 := Lib.hid (one_nums L2 (len : Int) (by omega) (by omega) S2 S3 hS2 (by rw [hL3, hS3]))
  have HZ1 : Hid (∀ z ∈ ([(nl : Int)] : List Int), i64B z) := fun z hz => by simp only [List.mem_cons, List.not_mem_nil, or_false] at hz; subst hz; unfold i64B; omega
  have HZ2 : Hid (∀ z ∈ ([(len : Int)] : List Int), i64B z) := fun z hz => by simp only [List.mem_cons, List.not_mem_nil, or_false] at hz; subst hz; unfold i64B; omega
  have HL3 := Lib.hid h3
  have HS3 := Lib.hid hS3
  have HBY : Hid (mBytes m = L3 ++ (spsB m.snaps ++ tkB m.tok)) := by
    unfold Hid mBytes
    rw [← hL3, ← hL2, ← hL1, hnl, hlen]
    simp [intB]
  clear hL1 hS1 h1 hL2 hS2 h2 hL3 hS3 h3 hnl hlen hl8 hl20
  refine wp_region_inv (by kernel_rfl) [17, 18, 19, 20, 21, 22, 23, 24, 5] (by kernel_rfl) (fun L vs W => Below W1.heap.size W1 W ∧ ∀ i, L i = true → i < 9 → E4G g A0 nl d0 S1 S2 i (vs i) W) ⟨(Below.refl _ _).drew, fun i hi => by cases hi⟩ ?_ ?_ ?_
  · intro i o L vs ρ W ho hli haft hρ hgd hI
    obtain ⟨hb, hG'⟩ := hI
    have hG : ∀ j, L j = true → E4G g A0 nl d0 S1 S2 j (vs j) W := fun j hj => by
      by_cases h51 : j < 9
      · exact hG' j hj h51
      · match j, h51 with
        | j + 9, _ => exact trivial
    have hi51 : i < 9 := (Array.getElem?_eq_some_iff.1 ho).1
    have hc := hρ.const
    have hfn := hρ.fn
    have next : ∀ v W', Below W.heap.size W W' → E4G g A0 nl d0 S1 S2 i v W' → Below W1.heap.size W1 W' ∧ ∀ j, updB L i j = true → j < 9 → E4G g A0 nl d0 S1 S2 j (updV vs i v j) W' := fun v W' h1 h2 => by
      refine ⟨below_step hb h1, fun j hj h51 => ?_⟩
      by_cases hji : j = i
      · subst hji
        simpa [updV] using h2
      · simp only [updB, if_neg hji] at hj
        simpa [updV, hji] using E4G_mono g A0 nl d0 S1 S2 j _ W W' h51 (hG' j hj h51) h1
    have hA := HA1.out.below hb
    have hltA := hA.lt
    have k0 := hA.cell 0
    simp only [mtC, List.getElem?_toArray, List.getElem?_cons_zero, List.getElem?_cons_succ] at k0
    rw [HNL.out] at k0
    rcases i with _ | _ | _ | _ | _ | _ | _ | _ | _ | i
    all_goals (first | omega | skip)
    all_goals simp only [List.getElem?_toArray, List.getElem?_cons_zero, List.getElem?_cons_succ, Option.some.injEq] at ho
    all_goals subst ho
    · have o1 : ρ (.tmp 1) = .pointer (some ⟨g, 0, none⟩) := hρ.out 1 rfl
      exact stepTo_value (w' := W) (by unfold execOp; simp only [o1, hc]; go_simp) (next _ _ (Below.refl _ _) rfl)
    · have g17 : E4G g A0 nl d0 S1 S2 0 (vs 0) W := hG 0 (haft 0 (by kernel_rfl))
      have s17 : ρ (.tmp 17) = .pointer (some ⟨g, 0, none⟩) := (hρ.at_ 17 0 rfl).trans g17
      exact stepTo_value (w' := W) (by unfold execOp; simp only [s17, hc]; go_simp) (next _ _ (Below.refl _ _) rfl)
    · have g18 : E4G g A0 nl d0 S1 S2 1 (vs 1) W := hG 1 (haft 1 (by kernel_rfl))
      have s18 : ρ (.tmp 18) = .slice A0 nl d0 := (hρ.at_ 18 1 rfl).trans g18
      exact stepTo_value (w' := W) (by unfold execOp; simp only [s18, hc]; go_simp) (next _ _ (Below.refl _ _) rfl)
    · have g19 : E4G g A0 nl d0 S1 S2 2 (vs 2) W := hG 2 (haft 2 (by kernel_rfl))
      have s19 : ρ (.tmp 19) = .int .i64 (nl : Int) := (hρ.at_ 19 2 rfl).trans g19
      exact stepTo_value (v := .slice (some ⟨W.heap.size, 0, none⟩) 1 1) (w' := W.alloc (.cells (ncells [(nl : Int)]) 3)) (by unfold execOp; simp only [s19, ncells]; go_simp) (next _ _ ((Below.refl _ _).alloc (Nat.le_refl _) _) ⟨W.heap.size, rfl, nums_new W [(nl : Int)] HZ1.out⟩)
    · obtain ⟨B20, g20, hh202⟩ : E4G g A0 nl d0 S1 S2 3 (vs 3) W := hG 3 (haft 3 (by kernel_rfl))
      have s20 : ρ (.tmp 20) = .slice (some ⟨B20, 0, none⟩) 1 1 := (hρ.at_ 20 3 rfl).trans g20
      refine stepTo_enter (f := 48) (args := #[.string ⟨#[]⟩, .slice (some ⟨B20, 0, none⟩) 1 1]) (w' := W) (by unfold execOp; simp only [hfn, s20]; go_simp) ((HC1.out W B20 hh202).mono ?_)
      rintro x W' ⟨rfl, hb'⟩
      exact ⟨_, rfl, next _ _ hb' rfl⟩
    · have o1 : ρ (.tmp 1) = .pointer (some ⟨g, 0, none⟩) := hρ.out 1 rfl
      exact stepTo_value (w' := W) (by unfold execOp; simp only [o1, hc]; go_simp) (next _ _ (Below.refl _ _) rfl)
    · have g22 : E4G g A0 nl d0 S1 S2 5 (vs 5) W := hG 5 (haft 5 (by kernel_rfl))
      have s22 : ρ (.tmp 22) = .pointer (some ⟨g, 0, none⟩) := (hρ.at_ 22 5 rfl).trans g22
      exact stepTo_value (w' := W) (by unfold execOp; simp only [s22, hc]; go_simp) (next _ _ (Below.refl _ _) rfl)
    · have g21 : E4G g A0 nl d0 S1 S2 4 (vs 4) W := hG 4 (haft 4 (by kernel_rfl))
      have s21 : ρ (.tmp 21) = .string S1 := (hρ.at_ 21 4 rfl).trans g21
      have g23 : E4G g A0 nl d0 S1 S2 6 (vs 6) W := hG 6 (haft 6 (by kernel_rfl))
      have s23 : ρ (.tmp 23) = .slice A0 nl d0 := (hρ.at_ 23 6 rfl).trans g23
      refine stepTo_enter (f := 48) (args := #[.string S1, .slice A0 nl d0]) (w' := W) (by unfold execOp; simp only [hfn, s21, s23]; go_simp) ((HC2.out W hb).mono ?_)
      rintro x W' ⟨rfl, hb'⟩
      exact ⟨_, rfl, next _ _ hb' rfl⟩
    · have g24 : E4G g A0 nl d0 S1 S2 7 (vs 7) W := hG 7 (haft 7 (by kernel_rfl))
      have s24 : ρ (.tmp 24) = .string S2 := (hρ.at_ 24 7 rfl).trans g24
      exact stepTo_value (w' := W) (by unfold execOp; simp only [s24, hc]; go_simp) (next _ _ (Below.refl _ _) rfl)
  · intro i o L vs W j want ho hli haft hg hv hI
    obtain ⟨hb, hG'⟩ := hI
    have hG : ∀ j, L j = true → E4G g A0 nl d0 S1 S2 j (vs j) W := fun j hj => by
      by_cases h51 : j < 9
      · exact hG' j hj h51
      · match j, h51 with
        | j + 9, _ => exact trivial
    have hi51 : i < 9 := (Array.getElem?_eq_some_iff.1 ho).1
    rcases i with _ | _ | _ | _ | _ | _ | _ | _ | _ | i
    all_goals (first | omega | skip)
    all_goals simp only [List.getElem?_toArray, List.getElem?_cons_zero, List.getElem?_cons_succ, Option.some.injEq] at ho
    all_goals subst ho
    all_goals simp only [reduceCtorEq, Option.some.injEq, Prod.mk.injEq] at hg
  · intro vs W2 hI
    have g8 : vs 8 = .string S2 := hI.2 8 (by decide) (by decide)
    have hb := hI.1
    have HB2 := Lib.hid (below_step HB1.out hb)
    have HM2 := Lib.hid (HM1.out.below hb)
    have HA2 := Lib.hid (HA1.out.below hb)
    clear hI hb
    simp only [putList, putSel, if_true]
    rw [g8]
    generalize vs 0 = z0
    generalize vs 1 = z1
    generalize vs 2 = z2
    generalize vs 3 = z3
    generalize vs 4 = z4
    generalize vs 5 = z5
    generalize vs 6 = z6
    generalize vs 7 = z7
    clear g8
    simp only [Act.put, List.setIfInBounds_toArray, List.set_cons_succ, List.set_cons_zero]
    have k1 := HA2.out.cell 1
    simp only [mtC, List.getElem?_toArray, List.getElem?_cons_zero, List.getElem?_cons_succ] at k1
    rw [HLEN.out] at k1
    have hltA := HA2.out.lt
    go_wp2_with fail
    refine (HC3.out _ _ (nums_new W2 [(len : Int)] HZ2.out)).mono ?_
    rintro e W3 ⟨rfl, hb3⟩
    have hb3' := below_step ((Below.refl W2.heap.size W2).alloc (Nat.le_refl _) (.cells (ncells [(len : Int)]) 3)) hb3
    have HB3 := Lib.hid (below_step HB2.out hb3')
    have HM3 := Lib.hid (HM2.out.below hb3')
    have HA3 := Lib.hid (HA2.out.below hb3')
    clear hb3 hb3' k1 hltA HA2 HM2 HB2 HC1 HC2 HC3 HA1 HM1 HB1
    dsimp only
    go_wp2_with fail
    go_loopw [5, 6, 7] (fun v i _ wr => EnRel L3 m.snaps W3 v i wr) (fun _ i _ _ => len - (intOf i).toNat)
    case atStart => exact ⟨0, Nat.zero_le _, rfl, by rw [List.take_zero]; show Value.string S3 = _; rw [← HS3.out]; simp [spsB], Below.refl _ _⟩
    case round =>
      obtain ⟨k, hk, rfl, rfl, hbw⟩ := hrel
      have HBW := Lib.hid hbw
      have HAW := Lib.hid (HA3.out.below hbw)
      have HMW := Lib.hid (HM3.out.below hbw)
      rw [HLEN.out] at hk
      have k1 := HAW.out.cell 1
      simp only [mtC, List.getElem?_toArray, List.getElem?_cons_zero, List.getElem?_cons_succ] at k1
      rw [HLEN.out] at k1
      have hltA := HAW.out.lt
      have himg : ∀ x ∈ m.snaps, x.img.length ≤ 8 := fun x hx => by rw [(HOK.out.snaps x hx).2.1]; exact HN8.out
      clear hbw
      by_cases hlt : k < len
      · have hki : (k : Int) < (len : Int) := by omega
        have hk20 : (k : Int) < 20 := by have := HL20.out; omega
        have hkm : k < m.snaps.length := by rw [HLEN.out]; exact hlt
        obtain ⟨bb, bo, Bi, ci, hA1, hlb, e0, e1, e2, e3, hsl, hgd⟩ := HMW.out.snaps k hkm
        have hsn := spsB_snoc m.snaps k hkm
        have hlnT := spsB_len (m.snaps.take k) (fun x hx => himg x (List.mem_of_mem_take hx))
        rw [List.length_take] at hlnT
        have hxo := HOK.out.snaps _ (List.getElem_mem hkm)
        have hx8 := himg _ (List.getElem_mem hkm)
        obtain ⟨x, hx⟩ : ∃ x, m.snaps[k] = x := ⟨_, rfl⟩
        rw [hx] at e0 e1 e2 e3 hsl hgd hsn hxo hx8
        obtain rfl := hA1
        obtain ⟨P, hP⟩ : ∃ P, L3 ++ spsB (m.snaps.take k) = P := ⟨_, rfl⟩
        have hPl : P.length ≤ 4000 := by rw [← hP, List.length_append]; have := HL3.out; have := HL20.out; omega
        have HP' : Hid (L3 ++ spsB (m.snaps.take (k + 1)) = P ++ gdBs x.g ++ intB (if x.hid then 1 else 0) ++ intsB x.img) := by
          unfold Hid
          rw [hsn, ← hP, ← hid_num]
          unfold spB
          simp only [List.append_assoc]
        rw [hP]
        obtain ⟨S0, hS0⟩ : ∃ S, str P = S := ⟨_, rfl⟩
        obtain ⟨T1, hT1⟩ : ∃ S, str (P ++ gdBs x.g) = S := ⟨_, rfl⟩
        obtain ⟨hv, hhx⟩ : ∃ z : Int, (if x.hid then (1 : Int) else 0) = z := ⟨_, rfl⟩
        obtain ⟨T2, hT2⟩ : ∃ S, str (P ++ gdBs x.g ++ intB hv) = S := ⟨_, rfl⟩
        obtain ⟨T3, hT3⟩ : ∃ S, str (P ++ gdBs x.g ++ intB hv ++ intsB x.img) = S := ⟨_, rfl⟩
        have hz01 : hv = 0 ∨ hv = 1 := by rw [← hhx]; cases x.hid <;> simp
        have hg18 := gdBs_len x.g
        have hi9 := intB_len hv
        have HC1 : Hid (∀ W, Calls Try.prog 49 #[.string S0, gv x.g] W fun e W' => e = .returned (.string T1) ∧ Below W.heap.size W W') := fun W => by
          have := gd_l P x.g W hgd (by omega)
          unfold endT at this
          rw [hS0, hT1] at this
          exact this
        have HC2 := Lib.hid (one_nums (P ++ gdBs x.g) hv (by omega) (by rw [List.length_append]; omega) T1 T2 hT1 hT2)
        have HC3 : Hid (∀ W, Below wr.heap.size wr W → Calls Try.prog 48 #[.string T2, .slice Bi x.img.length ci] W fun e W' => e = .returned (.string T3) ∧ Below W.heap.size W W') := fun W hb => by
          have := nums_l (P ++ gdBs x.g ++ intB hv) Bi ci x.img W (hsl.below hb).ints (fun z hz => (hxo.2.2 z hz).1) (by simp only [List.length_append]; omega) (by omega)
          unfold endT at this
          rw [hT2, hT3] at this
          exact this
        have HZ1 : Hid (∀ z ∈ ([hv] : List Int), i64B z) := fun z hz => by simp only [List.mem_cons, List.not_mem_nil, or_false] at hz; subst hz; unfold i64B; omega
        have HT3 : Hid (T3 = str (L3 ++ spsB (m.snaps.take (k + 1)))) := by unfold Hid; rw [HP'.out, hhx, hT3]
        have E0 := Lib.hid e0
        have E1 := Lib.hid e1
        have E2 := Lib.hid e2
        have hlb2 := hlb
        rw [hS0]
        clear hx hsn hlnT hxo hx8 hgd hsl hP hPl HP' hT1 hT2 hT3 hS0 hg18 hi9 e0 e1 e2 himg hkm
        obtain ⟨gx, hgx⟩ : ∃ y, x.g = y := ⟨_, rfl⟩
        obtain ⟨ni, hni⟩ : ∃ y, x.img.length = y := ⟨_, rfl⟩
        rw [hgx] at E0 E1 HC1
        rw [hni] at E2 HC3
        have HZ01 := Lib.hid hz01
        have HHH : Hid ((x.hid = true ∧ hv = 1) ∨ (x.hid = false ∧ hv = 0)) := by
          unfold Hid
          rw [← hhx]
          cases x.hid <;> simp
        clear hgx hni hhx hz01
        obtain ⟨bh, hbh⟩ : ∃ z, x.hid = z := ⟨_, rfl⟩
        rw [hbh] at e3 HHH
        clear hbh
        rcases HHH.out with ⟨rfl, rfl⟩ | ⟨rfl, rfl⟩
        · clear HHH HZ01
          go_wp2_with fail
          refine wp_region_pre (by kernel_rfl) 18 [44, 45, 46, 47, 48, 49, 50, 51, 52, 53, 54, 55, 56, 57, 58, 59, 60, 61] (by kernel_rfl) (fun L vs W => Below wr.heap.size wr W ∧ ∀ i, L i = true → i < 18 → E12G g bb bo len d1 k gx (1 : Int) Bi ni ci S0 T1 T2 T3 i (vs i) W) ⟨(Below.refl _ _).drew, fun i hi => by cases hi⟩ ?_ ?_
          · intro i o L vs ρ W hi51 ho hli haft hρ hI
            obtain ⟨hb, hG'⟩ := hI
            have hG : ∀ j, L j = true → E12G g bb bo len d1 k gx (1 : Int) Bi ni ci S0 T1 T2 T3 j (vs j) W := fun j hj => by
              by_cases h51 : j < 18
              · exact hG' j hj h51
              · match j, h51 with
                | j + 18, _ => exact trivial
            have hc := hρ.const
            have hfn := hρ.fn
            have next : ∀ v W', Below W.heap.size W W' → E12G g bb bo len d1 k gx (1 : Int) Bi ni ci S0 T1 T2 T3 i v W' → Below wr.heap.size wr W' ∧ ∀ j, updB L i j = true → j < 18 → E12G g bb bo len d1 k gx (1 : Int) Bi ni ci S0 T1 T2 T3 j (updV vs i v j) W' := fun v W' h1 h2 => by
              refine ⟨below_step hb h1, fun j hj h51 => ?_⟩
              by_cases hji : j = i
              · subst hji
                simpa [updV] using h2
              · simp only [updB, if_neg hji] at hj
                simpa [updV, hji] using E12G_mono g bb bo len d1 k gx (1 : Int) Bi ni ci S0 T1 T2 T3 j _ W W' h51 (hG' j hj h51) h1
            have hA := HAW.out.below hb
            have hltA := hA.lt
            have k1 := hA.cell 1
            simp only [mtC, List.getElem?_toArray, List.getElem?_cons_zero, List.getElem?_cons_succ] at k1
            have e0 : W.cell? ⟨bb, bo + k * 4, none⟩ = some (.int .u64 (gx.1 : Int)) := by rw [hb.cell (p := ⟨bb, bo + k * 4, none⟩) hlb]; exact E0.out
            have e1 : W.cell? ⟨bb, bo + k * 4 + 1, none⟩ = some (.int .u64 (gx.2 : Int)) := by rw [hb.cell (p := ⟨bb, bo + k * 4 + 1, none⟩) hlb]; exact E1.out
            have e2 : W.cell? ⟨bb, bo + k * 4 + 2, none⟩ = some (.slice Bi ni ci) := by rw [hb.cell (p := ⟨bb, bo + k * 4 + 2, none⟩) hlb]; exact E2.out
            have hltb : bb < W.heap.size := Nat.lt_of_lt_of_le hlb hb.size
            rw [HLEN.out] at k1
            rcases i with _ | _ | _ | _ | _ | _ | _ | _ | _ | _ | _ | _ | _ | _ | _ | _ | _ | _ | i
            all_goals (first | omega | skip)
            all_goals simp only [List.getElem?_toArray, List.getElem?_cons_zero, List.getElem?_cons_succ, Option.some.injEq] at ho
            all_goals subst ho
            · have o5 : ρ (.tmp 5) = .string S0 := hρ.out 5 rfl
              exact stepTo_value (w' := W) (by unfold execOp; simp only [o5, hc]; go_simp) (next _ _ (Below.refl _ _) rfl)
            · have o1 : ρ (.tmp 1) = .pointer (some ⟨g, 0, none⟩) := hρ.out 1 rfl
              exact stepTo_value (w' := W) (by unfold execOp; simp only [o1, hc]; go_simp) (next _ _ (Below.refl _ _) rfl)
            · have g45 : E12G g bb bo len d1 k gx (1 : Int) Bi ni ci S0 T1 T2 T3 1 (vs 1) W := hG 1 (haft 1 (by kernel_rfl))
              have s45 : ρ (.tmp 45) = .pointer (some ⟨g, 1, none⟩) := (hρ.at_ 45 1 rfl).trans g45
              exact stepTo_value (w' := W) (by unfold execOp; simp only [s45, hc]; go_simp) (next _ _ (Below.refl _ _) rfl)
            · have o6 : ρ (.tmp 6) = .int .i64 (k : Int) := hρ.out 6 rfl
              exact stepTo_value (w' := W) (by unfold execOp; simp only [o6, hc]; go_simp) (next _ _ (Below.refl _ _) rfl)
            · have g46 : E12G g bb bo len d1 k gx (1 : Int) Bi ni ci S0 T1 T2 T3 2 (vs 2) W := hG 2 (haft 2 (by kernel_rfl))
              have s46 : ρ (.tmp 46) = .slice (some ⟨bb, bo, none⟩) len d1 := (hρ.at_ 46 2 rfl).trans g46
              have g47 : E12G g bb bo len d1 k gx (1 : Int) Bi ni ci S0 T1 T2 T3 3 (vs 3) W := hG 3 (haft 3 (by kernel_rfl))
              have s47 : ρ (.tmp 47) = .int .i64 (k : Int) := (hρ.at_ 47 3 rfl).trans g47
              exact stepTo_value (w' := W) (by unfold execOp; simp only [s46, s47, hc]; go_simp) (next _ _ (Below.refl _ _) rfl)
            · have g48 : E12G g bb bo len d1 k gx (1 : Int) Bi ni ci S0 T1 T2 T3 4 (vs 4) W := hG 4 (haft 4 (by kernel_rfl))
              have s48 : ρ (.tmp 48) = .pointer (some ⟨bb, bo + k * 4, none⟩) := (hρ.at_ 48 4 rfl).trans g48
              exact stepTo_value (w' := W) (by unfold execOp; simp only [s48, hc]; go_simp) (next _ _ (Below.refl _ _) rfl)
            · have g49 : E12G g bb bo len d1 k gx (1 : Int) Bi ni ci S0 T1 T2 T3 5 (vs 5) W := hG 5 (haft 5 (by kernel_rfl))
              have s49 : ρ (.tmp 49) = .pointer (some ⟨bb, bo + k * 4, none⟩) := (hρ.at_ 49 5 rfl).trans g49
              exact stepTo_value (v := gv gx) (w' := W) (by unfold execOp; simp only [s49, gv]; go_simp) (next _ _ (Below.refl _ _) rfl)
            · have g44 : E12G g bb bo len d1 k gx (1 : Int) Bi ni ci S0 T1 T2 T3 0 (vs 0) W := hG 0 (haft 0 (by kernel_rfl))
              have s44 : ρ (.tmp 44) = .string S0 := (hρ.at_ 44 0 rfl).trans g44
              have g50 : E12G g bb bo len d1 k gx (1 : Int) Bi ni ci S0 T1 T2 T3 6 (vs 6) W := hG 6 (haft 6 (by kernel_rfl))
              have s50 : ρ (.tmp 50) = gv gx := (hρ.at_ 50 6 rfl).trans g50
              refine stepTo_enter (f := 49) (args := #[.string S0, gv gx]) (w' := W) (by unfold execOp; simp only [hfn, s44, s50]; go_simp) ((HC1.out W).mono ?_)
              rintro x W' ⟨rfl, hb'⟩
              exact ⟨_, rfl, next _ _ hb' rfl⟩
            · have o7 : ρ (.tmp 7) = .int .i64 (1 : Int) := hρ.out 7 rfl
              exact stepTo_value (w' := W) (by unfold execOp; simp only [o7, hc]; go_simp) (next _ _ (Below.refl _ _) rfl)
            · have g52 : E12G g bb bo len d1 k gx (1 : Int) Bi ni ci S0 T1 T2 T3 8 (vs 8) W := hG 8 (haft 8 (by kernel_rfl))
              have s52 : ρ (.tmp 52) = .int .i64 (1 : Int) := (hρ.at_ 52 8 rfl).trans g52
              exact stepTo_value (v := .slice (some ⟨W.heap.size, 0, none⟩) 1 1) (w' := W.alloc (.cells (ncells [(1 : Int)]) 3)) (by unfold execOp; simp only [s52, ncells]; go_simp) (next _ _ ((Below.refl _ _).alloc (Nat.le_refl _) _) ⟨W.heap.size, rfl, nums_new W [(1 : Int)] HZ1.out⟩)
            · have g51 : E12G g bb bo len d1 k gx (1 : Int) Bi ni ci S0 T1 T2 T3 7 (vs 7) W := hG 7 (haft 7 (by kernel_rfl))
              have s51 : ρ (.tmp 51) = .string T1 := (hρ.at_ 51 7 rfl).trans g51
              obtain ⟨B53, g53, hh532⟩ : E12G g bb bo len d1 k gx (1 : Int) Bi ni ci S0 T1 T2 T3 9 (vs 9) W := hG 9 (haft 9 (by kernel_rfl))
              have s53 : ρ (.tmp 53) = .slice (some ⟨B53, 0, none⟩) 1 1 := (hρ.at_ 53 9 rfl).trans g53
              refine stepTo_enter (f := 48) (args := #[.string T1, .slice (some ⟨B53, 0, none⟩) 1 1]) (w' := W) (by unfold execOp; simp only [hfn, s51, s53]; go_simp) ((HC2.out W B53 hh532).mono ?_)
              rintro x W' ⟨rfl, hb'⟩
              exact ⟨_, rfl, next _ _ hb' rfl⟩
            · have o1 : ρ (.tmp 1) = .pointer (some ⟨g, 0, none⟩) := hρ.out 1 rfl
              exact stepTo_value (w' := W) (by unfold execOp; simp only [o1, hc]; go_simp) (next _ _ (Below.refl _ _) rfl)
            · have g55 : E12G g bb bo len d1 k gx (1 : Int) Bi ni ci S0 T1 T2 T3 11 (vs 11) W := hG 11 (haft 11 (by kernel_rfl))
              have s55 : ρ (.tmp 55) = .pointer (some ⟨g, 1, none⟩) := (hρ.at_ 55 11 rfl).trans g55
              exact stepTo_value (w' := W) (by unfold execOp; simp only [s55, hc]; go_simp) (next _ _ (Below.refl _ _) rfl)
            · have o6 : ρ (.tmp 6) = .int .i64 (k : Int) := hρ.out 6 rfl
              exact stepTo_value (w' := W) (by unfold execOp; simp only [o6, hc]; go_simp) (next _ _ (Below.refl _ _) rfl)
            · have g56 : E12G g bb bo len d1 k gx (1 : Int) Bi ni ci S0 T1 T2 T3 12 (vs 12) W := hG 12 (haft 12 (by kernel_rfl))
              have s56 : ρ (.tmp 56) = .slice (some ⟨bb, bo, none⟩) len d1 := (hρ.at_ 56 12 rfl).trans g56
              have g57 : E12G g bb bo len d1 k gx (1 : Int) Bi ni ci S0 T1 T2 T3 13 (vs 13) W := hG 13 (haft 13 (by kernel_rfl))
              have s57 : ρ (.tmp 57) = .int .i64 (k : Int) := (hρ.at_ 57 13 rfl).trans g57
              exact stepTo_value (w' := W) (by unfold execOp; simp only [s56, s57, hc]; go_simp) (next _ _ (Below.refl _ _) rfl)
            · have g58 : E12G g bb bo len d1 k gx (1 : Int) Bi ni ci S0 T1 T2 T3 14 (vs 14) W := hG 14 (haft 14 (by kernel_rfl))
              have s58 : ρ (.tmp 58) = .pointer (some ⟨bb, bo + k * 4, none⟩) := (hρ.at_ 58 14 rfl).trans g58
              exact stepTo_value (w' := W) (by unfold execOp; simp only [s58, hc]; go_simp) (next _ _ (Below.refl _ _) rfl)
            · have g59 : E12G g bb bo len d1 k gx (1 : Int) Bi ni ci S0 T1 T2 T3 15 (vs 15) W := hG 15 (haft 15 (by kernel_rfl))
              have s59 : ρ (.tmp 59) = .pointer (some ⟨bb, bo + k * 4 + 2, none⟩) := (hρ.at_ 59 15 rfl).trans g59
              exact stepTo_value (w' := W) (by unfold execOp; simp only [s59, hc]; go_simp) (next _ _ (Below.refl _ _) rfl)
            · have g54 : E12G g bb bo len d1 k gx (1 : Int) Bi ni ci S0 T1 T2 T3 10 (vs 10) W := hG 10 (haft 10 (by kernel_rfl))
              have s54 : ρ (.tmp 54) = .string T2 := (hρ.at_ 54 10 rfl).trans g54
              have g60 : E12G g bb bo len d1 k gx (1 : Int) Bi ni ci S0 T1 T2 T3 16 (vs 16) W := hG 16 (haft 16 (by kernel_rfl))
              have s60 : ρ (.tmp 60) = .slice Bi ni ci := (hρ.at_ 60 16 rfl).trans g60
              refine stepTo_enter (f := 48) (args := #[.string T2, .slice Bi ni ci]) (w' := W) (by unfold execOp; simp only [hfn, s54, s60]; go_simp) ((HC3.out W hb).mono ?_)
              rintro x W' ⟨rfl, hb'⟩
              exact ⟨_, rfl, next _ _ hb' rfl⟩
          · intro L vs W hL hI
            have g17 : vs 17 = .string T3 := hI.2 17 (hL 17 (by decide)) (by decide)
            have HBW2 := Lib.hid (below_step HBW.out hI.1)
            clear hI
            simp only [putList, putSel, if_true]
            rw [g17]
            generalize vs 0 = z0
            generalize vs 1 = z1
            generalize vs 2 = z2
            generalize vs 3 = z3
            generalize vs 4 = z4
            generalize vs 5 = z5
            generalize vs 6 = z6
            generalize vs 7 = z7
            generalize vs 8 = z8
            generalize vs 9 = z9
            generalize vs 10 = z10
            generalize vs 11 = z11
            generalize vs 12 = z12
            generalize vs 13 = z13
            generalize vs 14 = z14
            generalize vs 15 = z15
            generalize vs 16 = z16
            clear g17
            simp only [Act.put, List.setIfInBounds_toArray, List.set_cons_succ, List.set_cons_zero]
            refine wpAny_one (i := 18) (by kernel_rfl) rfl rfl ?_
            go_simp
            refine ⟨by kernel_rfl, ?_⟩
            go_wp2_with fail
            go_roundw
            case rel => exact ⟨k + 1, by have := HLEN.out; omega, by go_num, by rw [HT3.out], HBW2.out⟩
            case measure => simp [intOf]; omega
        · clear HHH HZ01
          go_wp2_with fail
          refine wp_region_pre (by kernel_rfl) 18 [44, 45, 46, 47, 48, 49, 50, 51, 52, 53, 54, 55, 56, 57, 58, 59, 60, 61] (by kernel_rfl) (fun L vs W => Below wr.heap.size wr W ∧ ∀ i, L i = true → i < 18 → E12G g bb bo len d1 k gx (0 : Int) Bi ni ci S0 T1 T2 T3 i (vs i) W) ⟨(Below.refl _ _).drew, fun i hi => by cases hi⟩ ?_ ?_
          · intro i o L vs ρ W hi51 ho hli haft hρ hI
            obtain ⟨hb, hG'⟩ := hI
            have hG : ∀ j, L j = true → E12G g bb bo len d1 k gx (0 : Int) Bi ni ci S0 T1 T2 T3 j (vs j) W := fun j hj => by
              by_cases h51 : j < 18
              · exact hG' j hj h51
              · match j, h51 with
                | j + 18, _ => exact trivial
            have hc := hρ.const
            have hfn := hρ.fn
            have next : ∀ v W', Below W.heap.size W W' → E12G g bb bo len d1 k gx (0 : Int) Bi ni ci S0 T1 T2 T3 i v W' → Below wr.heap.size wr W' ∧ ∀ j, updB L i j = true → j < 18 → E12G g bb bo len d1 k gx (0 : Int) Bi ni ci S0 T1 T2 T3 j (updV vs i v j) W' := fun v W' h1 h2 => by
              refine ⟨below_step hb h1, fun j hj h51 => ?_⟩
              by_cases hji : j = i
              · subst hji
                simpa [updV] using h2
              · simp only [updB, if_neg hji] at hj
                simpa [updV, hji] using E12G_mono g bb bo len d1 k gx (0 : Int) Bi ni ci S0 T1 T2 T3 j _ W W' h51 (hG' j hj h51) h1
            have hA := HAW.out.below hb
            have hltA := hA.lt
            have k1 := hA.cell 1
            simp only [mtC, List.getElem?_toArray, List.getElem?_cons_zero, List.getElem?_cons_succ] at k1
            have e0 : W.cell? ⟨bb, bo + k * 4, none⟩ = some (.int .u64 (gx.1 : Int)) := by rw [hb.cell (p := ⟨bb, bo + k * 4, none⟩) hlb]; exact E0.out
            have e1 : W.cell? ⟨bb, bo + k * 4 + 1, none⟩ = some (.int .u64 (gx.2 : Int)) := by rw [hb.cell (p := ⟨bb, bo + k * 4 + 1, none⟩) hlb]; exact E1.out
            have e2 : W.cell? ⟨bb, bo + k * 4 + 2, none⟩ = some (.slice Bi ni ci) := by rw [hb.cell (p := ⟨bb, bo + k * 4 + 2, none⟩) hlb]; exact E2.out
            have hltb : bb < W.heap.size := Nat.lt_of_lt_of_le hlb hb.size
            rw [HLEN.out] at k1
            rcases i with _ | _ | _ | _ | _ | _ | _ | _ | _ | _ | _ | _ | _ | _ | _ | _ | _ | _ | i
            all_goals (first | omega | skip)
            all_goals simp only [List.getElem?_toArray, List.getElem?_cons_zero, List.getElem?_cons_succ, Option.some.injEq] at ho
            all_goals subst ho
            · have o5 : ρ (.tmp 5) = .string S0 := hρ.out 5 rfl
              exact stepTo_value (w' := W) (by unfold execOp; simp only [o5, hc]; go_simp) (next _ _ (Below.refl _ _) rfl)
            · have o1 : ρ (.tmp 1) = .pointer (some ⟨g, 0, none⟩) := hρ.out 1 rfl
              exact stepTo_value (w' := W) (by unfold execOp; simp only [o1, hc]; go_simp) (next _ _ (Below.refl _ _) rfl)
            · have g45 : E12G g bb bo len d1 k gx (0 : Int) Bi ni ci S0 T1 T2 T3 1 (vs 1) W := hG 1 (haft 1 (by kernel_rfl))
              have s45 : ρ (.tmp 45) = .pointer (some ⟨g, 1, none⟩) := (hρ.at_ 45 1 rfl).trans g45
              exact stepTo_value (w' := W) (by unfold execOp; simp only [s45, hc]; go_simp) (next _ _ (Below.refl _ _) rfl)
            · have o6 : ρ (.tmp 6) = .int .i64 (k : Int) := hρ.out 6 rfl
              exact stepTo_value (w' := W) (by unfold execOp; simp only [o6, hc]; go_simp) (next _ _ (Below.refl _ _) rfl)
            · have g46 : E12G g bb bo len d1 k gx (0 : Int) Bi ni ci S0 T1 T2 T3 2 (vs 2) W := hG 2 (haft 2 (by kernel_rfl))
              have s46 : ρ (.tmp 46) = .slice (some ⟨bb, bo, none⟩) len d1 := (hρ.at_ 46 2 rfl).trans g46
              have g47 : E12G g bb bo len d1 k gx (0 : Int) Bi ni ci S0 T1 T2 T3 3 (vs 3) W := hG 3 (haft 3 (by kernel_rfl))
              have s47 : ρ (.tmp 47) = .int .i64 (k : Int) := (hρ.at_ 47 3 rfl).trans g47
              exact stepTo_value (w' := W) (by unfold execOp; simp only [s46, s47, hc]; go_simp) (next _ _ (Below.refl _ _) rfl)
            · have g48 : E12G g bb bo len d1 k gx (0 : Int) Bi ni ci S0 T1 T2 T3 4 (vs 4) W := hG 4 (haft 4 (by kernel_rfl))
              have s48 : ρ (.tmp 48) = .pointer (some ⟨bb, bo + k * 4, none⟩) := (hρ.at_ 48 4 rfl).trans g48
              exact stepTo_value (w' := W) (by unfold execOp; simp only [s48, hc]; go_simp) (next _ _ (Below.refl _ _) rfl)
            · have g49 : E12G g bb bo len d1 k gx (0 : Int) Bi ni ci S0 T1 T2 T3 5 (vs 5) W := hG 5 (haft 5 (by kernel_rfl))
              have s49 : ρ (.tmp 49) = .pointer (some ⟨bb, bo + k * 4, none⟩) := (hρ.at_ 49 5 rfl).trans g49
              exact stepTo_value (v := gv gx) (w' := W) (by unfold execOp; simp only [s49, gv]; go_simp) (next _ _ (Below.refl _ _) rfl)
            · have g44 : E12G g bb bo len d1 k gx (0 : Int) Bi ni ci S0 T1 T2 T3 0 (vs 0) W := hG 0 (haft 0 (by kernel_rfl))
              have s44 : ρ (.tmp 44) = .string S0 := (hρ.at_ 44 0 rfl).trans g44
              have g50 : E12G g bb bo len d1 k gx (0 : Int) Bi ni ci S0 T1 T2 T3 6 (vs 6) W := hG 6 (haft 6 (by kernel_rfl))
              have s50 : ρ (.tmp 50) = gv gx := (hρ.at_ 50 6 rfl).trans g50
              refine stepTo_enter (f := 49) (args := #[.string S0, gv gx]) (w' := W) (by unfold execOp; simp only [hfn, s44, s50]; go_simp) ((HC1.out W).mono ?_)
              rintro x W' ⟨rfl, hb'⟩
              exact ⟨_, rfl, next _ _ hb' rfl⟩
            · have o7 : ρ (.tmp 7) = .int .i64 (0 : Int) := hρ.out 7 rfl
              exact stepTo_value (w' := W) (by unfold execOp; simp only [o7, hc]; go_simp) (next _ _ (Below.refl _ _) rfl)
            · have g52 : E12G g bb bo len d1 k gx (0 : Int) Bi ni ci S0 T1 T2 T3 8 (vs 8) W := hG 8 (haft 8 (by kernel_rfl))
              have s52 : ρ (.tmp 52) = .int .i64 (0 : Int) := (hρ.at_ 52 8 rfl).trans g52
              exact stepTo_value (v := .slice (some ⟨W.heap.size, 0, none⟩) 1 1) (w' := W.alloc (.cells (ncells [(0 : Int)]) 3)) (by unfold execOp; simp only [s52, ncells]; go_simp) (next _ _ ((Below.refl _ _).alloc (Nat.le_refl _) _) ⟨W.heap.size, rfl, nums_new W [(0 : Int)] HZ1.out⟩)
            · have g51 : E12G g bb bo len d1 k gx (0 : Int) Bi ni ci S0 T1 T2 T3 7 (vs 7) W := hG 7 (haft 7 (by kernel_rfl))
              have s51 : ρ (.tmp 51) = .string T1 := (hρ.at_ 51 7 rfl).trans g51
              obtain ⟨B53, g53, hh532⟩ : E12G g bb bo len d1 k gx (0 : Int) Bi ni ci S0 T1 T2 T3 9 (vs 9) W := hG 9 (haft 9 (by kernel_rfl))
              have s53 : ρ (.tmp 53) = .slice (some ⟨B53, 0, none⟩) 1 1 := (hρ.at_ 53 9 rfl).trans g53
              refine stepTo_enter (f := 48) (args := #[.string T1, .slice (some ⟨B53, 0, none⟩) 1 1]) (w' := W) (by unfold execOp; simp only [hfn, s51, s53]; go_simp) ((HC2.out W B53 hh532).mono ?_)
              rintro x W' ⟨rfl, hb'⟩
              exact ⟨_, rfl, next _ _ hb' rfl⟩
            · have o1 : ρ (.tmp 1) = .pointer (some ⟨g, 0, none⟩) := hρ.out 1 rfl
              exact stepTo_value (w' := W) (by unfold execOp; simp only [o1, hc]; go_simp) (next _ _ (Below.refl _ _) rfl)
            · have g55 : E12G g bb bo len d1 k gx (0 : Int) Bi ni ci S0 T1 T2 T3 11 (vs 11) W := hG 11 (haft 11 (by kernel_rfl))
              have s55 : ρ (.tmp 55) = .pointer (some ⟨g, 1, none⟩) := (hρ.at_ 55 11 rfl).trans g55
              exact stepTo_value (w' := W) (by unfold execOp; simp only [s55, hc]; go_simp) (next _ _ (Below.refl _ _) rfl)
            · have o6 : ρ (.tmp 6) = .int .i64 (k : Int) := hρ.out 6 rfl
              exact stepTo_value (w' := W) (by unfold execOp; simp only [o6, hc]; go_simp) (next _ _ (Below.refl _ _) rfl)
            · have g56 : E12G g bb bo len d1 k gx (0 : Int) Bi ni ci S0 T1 T2 T3 12 (vs 12) W := hG 12 (haft 12 (by kernel_rfl))
              have s56 : ρ (.tmp 56) = .slice (some ⟨bb, bo, none⟩) len d1 := (hρ.at_ 56 12 rfl).trans g56
              have g57 : E12G g bb bo len d1 k gx (0 : Int) Bi ni ci S0 T1 T2 T3 13 (vs 13) W := hG 13 (haft 13 (by kernel_rfl))
              have s57 : ρ (.tmp 57) = .int .i64 (k : Int) := (hρ.at_ 57 13 rfl).trans g57
              exact stepTo_value (w' := W) (by unfold execOp; simp only [s56, s57, hc]; go_simp) (next _ _ (Below.refl _ _) rfl)
            · have g58 : E12G g bb bo len d1 k gx (0 : Int) Bi ni ci S0 T1 T2 T3 14 (vs 14) W := hG 14 (haft 14 (by kernel_rfl))
              have s58 : ρ (.tmp 58) = .pointer (some ⟨bb, bo + k * 4, none⟩) := (hρ.at_ 58 14 rfl).trans g58
              exact stepTo_value (w' := W) (by unfold execOp; simp only [s58, hc]; go_simp) (next _ _ (Below.refl _ _) rfl)
            · have g59 : E12G g bb bo len d1 k gx (0 : Int) Bi ni ci S0 T1 T2 T3 15 (vs 15) W := hG 15 (haft 15 (by kernel_rfl))
              have s59 : ρ (.tmp 59) = .pointer (some ⟨bb, bo + k * 4 + 2, none⟩) := (hρ.at_ 59 15 rfl).trans g59
              exact stepTo_value (w' := W) (by unfold execOp; simp only [s59, hc]; go_simp) (next _ _ (Below.refl _ _) rfl)
            · have g54 : E12G g bb bo len d1 k gx (0 : Int) Bi ni ci S0 T1 T2 T3 10 (vs 10) W := hG 10 (haft 10 (by kernel_rfl))
              have s54 : ρ (.tmp 54) = .string T2 := (hρ.at_ 54 10 rfl).trans g54
              have g60 : E12G g bb bo len d1 k gx (0 : Int) Bi ni ci S0 T1 T2 T3 16 (vs 16) W := hG 16 (haft 16 (by kernel_rfl))
              have s60 : ρ (.tmp 60) = .slice Bi ni ci := (hρ.at_ 60 16 rfl).trans g60
              refine stepTo_enter (f := 48) (args := #[.string T2, .slice Bi ni ci]) (w' := W) (by unfold execOp; simp only [hfn, s54, s60]; go_simp) ((HC3.out W hb).mono ?_)
              rintro x W' ⟨rfl, hb'⟩
              exact ⟨_, rfl, next _ _ hb' rfl⟩
          · intro L vs W hL hI
            have g17 : vs 17 = .string T3 := hI.2 17 (hL 17 (by decide)) (by decide)
            have HBW2 := Lib.hid (below_step HBW.out hI.1)
            clear hI
            simp only [putList, putSel, if_true]
            rw [g17]
            generalize vs 0 = z0
            generalize vs 1 = z1
            generalize vs 2 = z2
            generalize vs 3 = z3
            generalize vs 4 = z4
            generalize vs 5 = z5
            generalize vs 6 = z6
            generalize vs 7 = z7
            generalize vs 8 = z8
            generalize vs 9 = z9
            generalize vs 10 = z10
            generalize vs 11 = z11
            generalize vs 12 = z12
            generalize vs 13 = z13
            generalize vs 14 = z14
            generalize vs 15 = z15
            generalize vs 16 = z16
            clear g17
            simp only [Act.put, List.setIfInBounds_toArray, List.set_cons_succ, List.set_cons_zero]
            refine wpAny_one (i := 18) (by kernel_rfl) rfl rfl ?_
            go_simp
            refine ⟨by kernel_rfl, ?_⟩
            go_wp2_with fail
            go_roundw
            case rel => exact ⟨k + 1, by have := HLEN.out; omega, by go_num, by rw [HT3.out], HBW2.out⟩
            case measure => simp [intOf]; omega
      · have hki : ¬ (k : Int) < (len : Int) := by omega
        have hall : m.snaps.take k = m.snaps := List.take_of_length_le (by have := HLEN.out; omega)
        have hlnS := spsB_len m.snaps himg
        have htok := HOK.out.tok
        obtain ⟨P, hP⟩ : ∃ P, L3 ++ spsB m.snaps = P := ⟨_, rfl⟩
        have hPl : P.length ≤ 4000 := by rw [← hP, List.length_append]; have := HL3.out; have := HL20.out; have := HLEN.out; omega
        have HBZ : Hid (mBytes m = P ++ tkB m.tok) := by rw [← hP, List.append_assoc]; exact HBY.out
        have HED : Hid (mEnc m = if 48 < nsec (mBytes m).length then ([], 3) else (mBytes m, 0)) := by
          unfold Hid mEnc
          rw [if_neg (by rw [HE.out]; simp)]
        have HBX := Lib.hid (HB3.out.trans (HBW.out.mono HB3.out.size))
        have him := HMW.out.img
        have hba := HMW.out.base
        have hta := HMW.out.target
        have k2 := HAW.out.cell 2
        have k3 := HAW.out.cell 3
        have k4 := HAW.out.cell 4
        have k5 := HAW.out.cell 5
        have k6 := HAW.out.cell 6
        have k7 := HAW.out.cell 7
        have k8 := HAW.out.cell 8
        simp only [mtC, List.getElem?_toArray, List.getElem?_cons_zero, List.getElem?_cons_succ] at k2 k3 k4 k5 k6 k7 k8
        rw [hall, hP]
        clear hall hlnS hP himg HBY HE HMW HAW HBW HA3 HM3 HB3 HM
        generalize m.tok = t at *
        obtain ⟨gb, gy, nx, al, img⟩ := t
        dsimp only at k2 k3 k4 k5 k6 k7 k8 him hba hta htok ⊢
        unfold okTk at htok
        dsimp only at htok
        by_cases hz : gy = (0, 0)
        · subst hz
          rw [if_pos rfl] at htok
          obtain ⟨S0, hS0⟩ : ∃ S, str P = S := ⟨_, rfl⟩
          obtain ⟨SF, hSF⟩ : ∃ S, str (P ++ intB 0) = S := ⟨_, rfl⟩
          have HBF : Hid (P ++ intB 0 = mBytes m) := by unfold Hid; rw [HBZ.out]; unfold tkB; rw [if_pos rfl]; rfl
          have HLF : Hid ((P ++ intB 0).length ≤ 5000) := by unfold Hid; rw [List.length_append]; have := intB_len 0; omega
          have HC1 := Lib.hid (one_nums P 0 (by omega) (by omega) S0 SF hS0 hSF)
          have hz0 : ∀ z ∈ ([(0 : Int)] : List Int), i64B z := fun z hz => by simp only [List.mem_cons, List.not_mem_nil, or_false] at hz; subst hz; unfold i64B; omega
          have HN0 : Hid (∀ (W : World) (B : Nat), W.heap.size = B → IntsAt (W.alloc (.cells #[.int .i64 0] 3)) (some ⟨B, 0, none⟩) [0]) := fun W B e => by rw [← e]; exact nums_new W [(0 : Int)] hz0
          have HBA : Hid (∀ o, Below w.heap.size w (wr.alloc o)) := fun o => HBX.out.trans (((Below.refl wr.heap.size wr).alloc (Nat.le_refl _) o).mono HBX.out.size)
          rw [hS0]
          have HSF : Hid (nsec SF.size = nsec (mBytes m).length) := by unfold Hid; rw [← hSF, str_size, HBF.out]
          have HSF2 : Hid (SF.size ≤ 4611686018427387904) := by unfold Hid; rw [← hSF, str_size]; have := HLF.out; omega
          have HSF3 : Hid (SF = str (mBytes m)) := by unfold Hid; rw [← hSF, HBF.out]
          clear htok hz0 hS0 hSF
          go_wp2_with fail
          refine (HC1.out _ _ (HN0.out _ _ (by simp))).mono ?_
          rintro e W9 ⟨rfl, hb9⟩
          have HB9 := Lib.hid (below_step (below_step (HBA.out _) ((Below.refl _ _).alloc (Nat.le_refl _) _)) hb9)
          clear hb9
          dsimp only
          by_cases h48 : 48 < nsec (mBytes m).length
          · have hq : (48 : Int) < (nsec (mBytes m).length : Int) := by omega
            have HR : Hid (mEnc m = ([], 3)) := by unfold Hid; rw [HED.out, if_pos h48]
            clear h48
            go_wp2_with fail
            refine (rsize_any SF W9 HSF2.out).mono ?_
            rintro e W10 ⟨rfl, rfl⟩
            rw [HSF.out]
            go_wp2_with fail
            refine bodyPost_ret (v := .tuple #[.string ⟨#[]⟩, .int .i64 3]) (by simp [results, Try.results14, go_sem]) rfl ?_
            exact ⟨by rw [HR.out]; rfl, HB9.out⟩
          · have hq : ¬ (48 : Int) < (nsec (mBytes m).length : Int) := by omega
            have HR : Hid (mEnc m = (mBytes m, 0)) := by unfold Hid; rw [HED.out, if_neg h48]
            clear h48
            go_wp2_with fail
            refine (rsize_any SF W9 HSF2.out).mono ?_
            rintro e W10 ⟨rfl, rfl⟩
            rw [HSF.out]
            go_wp2_with fail
            refine bodyPost_ret (v := .tuple #[.string SF, .int .i64 0]) (by simp [results, Try.results14, go_sem]) rfl ?_
            exact ⟨by rw [HR.out, HSF3.out], HB9.out⟩
        · rw [if_neg hz] at htok
          obtain ⟨_, _, hnx, hal, him8, himo⟩ := htok
          have hzz : (¬ gy.1 = 0) ∨ (gy.1 = 0 ∧ ¬ gy.2 = 0) := by
            by_cases e1 : gy.1 = 0
            · exact .inr ⟨e1, fun e2 => hz (Prod.ext e1 e2)⟩
            · exact .inl e1
          have HNX := Lib.hid hnx
          have HAL := Lib.hid hal
          have HIO := Lib.hid himo
          have HI8 : Hid (img.length ≤ 8) := by rw [him8]; exact HN8.out
          have HIM := Lib.hid him
          have HTE : Hid (tkB ⟨gb, gy, nx, al, img⟩ = numB 1 ++ (gdBs gb ++ (gdBs gy ++ (intB nx ++ (intB al ++ intsB img))))) := by unfold Hid tkB; rw [if_neg hz]
          obtain ⟨S0, hS0⟩ : ∃ S, str P = S := ⟨_, rfl⟩
          have HS0 := Lib.hid hS0
          rw [hS0]
          clear hS0 hnx hal himo him8 him hz
          rcases hzz with hzz | ⟨hzz, hzz2⟩
          case' inl =>
            go_wp2_with fail
            generalize hW5 : wr.alloc (.cells #[.int .u64 (gb.1 : Int), .int .u64 (gb.2 : Int), .int .u64 (gy.1 : Int), .int .u64 (gy.2 : Int), .int .i64 nx, .int .i64 al, .slice A2 img.length d2] 28) = W5
            have HTB : Hid (Blk W5 wr.heap.size 28 #[.int .u64 (gb.1 : Int), .int .u64 (gb.2 : Int), .int .u64 (gy.1 : Int), .int .u64 (gy.2 : Int), .int .i64 nx, .int .i64 al, .slice A2 img.length d2]) := by rw [← hW5]; exact Blk.new _ _ _
            have hb5 : Below wr.heap.size wr W5 := by rw [← hW5]; exact (Below.refl _ _).alloc (Nat.le_refl _) _
            clear hzz hW5
          case' inr =>
            have hz0 : (gy.1 : Int) = 0 := by omega
            go_wp2_with fail
            generalize hW5 : wr.alloc (.cells #[.int .u64 (gb.1 : Int), .int .u64 (gb.2 : Int), .int .u64 0, .int .u64 (gy.2 : Int), .int .i64 nx, .int .i64 al, .slice A2 img.length d2] 28) = W5
            have HTB : Hid (Blk W5 wr.heap.size 28 #[.int .u64 (gb.1 : Int), .int .u64 (gb.2 : Int), .int .u64 (gy.1 : Int), .int .u64 (gy.2 : Int), .int .i64 nx, .int .i64 al, .slice A2 img.length d2]) := by rw [hz0, ← hW5]; exact Blk.new _ _ _
            have hb5 : Below wr.heap.size wr W5 := by rw [← hW5]; exact (Below.refl _ _).alloc (Nat.le_refl _) _
            clear hzz hzz2 hz0 hW5
          all_goals
            have HB5 := Lib.hid (HBX.out.trans (hb5.mono HBX.out.size))
            have HI5 := Lib.hid (HIM.out.below hb5)
            clear hb5 HBX HIM
            obtain ⟨gt, hgt⟩ : ∃ z, wr.heap.size = z := ⟨_, rfl⟩
            rw [hgt] at HTB ⊢
            clear hgt
            obtain ⟨ni, hni⟩ : ∃ z, img.length = z := ⟨_, rfl⟩
            obtain ⟨S1, hS1⟩ : ∃ S, str (P ++ intB 1) = S := ⟨_, rfl⟩
            obtain ⟨S2, hS2⟩ : ∃ S, str (P ++ intB 1 ++ gdBs gb) = S := ⟨_, rfl⟩
            obtain ⟨S3, hS3⟩ : ∃ S, str (P ++ intB 1 ++ gdBs gb ++ gdBs gy) = S := ⟨_, rfl⟩
            obtain ⟨S4, hS4⟩ : ∃ S, str (P ++ intB 1 ++ gdBs gb ++ gdBs gy ++ intsB [nx, al]) = S := ⟨_, rfl⟩
            obtain ⟨SF, hSF⟩ : ∃ S, str (P ++ intB 1 ++ gdBs gb ++ gdBs gy ++ intsB [nx, al] ++ intsB img) = S := ⟨_, rfl⟩
            have l1 := intB_len 1
            have l2 := gdBs_len gb
            have l3 := gdBs_len gy
            have l4 := intsB_len [nx, al]
            have l5 := intsB_len img
            simp only [List.length_cons, List.length_nil] at l4
            have hi8 := HI8.out
            have HBF : Hid (P ++ intB 1 ++ gdBs gb ++ gdBs gy ++ intsB [nx, al] ++ intsB img = mBytes m) := by
              unfold Hid
              rw [HBZ.out, HTE.out]
              simp [intsB, intB]
            have HLF : Hid ((P ++ intB 1 ++ gdBs gb ++ gdBs gy ++ intsB [nx, al] ++ intsB img).length ≤ 5000) := by unfold Hid; simp only [List.length_append]; omega
            have HC1 := Lib.hid (one_nums P 1 (by omega) (by omega) S0 S1 HS0.out hS1)
            have HC2 : Hid (∀ W, Calls Try.prog 49 #[.string S1, gv gb] W fun e W' => e = .returned (.string S2) ∧ Below W.heap.size W W') := fun W => by
              have := gd_l (P ++ intB 1) gb W hba (by simp only [List.length_append]; omega)
              unfold endT at this
              rw [hS1, hS2] at this
              exact this
            have HC3 : Hid (∀ W, Calls Try.prog 49 #[.string S2, gv gy] W fun e W' => e = .returned (.string S3) ∧ Below W.heap.size W W') := fun W => by
              have := gd_l (P ++ intB 1 ++ gdBs gb) gy W hta (by simp only [List.length_append]; omega)
              unfold endT at this
              rw [hS2, hS3] at this
              exact this
            have HC4 : Hid (∀ W B, IntsAt W (some ⟨B, 0, none⟩) [nx, al] → Calls Try.prog 48 #[.string S3, .slice (some ⟨B, 0, none⟩) 2 2] W fun e W' => e = .returned (.string S4) ∧ Below W.heap.size W W') := fun W B hi => by
              have := nums_l (P ++ intB 1 ++ gdBs gb ++ gdBs gy) (some ⟨B, 0, none⟩) 2 [nx, al] W hi (fun z hz => by have := HNX.out; have := HAL.out; simp only [List.mem_cons, List.not_mem_nil, or_false] at hz; rcases hz with rfl | rfl <;> omega) (by simp only [List.length_append]; omega) (by simp)
              unfold endT at this
              rw [hS3, hS4] at this
              exact this
            have HC5 : Hid (∀ W, SlAt W A2 img d2 → Calls Try.prog 48 #[.string S4, .slice A2 ni d2] W fun e W' => e = .returned (.string SF) ∧ Below W.heap.size W W') := fun W hi => by
              have := nums_l (P ++ intB 1 ++ gdBs gb ++ gdBs gy ++ intsB [nx, al]) A2 d2 img W hi.ints (fun z hz => (HIO.out z hz).1) (by simp only [List.length_append]; omega) (by omega)
              unfold endT at this
              rw [hS4, hSF, hni] at this
              exact this
            have HZ1 : Hid (∀ z ∈ ([1] : List Int), i64B z) := fun z hz => by simp only [List.mem_cons, List.not_mem_nil, or_false] at hz; subst hz; unfold i64B; omega
            have HZ2 : Hid (∀ z ∈ ([nx, al] : List Int), i64B z) := fun z hz => by have := HNX.out; have := HAL.out; simp only [List.mem_cons, List.not_mem_nil, or_false] at hz; unfold i64B; rcases hz with rfl | rfl <;> omega
            have HSF : Hid (nsec SF.size = nsec (mBytes m).length) := by unfold Hid; rw [← hSF, str_size, HBF.out]
            have HSF2 : Hid (SF.size ≤ 4611686018427387904) := by unfold Hid; rw [← hSF, str_size]; have := HLF.out; omega
            have HSF3 : Hid (SF = str (mBytes m)) := by unfold Hid; rw [← hSF, HBF.out]
            rw [hni] at HTB ⊢
            clear hni hS1 hS2 hS3 hS4 hSF l1 l2 l3 l4 l5 hi8 hba hta hPl k1 k2 k3 k4 k5 k6 k7 k8
            refine wp_region_pre (by kernel_rfl) 9 [71, 72, 73, 74, 75, 76, 77, 78, 79] (by kernel_rfl) (fun L vs W => Below W5.heap.size W5 W ∧ ∀ i, L i = true → i < 9 → E16G gt gb gy S0 S1 S2 S3 i (vs i) W) ⟨(Below.refl _ _).drew, fun i hi => by cases hi⟩ ?_ ?_
            · intro i o L vs ρ W hi51 ho hli haft hρ hI
              obtain ⟨hb, hG'⟩ := hI
              have hG : ∀ j, L j = true → E16G gt gb gy S0 S1 S2 S3 j (vs j) W := fun j hj => by
                by_cases h51 : j < 9
                · exact hG' j hj h51
                · match j, h51 with
                  | j + 9, _ => exact trivial
              have hc := hρ.const
              have hfn := hρ.fn
              have next : ∀ v W', Below W.heap.size W W' → E16G gt gb gy S0 S1 S2 S3 i v W' → Below W5.heap.size W5 W' ∧ ∀ j, updB L i j = true → j < 9 → E16G gt gb gy S0 S1 S2 S3 j (updV vs i v j) W' := fun v W' h1 h2 => by
                refine ⟨below_step hb h1, fun j hj h51 => ?_⟩
                by_cases hji : j = i
                · subst hji
                  simpa [updV] using h2
                · simp only [updB, if_neg hji] at hj
                  simpa [updV, hji] using E16G_mono gt gb gy S0 S1 S2 S3 j _ W W' h51 (hG' j hj h51) h1
              have hA := HTB.out.below hb
              have hltA := hA.lt
              have k0 := hA.cell 0
              have k1 := hA.cell 1
              have k2 := hA.cell 2
              have k3 := hA.cell 3
              simp only [List.getElem?_toArray, List.getElem?_cons_zero, List.getElem?_cons_succ] at k0 k1 k2 k3
              rcases i with _ | _ | _ | _ | _ | _ | _ | _ | _ | i
              all_goals (first | omega | skip)
              all_goals simp only [List.getElem?_toArray, List.getElem?_cons_zero, List.getElem?_cons_succ, Option.some.injEq] at ho
              all_goals subst ho
              · have o5 : ρ (.tmp 5) = .string S0 := hρ.out 5 rfl
                exact stepTo_value (w' := W) (by unfold execOp; simp only [o5, hc]; go_simp) (next _ _ (Below.refl _ _) rfl)
              · exact stepTo_value (v := .slice (some ⟨W.heap.size, 0, none⟩) 1 1) (w' := W.alloc (.cells (ncells [1]) 3)) (by unfold execOp; simp only [ncells, hc]; go_simp) (next _ _ ((Below.refl _ _).alloc (Nat.le_refl _) _) ⟨W.heap.size, rfl, nums_new W [1] HZ1.out⟩)
              · have g71 : E16G gt gb gy S0 S1 S2 S3 0 (vs 0) W := hG 0 (haft 0 (by kernel_rfl))
                have s71 : ρ (.tmp 71) = .string S0 := (hρ.at_ 71 0 rfl).trans g71
                obtain ⟨B72, g72, hh722⟩ : E16G gt gb gy S0 S1 S2 S3 1 (vs 1) W := hG 1 (haft 1 (by kernel_rfl))
                have s72 : ρ (.tmp 72) = .slice (some ⟨B72, 0, none⟩) 1 1 := (hρ.at_ 72 1 rfl).trans g72
                refine stepTo_enter (f := 48) (args := #[.string S0, .slice (some ⟨B72, 0, none⟩) 1 1]) (w' := W) (by unfold execOp; simp only [hfn, s71, s72]; go_simp) ((HC1.out W B72 hh722).mono ?_)
                rintro x W' ⟨rfl, hb'⟩
                exact ⟨_, rfl, next _ _ hb' rfl⟩
              · have o8 : ρ (.tmp 8) = .pointer (some ⟨gt, 0, none⟩) := hρ.out 8 rfl
                exact stepTo_value (w' := W) (by unfold execOp; simp only [o8, hc]; go_simp) (next _ _ (Below.refl _ _) rfl)
              · have g74 : E16G gt gb gy S0 S1 S2 S3 3 (vs 3) W := hG 3 (haft 3 (by kernel_rfl))
                have s74 : ρ (.tmp 74) = .pointer (some ⟨gt, 0, none⟩) := (hρ.at_ 74 3 rfl).trans g74
                exact stepTo_value (v := gv gb) (w' := W) (by unfold execOp; simp only [s74, gv]; go_simp) (next _ _ (Below.refl _ _) rfl)
              · have g73 : E16G gt gb gy S0 S1 S2 S3 2 (vs 2) W := hG 2 (haft 2 (by kernel_rfl))
                have s73 : ρ (.tmp 73) = .string S1 := (hρ.at_ 73 2 rfl).trans g73
                have g75 : E16G gt gb gy S0 S1 S2 S3 4 (vs 4) W := hG 4 (haft 4 (by kernel_rfl))
                have s75 : ρ (.tmp 75) = gv gb := (hρ.at_ 75 4 rfl).trans g75
                refine stepTo_enter (f := 49) (args := #[.string S1, gv gb]) (w' := W) (by unfold execOp; simp only [hfn, s73, s75]; go_simp) ((HC2.out W).mono ?_)
                rintro x W' ⟨rfl, hb'⟩
                exact ⟨_, rfl, next _ _ hb' rfl⟩
              · have o8 : ρ (.tmp 8) = .pointer (some ⟨gt, 0, none⟩) := hρ.out 8 rfl
                exact stepTo_value (w' := W) (by unfold execOp; simp only [o8, hc]; go_simp) (next _ _ (Below.refl _ _) rfl)
              · have g77 : E16G gt gb gy S0 S1 S2 S3 6 (vs 6) W := hG 6 (haft 6 (by kernel_rfl))
                have s77 : ρ (.tmp 77) = .pointer (some ⟨gt, 2, none⟩) := (hρ.at_ 77 6 rfl).trans g77
                exact stepTo_value (v := gv gy) (w' := W) (by unfold execOp; simp only [s77, gv]; go_simp) (next _ _ (Below.refl _ _) rfl)
              · have g76 : E16G gt gb gy S0 S1 S2 S3 5 (vs 5) W := hG 5 (haft 5 (by kernel_rfl))
                have s76 : ρ (.tmp 76) = .string S2 := (hρ.at_ 76 5 rfl).trans g76
                have g78 : E16G gt gb gy S0 S1 S2 S3 7 (vs 7) W := hG 7 (haft 7 (by kernel_rfl))
                have s78 : ρ (.tmp 78) = gv gy := (hρ.at_ 78 7 rfl).trans g78
                refine stepTo_enter (f := 49) (args := #[.string S2, gv gy]) (w' := W) (by unfold execOp; simp only [hfn, s76, s78]; go_simp) ((HC3.out W).mono ?_)
                rintro x W' ⟨rfl, hb'⟩
                exact ⟨_, rfl, next _ _ hb' rfl⟩
            · intro L vs W6 hL hI
              have g8 : vs 8 = .string S3 := hI.2 8 (hL 8 (by decide)) (by decide)
              have hb := hI.1
              have HB6 := Lib.hid (below_step HB5.out hb)
              have HI6 := Lib.hid (HI5.out.below hb)
              have HTC := Lib.hid (HTB.out.below hb)
              clear hI hb HTB HI5 HB5
              simp only [putList, putSel, if_true]
              rw [g8]
              generalize vs 0 = z0
              generalize vs 1 = z1
              generalize vs 2 = z2
              generalize vs 3 = z3
              generalize vs 4 = z4
              generalize vs 5 = z5
              generalize vs 6 = z6
              generalize vs 7 = z7
              clear g8
              simp only [Act.put, List.setIfInBounds_toArray, List.set_cons_succ, List.set_cons_zero]
              refine wpAny_one (i := 9) (by kernel_rfl) rfl rfl ?_
              go_simp
              refine ⟨by kernel_rfl, ?_⟩
              go_wp2_with fail
              refine wp_region_pre (by kernel_rfl) 10 [80, 81, 82, 83, 84, 85, 86, 87, 88, 89] (by kernel_rfl) (fun L vs W => Below W6.heap.size W6 W ∧ ∀ i, L i = true → i < 10 → E17G gt nx al A2 ni d2 S3 S4 SF i (vs i) W) ⟨(Below.refl _ _).drew, fun i hi => by cases hi⟩ ?_ ?_
              · intro i o L vs ρ W hi51 ho hli haft hρ hI
                obtain ⟨hb, hG'⟩ := hI
                have hG : ∀ j, L j = true → E17G gt nx al A2 ni d2 S3 S4 SF j (vs j) W := fun j hj => by
                  by_cases h51 : j < 10
                  · exact hG' j hj h51
                  · match j, h51 with
                    | j + 10, _ => exact trivial
                have hc := hρ.const
                have hfn := hρ.fn
                have next : ∀ v W', Below W.heap.size W W' → E17G gt nx al A2 ni d2 S3 S4 SF i v W' → Below W6.heap.size W6 W' ∧ ∀ j, updB L i j = true → j < 10 → E17G gt nx al A2 ni d2 S3 S4 SF j (updV vs i v j) W' := fun v W' h1 h2 => by
                  refine ⟨below_step hb h1, fun j hj h51 => ?_⟩
                  by_cases hji : j = i
                  · subst hji
                    simpa [updV] using h2
                  · simp only [updB, if_neg hji] at hj
                    simpa [updV, hji] using E17G_mono gt nx al A2 ni d2 S3 S4 SF j _ W W' h51 (hG' j hj h51) h1
                have hA := HTC.out.below hb
                have hltA := hA.lt
                have k4 := hA.cell 4
                have k5 := hA.cell 5
                have k6 := hA.cell 6
                simp only [List.getElem?_toArray, List.getElem?_cons_zero, List.getElem?_cons_succ] at k4 k5 k6
                rcases i with _ | _ | _ | _ | _ | _ | _ | _ | _ | _ | i
                all_goals (first | omega | skip)
                all_goals simp only [List.getElem?_toArray, List.getElem?_cons_zero, List.getElem?_cons_succ, Option.some.injEq] at ho
                all_goals subst ho
                · have o5 : ρ (.tmp 5) = .string S3 := hρ.out 5 rfl
                  exact stepTo_value (w' := W) (by unfold execOp; simp only [o5, hc]; go_simp) (next _ _ (Below.refl _ _) rfl)
                · have o8 : ρ (.tmp 8) = .pointer (some ⟨gt, 0, none⟩) := hρ.out 8 rfl
                  exact stepTo_value (w' := W) (by unfold execOp; simp only [o8, hc]; go_simp) (next _ _ (Below.refl _ _) rfl)
                · have g81 : E17G gt nx al A2 ni d2 S3 S4 SF 1 (vs 1) W := hG 1 (haft 1 (by kernel_rfl))
                  have s81 : ρ (.tmp 81) = .pointer (some ⟨gt, 4, none⟩) := (hρ.at_ 81 1 rfl).trans g81
                  exact stepTo_value (w' := W) (by unfold execOp; simp only [s81, hc]; go_simp) (next _ _ (Below.refl _ _) rfl)
                · have o8 : ρ (.tmp 8) = .pointer (some ⟨gt, 0, none⟩) := hρ.out 8 rfl
                  exact stepTo_value (w' := W) (by unfold execOp; simp only [o8, hc]; go_simp) (next _ _ (Below.refl _ _) rfl)
                · have g83 : E17G gt nx al A2 ni d2 S3 S4 SF 3 (vs 3) W := hG 3 (haft 3 (by kernel_rfl))
                  have s83 : ρ (.tmp 83) = .pointer (some ⟨gt, 5, none⟩) := (hρ.at_ 83 3 rfl).trans g83
                  exact stepTo_value (w' := W) (by unfold execOp; simp only [s83, hc]; go_simp) (next _ _ (Below.refl _ _) rfl)
                · have g82 : E17G gt nx al A2 ni d2 S3 S4 SF 2 (vs 2) W := hG 2 (haft 2 (by kernel_rfl))
                  have s82 : ρ (.tmp 82) = .int .i64 nx := (hρ.at_ 82 2 rfl).trans g82
                  have g84 : E17G gt nx al A2 ni d2 S3 S4 SF 4 (vs 4) W := hG 4 (haft 4 (by kernel_rfl))
                  have s84 : ρ (.tmp 84) = .int .i64 al := (hρ.at_ 84 4 rfl).trans g84
                  exact stepTo_value (v := .slice (some ⟨W.heap.size, 0, none⟩) 2 2) (w' := W.alloc (.cells (ncells [nx, al]) 3)) (by unfold execOp; simp only [s82, s84, ncells]; go_simp) (next _ _ ((Below.refl _ _).alloc (Nat.le_refl _) _) ⟨W.heap.size, rfl, nums_new W [nx, al] HZ2.out⟩)
                · have g80 : E17G gt nx al A2 ni d2 S3 S4 SF 0 (vs 0) W := hG 0 (haft 0 (by kernel_rfl))
                  have s80 : ρ (.tmp 80) = .string S3 := (hρ.at_ 80 0 rfl).trans g80
                  obtain ⟨B85, g85, hh852⟩ : E17G gt nx al A2 ni d2 S3 S4 SF 5 (vs 5) W := hG 5 (haft 5 (by kernel_rfl))
                  have s85 : ρ (.tmp 85) = .slice (some ⟨B85, 0, none⟩) 2 2 := (hρ.at_ 85 5 rfl).trans g85
                  refine stepTo_enter (f := 48) (args := #[.string S3, .slice (some ⟨B85, 0, none⟩) 2 2]) (w' := W) (by unfold execOp; simp only [hfn, s80, s85]; go_simp) ((HC4.out W B85 hh852).mono ?_)
                  rintro x W' ⟨rfl, hb'⟩
                  exact ⟨_, rfl, next _ _ hb' rfl⟩
                · have o8 : ρ (.tmp 8) = .pointer (some ⟨gt, 0, none⟩) := hρ.out 8 rfl
                  exact stepTo_value (w' := W) (by unfold execOp; simp only [o8, hc]; go_simp) (next _ _ (Below.refl _ _) rfl)
                · have g87 : E17G gt nx al A2 ni d2 S3 S4 SF 7 (vs 7) W := hG 7 (haft 7 (by kernel_rfl))
                  have s87 : ρ (.tmp 87) = .pointer (some ⟨gt, 6, none⟩) := (hρ.at_ 87 7 rfl).trans g87
                  exact stepTo_value (w' := W) (by unfold execOp; simp only [s87, hc]; go_simp) (next _ _ (Below.refl _ _) rfl)
                · have g86 : E17G gt nx al A2 ni d2 S3 S4 SF 6 (vs 6) W := hG 6 (haft 6 (by kernel_rfl))
                  have s86 : ρ (.tmp 86) = .string S4 := (hρ.at_ 86 6 rfl).trans g86
                  have g88 : E17G gt nx al A2 ni d2 S3 S4 SF 8 (vs 8) W := hG 8 (haft 8 (by kernel_rfl))
                  have s88 : ρ (.tmp 88) = .slice A2 ni d2 := (hρ.at_ 88 8 rfl).trans g88
                  refine stepTo_enter (f := 48) (args := #[.string S4, .slice A2 ni d2]) (w' := W) (by unfold execOp; simp only [hfn, s86, s88]; go_simp) ((HC5.out W (HI6.out.below hb)).mono ?_)
                  rintro x W' ⟨rfl, hb'⟩
                  exact ⟨_, rfl, next _ _ hb' rfl⟩
              · intro L vs W9 hL hI
                have g9 : vs 9 = .string SF := hI.2 9 (hL 9 (by decide)) (by decide)
                have HB9 := Lib.hid (below_step HB6.out hI.1)
                clear hI HTC HI6 HB6
                simp only [putList, putSel, if_true]
                rw [g9]
                generalize vs 0 = z0
                generalize vs 1 = z1
                generalize vs 2 = z2
                generalize vs 3 = z3
                generalize vs 4 = z4
                generalize vs 5 = z5
                generalize vs 6 = z6
                generalize vs 7 = z7
                generalize vs 8 = z8
                clear g9
                simp only [Act.put, List.setIfInBounds_toArray, List.set_cons_succ, List.set_cons_zero]
                refine wpAny_one (i := 10) (by kernel_rfl) rfl rfl ?_
                go_simp
                refine ⟨by kernel_rfl, ?_⟩
                by_cases h48 : 48 < nsec (mBytes m).length
                · have hq : (48 : Int) < (nsec (mBytes m).length : Int) := by omega
                  have HR : Hid (mEnc m = ([], 3)) := by unfold Hid; rw [HED.out, if_pos h48]
                  clear h48
                  go_wp2_with fail
                  refine (rsize_any SF W9 HSF2.out).mono ?_
                  rintro e W10 ⟨rfl, rfl⟩
                  rw [HSF.out]
                  go_wp2_with fail
                  refine bodyPost_ret (v := .tuple #[.string ⟨#[]⟩, .int .i64 3]) (by simp [results, Try.results14, go_sem]) rfl ?_
                  exact ⟨by rw [HR.out]; rfl, HB9.out⟩
                · have hq : ¬ (48 : Int) < (nsec (mBytes m).length : Int) := by omega
                  have HR : Hid (mEnc m = (mBytes m, 0)) := by unfold Hid; rw [HED.out, if_neg h48]
                  clear h48
                  go_wp2_with fail
                  refine (rsize_any SF W9 HSF2.out).mono ?_
                  rintro e W10 ⟨rfl, rfl⟩
                  rw [HSF.out]
                  go_wp2_with fail
                  refine bodyPost_ret (v := .tuple #[.string SF, .int .i64 0]) (by simp [results, Try.results14, go_sem]) rfl ?_
                  exact ⟨by rw [HR.out, HSF3.out], HB9.out⟩
end Go.Proofs.Ytklmgdiaianlbaa.mt


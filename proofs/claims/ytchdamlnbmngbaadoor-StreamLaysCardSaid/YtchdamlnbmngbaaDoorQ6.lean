/- MgPure, WiShelf, ShBuilder, WiPut, WiGrown, WiRead, WiNum, WiNumG, WiNumR, WiRefR0. -/
import Derived.Test.YtchdamlnbmngbaaDoorQ0
import Derived.Test.YtchdamlnbmngbaaDoorQ1
import Derived.Shelf.Strconv.Itoa0
import Derived.Test.YtchdamlnbmngbaaDoorProg
import Derived.Shelf.Strings.Builder1
import Derived.WalkKit
import Derived.WalkSpells
import Derived.WalkLawsBesides
import Derived.BigCall
import Derived.Lib.Hide
import Derived.Lib.ConvBytes
import Derived.Deep.QuietTactic
import Derived.BigQuiet
set_option linter.unusedVariables false
set_option linter.unusedSimpArgs false
/- What the program reads of any bytes, as plain data; it reads a table just where the document does. -/
namespace Go.Proofs.YtchdamlnbmngbaaDoor.mt.pg
open Go Go.RowKit Go.Proofs.YtchdamlnbmngbaaDoor.im Go.Proofs.YtchdamlnbmngbaaDoor.wi Go.Proofs.YtchdamlnbmngbaaDoor.mt
set_option maxRecDepth 100000

def upS (k : Nat) (s : St) : Nat × St := (min (numS s).1 (k + 1), (numS s).2)
def plS : Nat → St → List Int × St
  | 0, s => ([], s)
  | n + 1, s => (((upS 1024 s).1 : Int) :: (plS n (upS 1024 s).2).1, (plS n (upS 1024 s).2).2)
def snS (b : Nat) (s : St) : Sp × St := (⟨(gdS s).1, (plS b (numS (gdS s).2).2).1, decide ((numS (gdS s).2).1 = 1)⟩, (plS b (numS (gdS s).2).2).2)
def snsS (b : Nat) : Nat → St → List Sp × St
  | 0, s => ([], s)
  | n + 1, s => ((snS b s).1 :: (snsS b n (snS b s).2).1, (snsS b n (snS b s).2).2)
def toS (b : Nat) (s : St) : Tk × St :=
  (⟨(gdS s).1, (gdS (gdS s).2).1, (upS 8 (gdS (gdS s).2).2).1, (upS 8 (upS 8 (gdS (gdS s).2).2).2).1, (plS b (upS 8 (upS 8 (gdS (gdS s).2).2).2).2).1⟩, (plS b (upS 8 (upS 8 (gdS (gdS s).2).2).2).2).2)
def liveS (s : St) : List Int × St := plS (upS 8 s).1 (upS 8 s).2
def allS (s : St) : List Sp × St := snsS (upS 8 s).1 (upS 20 (liveS s).2).1 (upS 20 (liveS s).2).2
def mP (s : St) : Mt := ⟨(liveS s).1, (allS s).1, if (numS (allS s).2).1 = 1 then (toS (upS 8 s).1 (numS (allS s).2).2).1 else tk0⟩

theorem upS_le (k : Nat) (s : St) : (upS k s).1 ≤ k + 1 := by unfold upS; dsimp only; omega
theorem plS_len : ∀ (n : Nat) (s : St), (plS n s).1.length = n
  | 0, _ => rfl
  | n + 1, s => by simp [plS, plS_len n]
theorem plS_ok : ∀ (n : Nat) (s : St), okInts (plS n s).1
  | 0, _ => fun z hz => absurd hz (by simp [plS])
  | n + 1, s => fun z hz => by
    have h := upS_le 1024 s
    simp only [plS, List.mem_cons] at hz
    rcases hz with rfl | hz
    · omega
    · exact plS_ok n _ z hz
theorem plS_snoc : ∀ (n : Nat) (s : St), plS (n + 1) s = ((plS n s).1 ++ [((upS 1024 (plS n s).2).1 : Int)], (upS 1024 (plS n s).2).2)
  | 0, s => rfl
  | n + 1, s => by
    have ih := plS_snoc n (upS 1024 s).2
    show ((((upS 1024 s).1 : Int) :: (plS (n + 1) (upS 1024 s).2).1, (plS (n + 1) (upS 1024 s).2).2) : List Int × St) = _
    rw [ih]
    rfl
theorem snsS_len (b : Nat) : ∀ (n : Nat) (s : St), (snsS b n s).1.length = n
  | 0, _ => rfl
  | n + 1, s => by simp [snsS, snsS_len b n]
theorem snsS_snoc (b : Nat) : ∀ (n : Nat) (s : St), snsS b (n + 1) s = ((snsS b n s).1 ++ [(snS b (snsS b n s).2).1], (snS b (snsS b n s).2).2)
  | 0, s => rfl
  | n + 1, s => by
    have ih := snsS_snoc b n (snS b s).2
    show (((snS b s).1 :: (snsS b (n + 1) (snS b s).2).1, (snsS b (n + 1) (snS b s).2).2) : List Sp × St) = _
    rw [ih]
    rfl
theorem snS_ok (b : Nat) (s : St) : okInts (snS b s).1.img ∧ (snS b s).1.img.length = b ∧ gdB (snS b s).1.g := ⟨plS_ok _ _, plS_len _ _, gdS_B _⟩
theorem snsS_ok (b : Nat) : ∀ (n : Nat) (s : St), ∀ x ∈ (snsS b n s).1, okInts x.img ∧ x.img.length = b ∧ gdB x.g
  | 0, _, x, hx => absurd hx (by simp [snsS])
  | n + 1, s, x, hx => by
    unfold snsS at hx
    simp only [List.mem_cons] at hx
    rcases hx with rfl | hx
    · exact snS_ok b s
    · exact snsS_ok b n _ x hx

/-! ### What is put is read -/
theorem upS_put (k n : Nat) (h : n ≤ k) (hk : k ≤ 2000) (r : List UInt8) : upS k (some (numB n ++ r)) = (n, some r) := by
  unfold upS
  rw [numS_put n (by omega)]
  simp only [Nat.min_eq_left (show n ≤ k + 1 by omega)]
def tight (l : List Int) : Prop := ∀ z ∈ l, 0 ≤ z ∧ z ≤ 1024
theorem plS_put : ∀ (l : List Int) (_ : tight l) (r : List UInt8), plS l.length (some (intsB l ++ r)) = (l, some r)
  | [], _, r => rfl
  | z :: l, h, r => by
    have hz := h z (by simp)
    have e : intsB (z :: l) ++ r = numB z.toNat ++ (intsB l ++ r) := by simp [intsB, intB]
    show plS (l.length + 1) (some (intsB (z :: l) ++ r)) = _
    rw [e]
    unfold plS
    rw [upS_put 1024 _ (by omega) (by omega)]
    simp only
    rw [plS_put l (fun x hx => h x (by simp [hx])) r]
    simp only [Int.toNat_of_nonneg hz.1]
theorem snS_put (b : Nat) (s : Sp) (h1 : gdB s.g) (h2 : s.img.length = b) (h3 : tight s.img) (r : List UInt8) : snS b (some (spB s ++ r)) = (s, some r) := by
  unfold snS spB
  rw [List.append_assoc, gdS_put _ h1]
  simp only
  rw [List.append_assoc, numS_put _ (by split <;> omega)]
  simp only
  rw [← h2, plS_put _ h3]
  cases s with | mk g img hid => cases hid <;> rfl
theorem snsS_put (b : Nat) : ∀ (l : List Sp) (_ : ∀ s ∈ l, gdB s.g ∧ s.img.length = b ∧ tight s.img) (r : List UInt8), snsS b l.length (some (spsB l ++ r)) = (l, some r)
  | [], _, r => rfl
  | s :: l, h, r => by
    have e : spsB (s :: l) ++ r = spB s ++ (spsB l ++ r) := by simp [spsB]
    have hs := h s (by simp)
    show snsS b (l.length + 1) (some (spsB (s :: l) ++ r)) = _
    rw [e]
    unfold snsS
    rw [snS_put b s hs.1 hs.2.1 hs.2.2]
    simp only
    rw [snsS_put b l (fun x hx => h x (by simp [hx])) r]
structure Tight (m : Mt) : Prop where
  b : m.live.length ≤ 8
  live : tight m.live
  few : m.snaps.length ≤ 20
  snaps : ∀ s ∈ m.snaps, gdB s.g ∧ s.img.length = m.live.length ∧ tight s.img
  tok : if m.tok.target = (0, 0) then m.tok = tk0 else gdB m.tok.base ∧ gdB m.tok.target ∧ (0 ≤ m.tok.next ∧ m.tok.next ≤ 8) ∧ (0 ≤ m.tok.all ∧ m.tok.all ≤ 8) ∧ m.tok.img.length = m.live.length ∧ tight m.tok.img
theorem toS_put (b : Nat) (t : Tk) (h : gdB t.base ∧ gdB t.target ∧ (0 ≤ t.next ∧ t.next ≤ 8) ∧ (0 ≤ t.all ∧ t.all ≤ 8) ∧ t.img.length = b ∧ tight t.img) (r : List UInt8) :
    toS b (some ((gdBs t.base ++ (gdBs t.target ++ (intB t.next ++ (intB t.all ++ intsB t.img)))) ++ r)) = (t, some r) := by
  obtain ⟨h1, h2, h3, h4, h5, h6⟩ := h
  unfold toS
  simp only [List.append_assoc]
  rw [gdS_put _ h1]
  simp only
  rw [gdS_put _ h2]
  simp only
  unfold intB
  rw [upS_put 8 _ (by omega) (by omega)]
  simp only
  rw [upS_put 8 _ (by omega) (by omega)]
  simp only
  rw [← h5, plS_put _ h6]
  simp only [Int.toNat_of_nonneg h3.1, Int.toNat_of_nonneg h4.1]
theorem mP_put (m : Mt) (h : Tight m) : mP (some (mBytes m)) = m := by
  have h1 : upS 8 (some (mBytes m)) = (m.live.length, some (intsB m.live ++ (numB m.snaps.length ++ (spsB m.snaps ++ tkB m.tok)))) := by
    unfold mBytes
    exact upS_put 8 _ h.b (by omega) _
  have h2 : liveS (some (mBytes m)) = (m.live, some (numB m.snaps.length ++ (spsB m.snaps ++ tkB m.tok))) := by
    unfold liveS
    rw [h1]
    exact plS_put _ h.live _
  have h3 : allS (some (mBytes m)) = (m.snaps, some (tkB m.tok)) := by
    unfold allS
    rw [h2, h1, upS_put 20 _ h.few (by omega)]
    exact snsS_put _ _ h.snaps _
  unfold mP
  rw [h3, h2, h1]
  dsimp only
  have ht := h.tok
  unfold tkB
  by_cases h0 : m.tok.target = (0, 0)
  · rw [if_pos h0] at ht
    rw [if_pos h0]
    have := numS_put 0 (by omega) []
    rw [List.append_nil] at this
    rw [this, if_neg (by decide), ← ht]
  · rw [if_neg h0] at ht
    rw [if_neg h0, numS_put 1 (by omega)]
    simp only [if_true]
    have := toS_put m.live.length m.tok ht []
    rw [List.append_nil] at this
    rw [this]
theorem tight_of {m : Mt} (hB : mB m) (h : mCheck m m.live.length 1024 = 0) : Tight m := by
  obtain ⟨hok, hl1, hl8, hs20⟩ := check_ok hB h
  unfold mCheck at h
  split at h
  · rename_i h1
    exact absurd h h1
  rename_i h1
  have h1' : iCheck m.live m.live.length 1024 = 0 := Classical.byContradiction h1
  split at h
  · cases h
  split at h
  · rename_i h3
    exact absurd h h3
  rename_i h3
  have h3' := Classical.byContradiction h3
  have tg : ∀ {l : List Int} {b : Int}, iCheck l b 1024 = 0 → tight l := fun h z hz => by
    rcases (iCheck_ok h).2.2.2 z hz with h | h <;> omega
  refine ⟨hl8, tg h1', hs20, fun s hs => ?_, ?_⟩
  · have := snChk_ok h3' s hs
    have hi := iCheck_ok this
    exact ⟨hB.snaps s hs, by omega, tg this⟩
  · have ht := hok.tok
    unfold okTk at ht
    unfold tkChk at h
    by_cases h4 : m.tok.target = (0, 0)
    · rw [if_pos h4] at ht ⊢
      exact ht
    · rw [if_neg h4] at h ⊢
      split at h
      · cases h
      · rename_i h5
        unfold tkBad at h5
        simp only [Bool.or_eq_true, not_or, Bool.not_eq_true, decide_eq_true_eq] at h5
        obtain ⟨⟨⟨⟨_, _⟩, e3⟩, e4⟩, e5⟩ := h5
        have hi := iCheck_ok h
        exact ⟨hB.base, hB.target, by omega, by omega, by omega, tg h⟩
theorem toS_B (b : Nat) (s : St) : gdB (toS b s).1.base ∧ gdB (toS b s).1.target := ⟨gdS_B _, gdS_B _⟩
theorem mP_B (s : St) : mB (mP s) := by
  refine ⟨fun x hx => (snsS_ok _ _ _ x hx).2.2, ?_, ?_⟩
  · show gdB (if _ then _ else tk0 : Tk).base
    split
    · exact (toS_B _ _).1
    · exact gdB0
  · show gdB (if _ then _ else tk0 : Tk).target
    split
    · exact (toS_B _ _).2
    · exact gdB0
/-- What is answered. -/
theorem dec_is (s : List UInt8) : mDec s = if mEnc (mP (some s)) = (s, 0) then (mP (some s), 0) else (mt0, 4) := by
  by_cases h : mEnc (mP (some s)) = (s, 0)
  · rw [if_pos h]
    exact enc_back (mP_B _) h
  · rw [if_neg h]
    rcases dec_two s with ⟨m, h1⟩ | h1
    · exfalso
      have h2 := (dec_enc h1).1
      have h3 := enc_ok h2
      apply h
      rw [h3.2.1, mP_put m (tight_of (dec_B h1) h3.1), ← h3.2.1]
      exact h2
    · exact h1
end Go.Proofs.YtchdamlnbmngbaaDoor.mt.pg

/- The library's contracts for bits.Len64, laid at this program's numbers. -/
namespace Go.Proofs
open Go.Shelf
set_option maxRecDepth 100000
def Tryd.lays129_ren : Go.Shelf.Ren := ⟨fun | 129 => 82 | n => n, fun | 53 => 22 | 3 => 3 | 4 => 4 | 46 => 103 | 5 => 5 | 9 => 9 | n => n, fun | n => n⟩
theorem Tryd.lays129 : Go.Proofs.Lays.n129 Tryd.prog Tryd.lays129_ren := {
  mixed := by kernel_rfl
  f129 := Tryd.func82.trans (congrArg some (by kernel_rfl))
  t3 := Tryd.underlying3
  a3 := Tryd.isAgg3
  z3 := Tryd.sizeOf3
  v3 := Tryd.zeroValue3
  t4 := Tryd.underlying4
  a4 := Tryd.isAgg4
  z4 := Tryd.sizeOf4
  v4 := Tryd.zeroValue4
  t5 := Tryd.underlying5
  a5 := Tryd.isAgg5
  z5 := Tryd.sizeOf5
  v5 := Tryd.zeroValue5
  t9 := Tryd.underlying9
  a9 := Tryd.isAgg9
  z9 := Tryd.sizeOf9
  v9 := Tryd.zeroValue9
  t46 := Tryd.underlying103
  a46 := Tryd.isAgg103
  z46 := Tryd.sizeOf103
  v46 := Tryd.zeroValue103
  t53 := Tryd.underlying22
  a53 := Tryd.isAgg22
  z53 := Tryd.sizeOf22
  v53 := Tryd.zeroValue22 }
theorem Tryd.bits_Len64 (x : Int) (w : World) (h0 : 0 ≤ x) (h1 : x ≤ 18446744073709551615) :
    Calls Tryd.prog 82 #[.int .u64 x] w fun e w' => e = .returned (.int .i64 (Lib.bitLen x.toNat)) ∧ w' = w := Any.bits_Len64 Tryd.lays129 x w h0 h1
end Go.Proofs

/- The library's contracts for strings.Builder's WriteString and String, laid at this program's numbers. -/
namespace Go.Proofs
open Go.Shelf
set_option maxRecDepth 100000
def Tryd.lays166_ren : Go.Shelf.Ren := ⟨fun | 166 => 45 | 240 => 67 | 276 => 78 | n => n, fun | 0 => 0 | 3 => 3 | 4 => 4 | 9 => 9 | 20 => 20 | 37 => 61 | 70 => 65 | 72 => 67 | 75 => 72 | 164 => 104 | 5 => 5 | 80 => 75 | n => n, fun | n => n⟩
theorem Tryd.lays166 : Go.Proofs.Lays.n166 Tryd.prog Tryd.lays166_ren := {
  mixed := by kernel_rfl
  f166 := Tryd.func45.trans (congrArg some (by kernel_rfl))
  f240 := Tryd.func67.trans (congrArg some (by kernel_rfl))
  f276 := Tryd.func78.trans (congrArg some (by kernel_rfl))
  t0 := Tryd.underlying0
  a0 := Tryd.isAgg0
  z0 := Tryd.sizeOf0
  v0 := Tryd.zeroValue0
  t3 := Tryd.underlying3
  a3 := Tryd.isAgg3
  z3 := Tryd.sizeOf3
  v3 := Tryd.zeroValue3
  t4 := Tryd.underlying4
  a4 := Tryd.isAgg4
  z4 := Tryd.sizeOf4
  v4 := Tryd.zeroValue4
  t9 := Tryd.underlying9
  a9 := Tryd.isAgg9
  z9 := Tryd.sizeOf9
  v9 := Tryd.zeroValue9
  t20 := Tryd.underlying20
  a20 := Tryd.isAgg20
  z20 := Tryd.sizeOf20
  v20 := Tryd.zeroValue20
  t37 := Tryd.underlying61
  a37 := Tryd.isAgg61
  z37 := Tryd.sizeOf61
  v37 := Tryd.zeroValue61
  t70 := Tryd.underlying65
  a70 := Tryd.isAgg65
  z70 := Tryd.sizeOf65
  v70 := Tryd.zeroValue65
  t72 := Tryd.underlying67
  a72 := Tryd.isAgg67
  z72 := Tryd.sizeOf67
  v72 := Tryd.zeroValue67
  t75 := Tryd.underlying72
  a75 := Tryd.isAgg72
  z75 := Tryd.sizeOf72
  v75 := Tryd.zeroValue72
  t164 := Tryd.underlying104
  a164 := Tryd.isAgg104
  z164 := Tryd.sizeOf104
  v164 := Tryd.zeroValue104 }
theorem Tryd.Builder_Extra_166 : Builder.Extra Tryd.prog Tryd.lays166_ren := {
  sizeBuilder := by kernel_rfl
  liesBuilder := by kernel_rfl
  t5 := Tryd.underlying5
  a5 := Tryd.isAgg5
  z5 := Tryd.sizeOf5
  v5 := Tryd.zeroValue5
  infoByte := by kernel_rfl
  cellsByte := by kernel_rfl
  sizeByte := by kernel_rfl
  neB5 := by decide }
open Go.RowKit in
theorem Tryd.Builder_WriteString (B b : Nat) (bs : List Value) (s : ByteArray) (w : World) (h : Lib.IsBuilder 67 5 B b bs w) (hlen : bs.length + s.size ≤ 140737488355328) (hBw : B ≤ w.heap.size) :
    Calls Tryd.prog 45 #[.pointer (some ⟨b, 0, none⟩), .string s] w fun e w' => e = .returned (.tuple #[.int .i64 s.size, .nilIface]) ∧ (Lib.BuilderAt 67 5 B b (.pointer (some ⟨b, 0, none⟩)) (bs ++ Lib.strCells s) w' ∧ Below B w w') := Any.Builder_WriteString Tryd.lays166 Tryd.Builder_Extra_166 B b bs s w h hlen hBw
def Tryd.lays169_ren : Go.Shelf.Ren := ⟨fun | 169 => 46 | n => n, fun | 70 => 65 | 9 => 9 | 0 => 0 | 72 => 67 | 37 => 61 | 127 => 94 | 3 => 3 | 5 => 5 | n => n, fun | n => n⟩
theorem Tryd.lays169 : Go.Proofs.Lays.n169 Tryd.prog Tryd.lays169_ren := {
  mixed := by kernel_rfl
  f169 := Tryd.func46.trans (congrArg some (by kernel_rfl))
  t0 := Tryd.underlying0
  a0 := Tryd.isAgg0
  z0 := Tryd.sizeOf0
  v0 := Tryd.zeroValue0
  t3 := Tryd.underlying3
  a3 := Tryd.isAgg3
  z3 := Tryd.sizeOf3
  v3 := Tryd.zeroValue3
  t9 := Tryd.underlying9
  a9 := Tryd.isAgg9
  z9 := Tryd.sizeOf9
  v9 := Tryd.zeroValue9
  t37 := Tryd.underlying61
  a37 := Tryd.isAgg61
  z37 := Tryd.sizeOf61
  v37 := Tryd.zeroValue61
  t70 := Tryd.underlying65
  a70 := Tryd.isAgg65
  z70 := Tryd.sizeOf65
  v70 := Tryd.zeroValue65
  t72 := Tryd.underlying67
  a72 := Tryd.isAgg67
  z72 := Tryd.sizeOf67
  v72 := Tryd.zeroValue67
  t127 := Tryd.underlying94
  a127 := Tryd.isAgg94
  z127 := Tryd.sizeOf94
  v127 := Tryd.zeroValue94 }
theorem Tryd.Builder_Extra_169 : Builder.Extra Tryd.prog Tryd.lays169_ren := {
  sizeBuilder := by kernel_rfl
  liesBuilder := by kernel_rfl
  t5 := Tryd.underlying5
  a5 := Tryd.isAgg5
  z5 := Tryd.sizeOf5
  v5 := Tryd.zeroValue5
  infoByte := by kernel_rfl
  cellsByte := by kernel_rfl
  sizeByte := by kernel_rfl
  neB5 := by decide }
open Go.RowKit in
theorem Tryd.Builder_String_any (B b : Nat) (l : List UInt8) (w : World) (h : Lib.IsBuilder 67 5 B b (Lib.byteCells l) w) (hBw : B ≤ w.heap.size) :
    Calls Tryd.prog 46 #[.pointer (some ⟨b, 0, none⟩)] w fun e w' => e = .returned (.string ⟨l.toArray⟩) ∧ Below B w w' := Any.Builder_String_any Tryd.lays169 Tryd.Builder_Extra_169 B b l w h hBw
end Go.Proofs

/- What the calls that lay numbers and texts as bytes do: count, size, digits, put, PutNum and PutText of package wire, one contract each. -/
namespace Go.Proofs.YtchdamlnbmngbaaDoor.wi
open Go.RowKit
set_option maxRecDepth 100000


set_option maxHeartbeats 400000 in
theorem count_any (n : Int) (w : World) (h0 : 0 ≤ n) (h1 : n ≤ 18446744073709551615) :
    Calls Tryd.prog 75 #[.int .u64 n] w fun e w' => e = .returned (.int .i64 ((digs n.toNat).length : Nat)) ∧ w = w' := by
  have hc := count_eq n.toNat (by omega)
  have hb : Lib.bitLen n.toNat ≤ 64 := Lib.bitLen_le _ 64 (by omega) (by omega)
  have e1 : ((digs n.toNat).length : Int) = ((Lib.bitLen n.toNat : Nat) + 7 : Int) / 8 := by omega
  have E1 := Lib.hid e1
  clear e1 hc
  go_enter Tryd.func75, Tryd.ntmps75
  go_wp2_with (go_at_call 82; refine (Tryd.bits_Len64 n _ h0 h1).mono ?_; rintro e w' ⟨rfl, rfl⟩)
  go_ret
  exact ⟨by rw [E1.out]; rfl, rfl⟩


def okSize (n : Nat) (w : World) (e : Ending) (w' : World) : Prop :=
  e = .returned (.string (str [UInt8.ofNat (digs n).length])) ∧ Below w.heap.size w w'

theorem conv1 (k : Nat) (hk : k < 256) (w : World) :
    (convert 61 9 (.slice (some ⟨w.heap.size, 0, none⟩) 1 1)).run Tryd.prog (w.alloc (.cells #[.int .u8 (k : Int)] 5)) = .ok (.string (str [UInt8.ofNat k])) (w.alloc (.cells #[.int .u8 (k : Int)] 5)) := by
  refine run_convert_bytes_back (P := Tryd.prog) _ 61 9 5 ⟨w.heap.size, 0, none⟩ 1 [UInt8.ofNat k] Tryd.underlying61 Tryd.underlying5 Tryd.underlying9 ?_
  intro j hj
  have : j = 0 := by simpa using hj
  subst this
  have e : (UInt8.ofNat k).toNat = k := ofNat_small k hk
  simp [Addr.add, e, World.cell?, World.alloc, -World.alloc_eq]

set_option maxHeartbeats 400000 in
theorem size_any (n : Int) (w : World) (h0 : 0 ≤ n) (h1 : n ≤ 18446744073709551615) :
    Calls Tryd.prog 59 #[.int .u64 n] w (okSize n.toNat w) := by
  have hl := digs_len n.toNat
  have hcv := conv1 (digs n.toNat).length (by omega) w
  go_enter Tryd.func59, Tryd.ntmps59
  go_wp2_with (go_at_call 75; refine (count_any n _ h0 h1).mono ?_; rintro e w' ⟨rfl, rfl⟩)
  go_ret
  exact ⟨rfl, (Below.refl _ _).alloc (Nat.le_refl _) _⟩


def digCells (D : List UInt8) (k : Nat) : List Value := List.replicate k (.int .u8 0) ++ Lib.byteCells (D.drop k)

def okDigits (n : Nat) (w : World) (e : Ending) (w' : World) : Prop :=
  e = .returned (.string (str (digs n))) ∧ Below w.heap.size w w'

def DigRel (D : List UInt8) (w : World) (n i : Value) (wr : World) : Prop :=
  ∃ k m : Nat, i = .int .i64 ((k : Int) - 1) ∧ n = .int .u64 (m : Int) ∧ m < 18446744073709551616 ∧ digs m = D.take k ∧ k ≤ D.length ∧
    wr.ownsRow w.heap.size 5 1 (.slice (some ⟨w.heap.size, 0, none⟩) D.length D.length) D.length (digCells D k) ∧ Below w.heap.size w wr

theorem digCells_len (D : List UInt8) (k : Nat) (h : k ≤ D.length) : (digCells D k).length = D.length := by
  simp [digCells, Lib.byteCells_length]; omega

theorem digCells_set (D : List UInt8) (k : Nat) (h : k < D.length) : (digCells D (k + 1)).set k (.int .u8 (D[k].toNat : Int)) = digCells D k := by
  unfold digCells
  rw [List.replicate_succ', List.append_assoc, List.set_append_right _ _ (by simp), List.length_replicate, Nat.sub_self, List.drop_eq_getElem_cons h]
  rfl

theorem dig_last (D : List UInt8) (m k : Nat) (hm : m < 18446744073709551616) (hk : k < D.length) (h : digs m = D.take (k + 1)) :
    m ≠ 0 ∧ digs (m / 256) = D.take k ∧ D[k].toNat = m % 256 := by
  have h0 : m ≠ 0 := by
    intro e
    subst e
    have := congrArg List.length h
    simp [digs_zero] at this
    omega
  have e := digs_pos m h0 hm
  rw [h, List.take_succ_eq_append_getElem hk] at e
  have e' := List.append_inj' e rfl
  refine ⟨h0, e'.1.symm, ?_⟩
  have := e'.2
  simp at this
  rw [this, ofNat_small _ (by omega)]

set_option maxHeartbeats 400000 in
theorem digits_any (n : Int) (w : World) (h0 : 0 ≤ n) (h1 : n ≤ 18446744073709551615) :
    Calls Tryd.prog 60 #[.int .u64 n] w (okDigits n.toNat w) := by
  have hl := digs_len n.toNat
  obtain ⟨i0, hi, hz0, hz1, hz2⟩ := info_parts Tryd.info5
  have hmk := run_make (P := Tryd.prog) w 61 5 i0 (.int .u8 0) Tryd.underlying61 hi hz0 .i64 .i64 ((digs n.toNat).length : Int) ((digs n.toNat).length : Int) (by omega) (by omega) (by rw [hz2]; omega) (by omega)
  have hown0 : (w.alloc (.cells (madeCells #[.int .u8 0] (digs n.toNat).length) 5)).ownsRow w.heap.size 5 1 (.slice (some ⟨w.heap.size, 0, none⟩) (digs n.toNat).length (digs n.toNat).length) (digs n.toNat).length (digCells (digs n.toNat) (digs n.toNat).length) := by
    have := World.ownsRow_lit (e := 5) (size := 1) (base := w.heap.size) w (madeCells #[.int .u8 0] (digs n.toNat).length) (digs n.toNat).length (Nat.le_refl _) (by unfold maxLen; omega) (by simp [size_madeCells])
    have e : (madeCells #[.int .u8 0] (digs n.toNat).length).toList = digCells (digs n.toNat) (digs n.toNat).length := by
      apply List.ext_getElem?
      intro j
      by_cases hj : j < (digs n.toNat).length <;> simp [madeCells, digCells, Lib.byteCells, hj, Nat.mod_one]
    rw [← e]
    exact this
  have hb0 : Below w.heap.size w (w.alloc (.cells (madeCells #[.int .u8 0] (digs n.toNat).length) 5)) := (Below.refl _ _).alloc (Nat.le_refl _) _
  have hn : ((n.toNat : Nat) : Int) = n := by omega
  have Hn := Lib.hid hn
  clear hn
  rw [hz1] at hmk
  clear hi hz0 hz1 hz2
  go_enter Tryd.func60, Tryd.ntmps60
  go_wp2_with (go_at_call 75; refine (count_any n _ h0 h1).mono ?_; rintro e w' ⟨rfl, rfl⟩)
  go_loopw [0, 4] (fun n' i wr => DigRel (digs n.toNat) w n' i wr) (fun _ i _ => (intOf i + 1).toNat)
  case atStart => exact ⟨(digs n.toNat).length, n.toNat, rfl, by rw [Hn.out], by omega, by simp, Nat.le_refl _, hown0, hb0⟩
  case round =>
    obtain ⟨k, m, rfl, rfl, hm, hd, hk, hown, hb⟩ := hrel
    cases k with
    | zero =>
      have hcv := run_convert_bytes_back (P := Tryd.prog) wr 61 9 5 ⟨w.heap.size, 0, none⟩ (digs n.toNat).length (digs n.toNat) Tryd.underlying61 Tryd.underlying5 Tryd.underlying9 (by
        intro j hj
        have := hown.cellAt j (by omega)
        rw [addr_add, Nat.zero_add, this]
        simp [digCells, Lib.byteCells, List.getElem?_eq_getElem hj])
      have hcv' : (convert 61 9 (.slice (some ⟨w.heap.size, 0, none⟩) (digs n.toNat).length (digs n.toNat).length)).run Tryd.prog wr = .ok (.string (str (digs n.toNat))) wr := hcv
      clear hcv
      go_wp2
      go_ret
      exact ⟨rfl, hb⟩
    | succ k =>
      have hx := hown.cellAt k (by omega)
      rw [show (digCells (digs n.toNat) (k + 1))[k]? = some (.int .u8 0) from by simp [digCells, List.getElem?_append]] at hx
      have hf := hown.frozenAt k
      have hs := hown.stored k (.int .u8 (((digs n.toNat)[k]'(by omega)).toNat : Int))
      rw [digCells_set _ _ (by omega)] at hs
      obtain ⟨hs1, hs2⟩ := hs
      obtain ⟨hm0, hd', hlast⟩ := dig_last (digs n.toNat) m k hm (by omega) hd
      have Hs1 := Lib.hid hs1
      have Hs2 := Lib.hid hs2
      have Hd := Lib.hid hd'
      have Hl := Lib.hid hlast
      clear hs1 hs2 hd' hlast hd hown
      go_wp2
      have e : ((m : Int) % 256) = (((digs n.toNat)[k]'(by omega)).toNat : Int) := by rw [Hl.out]; omega
      rw [e]
      exact ⟨⟨k, m / 256, rfl, rfl, by omega, Hd.out, by omega, Hs1.out, hb.grown Hs2.out (by have := hb.size; omega) (fun j hj => by cases hj; exact Nat.le_refl _)⟩, by simp [intOf]⟩

theorem size_nat (n : Nat) (w : World) (h : n < 18446744073709551616) : Calls Tryd.prog 59 #[.int .u64 (n : Int)] w (okSize n w) := by
  have := size_any (n : Int) w (by omega) (by omega)
  rwa [Int.toNat_natCast] at this

theorem digits_nat (n : Nat) (w : World) (h : n < 18446744073709551616) : Calls Tryd.prog 60 #[.int .u64 (n : Int)] w (okDigits n w) := by
  have := digits_any (n : Int) w (by omega) (by omega)
  rwa [Int.toNat_natCast] at this

/-- The cells of a slice of strings. -/
def StrCells (w : World) (b o : Nat) (ps : List ByteArray) : Prop := ∀ i (h : i < ps.length), w.cell? ⟨b, o + i, none⟩ = some (.string ps[i])

def okPut (s : ByteArray) (ps : List ByteArray) (w : World) (e : Ending) (w' : World) : Prop :=
  e = .returned (.string (str (bl s ++ flat ps))) ∧ Below w.heap.size w w'

def PutRel (s : ByteArray) (ps : List ByteArray) (w : World) (i : Value) (wr : World) : Prop :=
  ∃ k : Nat, k ≤ ps.length ∧ i = .int .i64 (k : Int) ∧ Lib.IsBuilder 67 5 w.heap.size w.heap.size (Lib.byteCells (bl s ++ flat (ps.take k))) wr ∧ Below w.heap.size w wr

set_option maxHeartbeats 400000 in
theorem put_any (s : ByteArray) (b o c : Nat) (ps : List ByteArray) (w : World) (hb : b < w.heap.size) (hc : StrCells w b o ps) (hl : ps.length ≤ 1000000) (hs : s.size + (flat ps).length ≤ 140737488355328) :
    Calls Tryd.prog 58 #[.string s, .slice (some ⟨b, o, none⟩) ps.length c] w (okPut s ps w) := by
  have h0 : Lib.IsBuilder 67 5 w.heap.size w.heap.size [] (w.alloc (.cells #[.pointer none, .slice none 0 0] 67)) := Lib.fresh_isBuilder 67 5 w
  have b0 : Below w.heap.size w (w.alloc (.cells #[.pointer none, .slice none 0 0] 67)) := (Below.refl _ w).alloc (Nat.le_refl _) _
  go_enter Tryd.func58, Tryd.ntmps58
  go_wp2_with (go_at_call 45; refine (Tryd.Builder_WriteString w.heap.size w.heap.size [] s _ h0 (by simp; omega) b0.size).mono ?_)
  rintro e W1 ⟨rfl, h1, b1⟩
  have h1' : Lib.IsBuilder 67 5 w.heap.size w.heap.size (Lib.byteCells (bl s)) W1 := by
    rw [List.nil_append, Lib.strCells_eq] at h1
    exact Or.inr h1
  have b1' := b0.trans b1
  clear h1 b1 h0 b0
  go_wp2
  go_loopw [12] (fun i wr => PutRel s ps w i wr) (fun i _ => ps.length - (intOf i).toNat)
  case atStart => exact ⟨0, Nat.zero_le _, rfl, by simpa [flat] using h1', b1'⟩
  case round =>
    obtain ⟨k, hk, rfl, hI, hB⟩ := hrel
    by_cases hlt : k < ps.length
    · have hcell : wr.cell? ⟨b, o + k, none⟩ = some (.string ps[k]) := by
        rw [hB.cell (p := ⟨b, o + k, none⟩) hb]; exact hc k hlt
      have hfl := flat_snoc ps k hlt
      have hfm := flat_take_len ps (k + 1)
      have hbl := bl_len s
      have hbp := bl_len ps[k]
      have hlen : (Lib.byteCells (bl s ++ flat (ps.take k))).length + ps[k].size ≤ 140737488355328 := by
        rw [Lib.byteCells_length]
        rw [hfl] at hfm
        simp at hfm ⊢
        omega
      have Hfl := Lib.hid hfl
      clear hfl hfm hbl hbp
      go_wp2_with (go_at_call 45; refine (Tryd.Builder_WriteString w.heap.size w.heap.size _ ps[k] _ hI hlen hB.size).mono ?_)
      rintro e W2 ⟨rfl, h2, b2⟩
      have h2' : Lib.IsBuilder 67 5 w.heap.size w.heap.size (Lib.byteCells (bl s ++ flat (ps.take (k + 1)))) W2 := by
        rw [Lib.strCells_eq, ← Lib.byteCells_append] at h2
        rw [Hfl.out, ← List.append_assoc]
        exact Or.inr h2
      have b2' := hB.trans b2
      clear h2 b2 hI hB
      go_wp2
      go_roundw
      case rel => exact ⟨k + 1, by omega, by go_num, h2', b2'⟩
      case measure => simp [intOf]; omega
    · have hk' : k = ps.length := by omega
      subst hk'
      rw [List.take_length] at hI
      go_wp2_with (go_at_call 46; refine (Tryd.Builder_String_any w.heap.size w.heap.size _ _ hI hB.size).mono ?_)
      rintro e W2 ⟨rfl, b2⟩
      have b2' := hB.trans b2
      clear b2 hI hB
      go_wp2
      go_ret
      exact ⟨rfl, b2'⟩

theorem strCells_new (ps : List ByteArray) (w : World) : StrCells (w.alloc (.cells (ps.map Value.string).toArray 9)) w.heap.size 0 ps := by
  intro i h
  simp [World.cell?, World.alloc, -World.alloc_eq]

theorem strCells_two (a b : ByteArray) (w : World) : StrCells (w.alloc (.cells #[.string a, .string b] 9)) w.heap.size 0 [a, b] := strCells_new [a, b] w
theorem strCells_three (a b c : ByteArray) (w : World) : StrCells (w.alloc (.cells #[.string a, .string b, .string c] 9)) w.heap.size 0 [a, b, c] := strCells_new [a, b, c] w

def okPutNum (s : ByteArray) (n : Nat) (w : World) (e : Ending) (w' : World) : Prop :=
  e = .returned (.string (str (bl s ++ numB n))) ∧ Below w.heap.size w w'

set_option maxHeartbeats 400000 in
theorem putNum_any (s : ByteArray) (n : Int) (w : World) (h0 : 0 ≤ n) (h1 : n ≤ 18446744073709551615) (hs : s.size ≤ 140737488355000) :
    Calls Tryd.prog 37 #[.string s, .int .u64 n] w (okPutNum s n.toNat w) := by
  have hl := digs_len n.toNat
  go_enter Tryd.func37, Tryd.ntmps37
  go_wp2_with (go_at_call 59; refine (size_any n _ h0 h1).mono ?_)
  rintro e W1 ⟨rfl, b1⟩
  go_wp2_with (go_at_call 60; refine (digits_any n _ h0 h1).mono ?_)
  rintro e W2 ⟨rfl, b2⟩
  go_wp2_with (go_at_call 58; refine (put_any s W2.heap.size 0 2 [str [UInt8.ofNat (digs n.toNat).length], str (digs n.toNat)] _ ?_ (strCells_two _ _ _) (by simp) ?_).mono ?_)
  · simp
  · simp [flat, bl_str]; omega
  · rintro e W3 ⟨rfl, b3⟩
    have b' := below_step (below_new (below_step b1 b2) _) b3
    clear b1 b2 b3
    go_wp2
    go_ret
    exact ⟨by simp [flat, bl_str, numB], b'⟩

theorem putNum_nat (s : ByteArray) (n : Nat) (w : World) (h : n < 18446744073709551616) (hs : s.size ≤ 140737488355000) :
    Calls Tryd.prog 37 #[.string s, .int .u64 (n : Int)] w (okPutNum s n w) := by
  have := putNum_any s (n : Int) w (by omega) (by omega) hs
  rwa [Int.toNat_natCast] at this

end Go.Proofs.YtchdamlnbmngbaaDoor.wi

/- What one block alone is turned. -/
namespace Go.Proofs.YtchdamlnbmngbaaDoor.wi
open Go.RowKit
set_option maxRecDepth 100000

theorem grown_trans {w w1 w2 : World} {r : Option Nat} (h : w.grownBy w1 r) (k : w1.grownBy w2 r) : w.grownBy w2 r :=
  ⟨k.os.trans h.os, k.tape.trans h.tape, k.output.trans h.output, Nat.le_trans h.size k.size,
    fun i hi hr => (k.block i (Nat.lt_of_lt_of_le hi h.size) hr).trans (h.block i hi hr)⟩

theorem grown_refl (w : World) (r : Option Nat) : w.grownBy w r := ⟨rfl, rfl, rfl, Nat.le_refl _, fun _ _ _ => rfl⟩


theorem val_step (l : List UInt8) (k : Nat) (h : k < l.length) : val (l.take (k + 1)) = val (l.take k) * 256 + l[k].toNat := by
  rw [List.take_succ_eq_append_getElem h, val_snoc]

end Go.Proofs.YtchdamlnbmngbaaDoor.wi

/- What a reader of package wire is in memory, and what making one, asking it and cutting bytes off it does. -/
namespace Go.Proofs.YtchdamlnbmngbaaDoor.wi
open Go.RowKit
set_option maxRecDepth 100000

/-- Cells o, o + 1 .. of block g hold the bytes l. -/
def Row (w : World) (g o : Nat) (l : List UInt8) : Prop :=
  ∃ cs fr, w.heap[g]? = some (.cells cs 5 fr) ∧ ∀ i (h : i < l.length), cs[o + i]? = some (.int .u8 (l[i].toNat : Int))

/-- Block b is a reader that has l left, in block g from o on. -/
def RdOf (b g o cap : Nat) (l : List UInt8) (bad : Bool) (w : World) : Prop :=
  w.heap[b]? = some (.cells #[.slice (some ⟨g, o, none⟩) l.length cap, .bool bad] 99 (0, 0)) ∧ Row w g o l ∧ l.length ≤ cap ∧ l.length ≤ 140737488355328

/-- Block b is a reader that has l left. -/
def RdAt (b : Nat) (l : List UInt8) (bad : Bool) (w : World) : Prop := ∃ g o cap, RdOf b g o cap l bad w

theorem lt_of_some {w : World} {b : Nat} {o : Obj} (h : w.heap[b]? = some o) : b < w.heap.size := by
  rcases Nat.lt_or_ge b w.heap.size with h' | h'
  · exact h'
  · simp [Array.getElem?_eq_none h'] at h

theorem Row.cell {w : World} {g o : Nat} {l : List UInt8} (h : Row w g o l) (i : Nat) (hi : i < l.length) : w.cell? ⟨g, o + i, none⟩ = some (.int .u8 (l[i].toNat : Int)) := by
  obtain ⟨cs, fr, hg, hc⟩ := h
  simp [World.cell?, hg, hc i hi]

theorem Row.keep {w w' : World} {g o : Nat} {l : List UInt8} (h : Row w g o l) (hk : w'.heap[g]? = w.heap[g]?) : Row w' g o l := by
  obtain ⟨cs, fr, hg, hc⟩ := h
  exact ⟨cs, fr, hk.trans hg, hc⟩

theorem Row.drop {w : World} {g o : Nat} {l : List UInt8} (h : Row w g o l) (n : Nat) : Row w g (o + n) (l.drop n) := by
  obtain ⟨cs, fr, hg, hc⟩ := h
  refine ⟨cs, fr, hg, fun i hi => ?_⟩
  have := hc (n + i) (by simp at hi; omega)
  rw [Nat.add_assoc, this]
  simp

theorem Row.take {w : World} {g o : Nat} {l : List UInt8} (h : Row w g o l) (n : Nat) : Row w g o (l.take n) := by
  obtain ⟨cs, fr, hg, hc⟩ := h
  refine ⟨cs, fr, hg, fun i hi => ?_⟩
  have := hc i (by simp at hi; omega)
  rw [this]
  simp

theorem Row.nil0 {w : World} {g o : Nat} {l : List UInt8} (h : Row w g o l) (o' : Nat) : Row w g o' [] := by
  obtain ⟨cs, fr, hg, _⟩ := h
  exact ⟨cs, fr, hg, fun i hi => by simp at hi⟩

/-- A reader stays as it is where no block that was there has turned but one of another reader. -/
theorem RdAt.keep {b c : Nat} {l m : List UInt8} {x y : Bool} {w w' : World} (h : RdAt b l x w) (k : RdAt c m y w) (hne : b ≠ c) (hg : w.grownBy w' (some c)) : RdAt b l x w' := by
  obtain ⟨g, o, cap, hb, hr, h1, h2⟩ := h
  obtain ⟨_, _, _, hc, _⟩ := k
  have hgc : g ≠ c := by
    intro e
    subst e
    obtain ⟨cs, fr, hg', _⟩ := hr
    rw [hc] at hg'
    simp at hg'
  have hgl : g < w.heap.size := by obtain ⟨cs, fr, hg', _⟩ := hr; exact lt_of_some hg'
  exact ⟨g, o, cap, (hg.block b (lt_of_some hb) (by simpa using hne)).trans hb, hr.keep (hg.block g hgl (by simpa using hgc)), h1, h2⟩

theorem RdAt.below {b : Nat} {l : List UInt8} {x : Bool} {w w' : World} (h : RdAt b l x w) (hg : Below w.heap.size w w') : RdAt b l x w' := by
  obtain ⟨g, o, cap, hb, hr, h1, h2⟩ := h
  have hgl : g < w.heap.size := by obtain ⟨cs, fr, hg', _⟩ := hr; exact lt_of_some hg'
  exact ⟨g, o, cap, (hg.block b (lt_of_some hb)).trans hb, hr.keep (hg.block g hgl), h1, h2⟩

theorem RdAt.lt {b : Nat} {l : List UInt8} {x : Bool} {w : World} (h : RdAt b l x w) : b < w.heap.size := by
  obtain ⟨_, _, _, hb, _⟩ := h
  exact lt_of_some hb

def okNew (s : ByteArray) (w : World) (e : Ending) (w' : World) : Prop :=
  ∃ b, e = .returned (.pointer (some ⟨b, 0, none⟩)) ∧ w.heap.size ≤ b ∧ RdAt b (bl s) false w' ∧ Below w.heap.size w w'

set_option maxHeartbeats 400000 in
theorem new_any (s : ByteArray) (w : World) (hs : s.size ≤ 140737488355328) :
    Calls Tryd.prog 52 #[.string s] w (okNew s w) := by
  have hcv := Lib.run_convert_string_bytes (P := Tryd.prog) w 9 61 5 s Tryd.underlying9 Tryd.underlying61 Tryd.underlying5
  have hsz := Lib.bytesWorld_size w 5 s
  have hnew := Lib.bytesWorld_at_new w 5 s
  have hold := Lib.bytesWorld_at_old w 5 s
  have hcap := grownCap_ge w s.size 0 5
  have hcell : ∀ i (h : i < (bl s).length), (Lib.bytesCells w 5 s)[0 + i]? = some (.int .u8 ((bl s)[i].toNat : Int)) := by
    intro i hi
    have hi' : i < s.size := by rw [← bl_len]; exact hi
    have := Lib.bytesWorld_cell w 5 s i hi'
    simp [World.cell?, hnew] at this
    rw [Nat.zero_add, this]
    simp [bl, hi']
  have hos : (Lib.bytesWorld w 5 s).os = w.os ∧ (Lib.bytesWorld w 5 s).tape = w.tape ∧ (Lib.bytesWorld w 5 s).output = w.output := ⟨rfl, rfl, rfl⟩
  have hbel : Below w.heap.size w (Lib.bytesWorld w 5 s) := ⟨hos.1, hos.2.1, hos.2.2, by omega, fun k hk => hold k hk⟩
  have hlen := bl_len s
  generalize Lib.bytesWorld w 5 s = W1 at *
  generalize grownCap w s.size 0 5 = cap at *
  have Hsz := Lib.hid hsz
  have Hnew := Lib.hid hnew
  have Hcell := Lib.hid hcell
  have Hlen := Lib.hid hlen
  clear hsz hnew hcell hold hos hlen
  go_enter Tryd.func52, Tryd.ntmps52
  go_wp2
  go_ret
  have Hl := Hlen.out
  have hW : (W1.alloc (.cells #[.slice (some ⟨w.heap.size, 0, none⟩) s.size cap, .bool false] 99)).heap[W1.heap.size]? = some (.cells #[.slice (some ⟨w.heap.size, 0, none⟩) s.size cap, .bool false] 99 (0, 0)) := by
    show (W1.heap.push _)[W1.heap.size]? = _
    simp
  have hO := Below.heap_alloc W1 (.cells #[.slice (some ⟨w.heap.size, 0, none⟩) s.size cap, .bool false] 99) w.heap.size (by have := Hsz.out; omega)
  refine ⟨W1.heap.size, rfl, by have := Hsz.out; omega, ⟨w.heap.size, 0, cap, by rw [Hl]; exact hW, ⟨_, _, hO.trans Hnew.out, Hcell.out⟩, by omega, by omega⟩, below_new hbel _⟩

/-! ### Asking -/

theorem ok_yes (b : Nat) (l : List UInt8) (w : World) (h : RdAt b l false w) :
    Calls Tryd.prog 73 #[.pointer (some ⟨b, 0, none⟩)] w fun e w' => e = .returned (.bool true) ∧ w = w' := by
  obtain ⟨g, o, cap, hb, _⟩ := h
  have h1 : w.cell? ⟨b, 1, none⟩ = some (.bool false) := by simp [World.cell?, hb]
  clear hb
  go_enter Tryd.func73, Tryd.ntmps73
  go_wp2
  go_ret
  exact ⟨rfl, rfl⟩

theorem ok_no (b : Nat) (l : List UInt8) (w : World) (h : RdAt b l true w) :
    Calls Tryd.prog 73 #[.pointer (some ⟨b, 0, none⟩)] w fun e w' => e = .returned (.bool false) ∧ w = w' := by
  obtain ⟨g, o, cap, hb, _⟩ := h
  have h1 : w.cell? ⟨b, 1, none⟩ = some (.bool true) := by simp [World.cell?, hb]
  clear hb
  go_enter Tryd.func73, Tryd.ntmps73
  go_wp2
  go_ret
  exact ⟨rfl, rfl⟩

theorem ok_nil (w : World) :
    Calls Tryd.prog 73 #[.pointer none] w fun e w' => e = .returned (.bool false) ∧ w = w' := by
  go_enter Tryd.func73, Tryd.ntmps73
  go_wp2
  go_ret
  exact ⟨rfl, rfl⟩

/-! ### Cutting -/

def tailOff (o len n : Nat) : Nat := if len = n then o else o + n

def okTake (b g o : Nat) (l : List UInt8) (n : Nat) (x : Bool) (w : World) (e : Ending) (w' : World) : Prop :=
  e = .returned (.tuple #[.slice (some ⟨g, o, none⟩) n n, .bool true]) ∧ RdOf b g (tailOff o l.length n) (l.length - n) (l.drop n) x w' ∧ w.grownBy w' (some b) ∧ Row w' g o (l.take n)

theorem slice_head (g o len cap : Nat) (n : Int) (h0 : 0 ≤ n) (hn : n.toNat ≤ cap) (w : World) :
    (Instr.slice 61 (.slice (some ⟨g, o, none⟩) len cap) none (some (.int .u64 n)) (some (.int .u64 n))).run Tryd.prog w = .ok (.slice (some ⟨g, o, none⟩) n.toNat n.toNat) w := by
  have h1 : n ≤ (cap : Int) := by omega
  rw [run_slice_any (P := Tryd.prog) w 61 (some ⟨g, o, none⟩) len cap Tryd.underlying61]
  simp [Instr.sliceBounds, run_sliceBound, h0, h1, go_sem]
  intro h
  omega


theorem slice_tail (g o len cap : Nat) (n : Int) (h0 : 0 ≤ n) (hn : n.toNat ≤ len) (hc : len ≤ cap) (w : World) :
    (Instr.slice 61 (.slice (some ⟨g, o, none⟩) len cap) (some (.int .u64 n)) (some (.int .i64 (len : Int))) (some (.int .i64 (len : Int)))).run Tryd.prog w = .ok (.slice (some ⟨g, tailOff o len n.toNat, none⟩) (len - n.toNat) (len - n.toNat)) w := by
  have h1 : n ≤ (len : Int) := by omega
  have h2 : (len : Int) ≤ (cap : Int) := by omega
  rw [run_slice_any (P := Tryd.prog) w 61 (some ⟨g, o, none⟩) len cap Tryd.underlying61]
  unfold tailOff
  by_cases hl : len = n.toNat
  · simp [Instr.sliceBounds, run_sliceBound, h0, h1, hc, go_sem]
    rw [if_pos hl, if_pos hl]
  · simp [Instr.sliceBounds, run_sliceBound, h0, h1, hc, hl, go_sem]

theorem row_tail {w : World} {g o : Nat} {l : List UInt8} (h : Row w g o l) (n : Nat) : Row w g (tailOff o l.length n) (l.drop n) := by
  unfold tailOff
  split
  · have e : l.drop n = [] := by simp; omega
    rw [e]
    exact h.nil0 o
  · exact h.drop n

set_option maxHeartbeats 400000 in
theorem take_yes (b g o cap : Nat) (l : List UInt8) (x : Bool) (n : Int) (w : World) (hR : RdOf b g o cap l x w) (h0 : 0 ≤ n) (hn : n.toNat ≤ l.length) :
    Calls Tryd.prog 86 #[.pointer (some ⟨b, 0, none⟩), .int .u64 n] w (okTake b g o l n.toNat x w) := by
  obtain ⟨hb, hr, hc, hl⟩ := hR
  have h1 : w.cell? ⟨b, 0, none⟩ = some (.slice (some ⟨g, o, none⟩) l.length cap) := by simp [World.cell?, hb]
  have h2 : w.frozen? ⟨b, 0, none⟩ = false := by simp [World.frozen?, hb]
  have hs1 := slice_head g o l.length cap n h0 (by omega) w
  have hs2 := slice_tail g o l.length cap n h0 hn hc w
  have ht : ¬ ((l.length : Int) < n) := by omega
  have hw := heap_setCell_same w b 0 _ 99 (.slice (some ⟨g, tailOff o l.length n.toNat, none⟩) (l.length - n.toNat) (l.length - n.toNat)) hb
  have hgr : w.grownBy (w.setCell ⟨b, 0, none⟩ (.slice (some ⟨g, tailOff o l.length n.toNat, none⟩) (l.length - n.toNat) (l.length - n.toNat))) (some b) :=
    ⟨rfl, rfl, rfl, by simp [World.setCell], fun k _ hk => Below.heap_setCell _ _ _ _ (fun e => hk (by simp [e]))⟩
  have hgb : g ≠ b := by
    intro e
    subst e
    obtain ⟨cs, fr, hg', _⟩ := hr
    rw [hb] at hg'
    simp at hg'
  have hgk := Below.heap_setCell w ⟨b, 0, none⟩ (.slice (some ⟨g, tailOff o l.length n.toNat, none⟩) (l.length - n.toNat) (l.length - n.toNat)) g hgb
  have hr1 := (row_tail hr n.toNat).keep hgk
  have hr2 := (hr.take n.toNat).keep hgk
  have hfin : RdOf b g (tailOff o l.length n.toNat) (l.length - n.toNat) (l.drop n.toNat) x (w.setCell ⟨b, 0, none⟩ (.slice (some ⟨g, tailOff o l.length n.toNat, none⟩) (l.length - n.toNat) (l.length - n.toNat))) := by
    refine ⟨?_, hr1, by simp, by simp; omega⟩
    rw [hw]
    simp
  have Hf := Lib.hid hfin
  have Hg := Lib.hid hgr
  have Hr2 := Lib.hid hr2
  clear hfin hgr hr1 hr2 hgk hw hb
  go_enter Tryd.func86, Tryd.ntmps86
  go_wp2
  go_ret2
  exact ⟨rfl, Hf.out, Hg.out, Hr2.out⟩

def okTakeNo (w : World) (e : Ending) (w' : World) : Prop := e = .returned (.tuple #[.slice none 0 0, .bool false]) ∧ w = w'

set_option maxHeartbeats 400000 in
theorem take_no (b g o cap : Nat) (l : List UInt8) (x : Bool) (n : Int) (w : World) (hR : RdOf b g o cap l x w) (hn : (l.length : Int) < n) :
    Calls Tryd.prog 86 #[.pointer (some ⟨b, 0, none⟩), .int .u64 n] w (okTakeNo w) := by
  obtain ⟨hb, _, _, hl⟩ := hR
  have h1 : w.cell? ⟨b, 0, none⟩ = some (.slice (some ⟨g, o, none⟩) l.length cap) := by simp [World.cell?, hb]
  clear hb
  go_enter Tryd.func86, Tryd.ntmps86
  go_wp2
  go_ret2
  exact ⟨rfl, rfl⟩

end Go.Proofs.YtchdamlnbmngbaaDoor.wi

/- What reading a number and a text off a reader does: num, text, read, Num and Text of package wire. -/
namespace Go.Proofs.YtchdamlnbmngbaaDoor.wi
open Go.RowKit
set_option maxRecDepth 100000

def okNum (b : Nat) (l : List UInt8) (x : Bool) (w : World) (e : Ending) (w' : World) : Prop :=
  w.grownBy w' (some b) ∧
    ((∃ n r, rdNum l = some (n, r) ∧ e = .returned (.tuple #[.int .u64 (n : Int), .bool true]) ∧ RdAt b r x w') ∨
     (rdNum l = none ∧ e = .returned (.tuple #[.int .u64 0, .bool false]) ∧ ∃ m, RdAt b m x w'))

set_option maxHeartbeats 400000 in
theorem num_empty (b : Nat) (x : Bool) (w : World) (h : RdAt b [] x w) :
    Calls Tryd.prog 85 #[.func (.func 86) #[.pointer (some ⟨b, 0, none⟩)] #[]] w (okNum b [] x w) := by
  obtain ⟨g, o, cap, hR⟩ := h
  have hR' : RdAt b [] x w := ⟨g, o, cap, hR⟩
  go_enter Tryd.func85, Tryd.ntmps85
  go_wp2_with (go_at_call 86; refine (take_no b g o cap [] x 1 _ hR (by simp)).mono ?_; rintro e w' ⟨rfl, rfl⟩)
  go_ret2
  exact ⟨grown_refl _ _, .inr ⟨rfl, rfl, [], hR'⟩⟩

theorem Row.cell0 {w : World} {g o : Nat} {k : UInt8} {r : List UInt8} (h : Row w g o (k :: r)) : w.cell? ⟨g, o, none⟩ = some (.int .u8 (k.toNat : Int)) := by
  have := h.cell 0 (by simp)
  simpa using this

set_option maxHeartbeats 400000 in
theorem num_big (b : Nat) (k : UInt8) (r : List UInt8) (x : Bool) (w : World) (h : RdAt b (k :: r) x w) (hk : 8 < k.toNat) :
    Calls Tryd.prog 85 #[.func (.func 86) #[.pointer (some ⟨b, 0, none⟩)] #[]] w (okNum b (k :: r) x w) := by
  obtain ⟨g, o, cap, hR⟩ := h
  have hki : (8 : Int) < (k.toNat : Int) := by omega
  have hnone : rdNum (k :: r) = none := by simp [rdNum, hk]
  have Hn := Lib.hid hnone
  clear hnone
  go_enter Tryd.func85, Tryd.ntmps85
  go_wp2_with (go_at_call 86; refine (take_yes b g o cap (k :: r) x 1 _ hR (by decide) (by simp)).mono ?_)
  rintro e w1 ⟨rfl, h1, h2, h3⟩
  have hc : w1.cell? ⟨g, o, none⟩ = some (.int .u8 (k.toNat : Int)) := Row.cell0 (r := []) h3
  have H1 := Lib.hid h1
  have H2 := Lib.hid h2
  clear h1 h2 h3
  go_wp2
  go_ret2
  exact ⟨H2.out, .inr ⟨Hn.out, rfl, r, ⟨_, _, _, H1.out⟩⟩⟩

set_option maxHeartbeats 400000 in
theorem num_short (b : Nat) (k : UInt8) (r : List UInt8) (x : Bool) (w : World) (h : RdAt b (k :: r) x w) (hk : k.toNat ≤ 8) (hr : r.length < k.toNat) :
    Calls Tryd.prog 85 #[.func (.func 86) #[.pointer (some ⟨b, 0, none⟩)] #[]] w (okNum b (k :: r) x w) := by
  obtain ⟨g, o, cap, hR⟩ := h
  have hki : ¬ (8 : Int) < (k.toNat : Int) := by omega
  have hnone : rdNum (k :: r) = none := by simp [rdNum, Nat.not_lt.2 hk, hr]
  have Hn := Lib.hid hnone
  clear hnone
  go_enter Tryd.func85, Tryd.ntmps85
  go_wp2_with (go_at_call 86; refine (take_yes b g o cap (k :: r) x 1 _ hR (by decide) (by simp)).mono ?_)
  rintro e w1 ⟨rfl, h1, h2, h3⟩
  have hc : w1.cell? ⟨g, o, none⟩ = some (.int .u8 (k.toNat : Int)) := Row.cell0 (r := []) h3
  have H1 := Lib.hid h1
  have H2 := Lib.hid h2
  clear h1 h2 h3
  go_wp2_with (go_at_call 86; refine (take_no b g _ _ r x _ _ H1.out (by omega)).mono ?_; rintro e w' ⟨rfl, rfl⟩)
  go_ret2
  exact ⟨H2.out, .inr ⟨Hn.out, rfl, r, ⟨_, _, _, H1.out⟩⟩⟩

set_option maxHeartbeats 400000 in
theorem num_zero (b : Nat) (k : UInt8) (r : List UInt8) (x : Bool) (w : World) (h : RdAt b (k :: r) x w) (hk : k.toNat ≤ 8) (hr : k.toNat ≤ r.length) (h0 : (r.take k.toNat).head? = some 0) :
    Calls Tryd.prog 85 #[.func (.func 86) #[.pointer (some ⟨b, 0, none⟩)] #[]] w (okNum b (k :: r) x w) := by
  obtain ⟨g, o, cap, hR⟩ := h
  have hki : ¬ (8 : Int) < (k.toNat : Int) := by omega
  have hnone : rdNum (k :: r) = none := by simp [rdNum, Nat.not_lt.2 hk, Nat.not_lt.2 hr]; exact h0
  have Hn := Lib.hid hnone
  have hkp : (0 : Int) < (k.toNat : Int) := by
    have : k.toNat ≠ 0 := by
      intro e
      rw [e] at h0
      simp at h0
    omega
  have H0 := Lib.hid h0
  clear hnone h0
  go_enter Tryd.func85, Tryd.ntmps85
  go_wp2_with (go_at_call 86; refine (take_yes b g o cap (k :: r) x 1 _ hR (by decide) (by simp)).mono ?_)
  rintro e w1 ⟨rfl, h1, h2, h3⟩
  have hc : w1.cell? ⟨g, o, none⟩ = some (.int .u8 (k.toNat : Int)) := Row.cell0 (r := []) h3
  obtain ⟨o1, c1, h1⟩ : ∃ o1 c1, RdOf b g o1 c1 r x w1 := ⟨_, _, h1⟩
  have H1 := Lib.hid h1
  have H2 := Lib.hid h2
  clear h1 h2 h3
  go_wp2_with (go_at_call 86; refine (take_yes b g o1 c1 r x (k.toNat : Int) _ H1.out (by omega) (by omega)).mono ?_)
  rintro e w2 ⟨rfl, h1, h2, h3⟩
  rw [Int.toNat_natCast] at h1 h3
  have hc0 : w2.cell? ⟨g, o1, none⟩ = some (.int .u8 0) := by
    have e0 := H0.out
    cases hd : r.take k.toNat with
    | nil => rw [hd] at e0; simp at e0
    | cons y q =>
      rw [hd] at e0 h3
      simp at e0
      subst e0
      exact Row.cell0 h3
  have H3 := Lib.hid h1
  have H4 := Lib.hid h2
  clear h1 h2 h3 hc
  go_wp2
  go_ret2
  exact ⟨grown_trans H2.out H4.out, .inr ⟨Hn.out, rfl, _, ⟨_, _, _, H3.out⟩⟩⟩

end Go.Proofs.YtchdamlnbmngbaaDoor.wi

/- Reading a number's bytes that are good ones. -/
namespace Go.Proofs.YtchdamlnbmngbaaDoor.wi
open Go.RowKit
set_option maxRecDepth 100000


theorem or_byte (v z : Nat) (hv : v < 72057594037927936) (hz : z < 256) : bits BinOp.or IntKind.u64 ((v : Int) * 256) (z : Int) = ((v * 256 + z : Nat) : Int) := by
  have e : (v : Int) * 256 = ((v * 256 : Nat) : Int) := by omega
  rw [e, u64_or_nat _ _ (by omega) (by omega)]
  have := Nat.shiftLeft_add_eq_or_of_lt (i := 8) (b := z) (by omega) v
  rw [Nat.shiftLeft_eq, show (2 : Nat) ^ 8 = 256 from rfl] at this
  rw [← this]

def NumRel (d : List UInt8) (n i : Value) : Prop := ∃ j : Nat, j ≤ d.length ∧ i = .int .i64 (j : Int) ∧ n = .int .u64 (val (d.take j) : Int)

set_option maxHeartbeats 800000 in
theorem num_good (b : Nat) (k : UInt8) (r : List UInt8) (x : Bool) (w : World) (h : RdAt b (k :: r) x w) (hk : k.toNat ≤ 8) (hr : k.toNat ≤ r.length) (h0 : ¬ (r.take k.toNat).head? = some 0) :
    Calls Tryd.prog 85 #[.func (.func 86) #[.pointer (some ⟨b, 0, none⟩)] #[]] w (okNum b (k :: r) x w) := by
  obtain ⟨g, o, cap, hR⟩ := h
  have hki : ¬ (8 : Int) < (k.toNat : Int) := by omega
  have hsome : rdNum (k :: r) = some (val (r.take k.toNat), r.drop k.toNat) := by simp [rdNum, Nat.not_lt.2 hk, Nat.not_lt.2 hr, h0]
  have Hn := Lib.hid hsome
  have H0 := Lib.hid h0
  clear hsome h0
  go_enter Tryd.func85, Tryd.ntmps85
  go_wp2_with (go_at_call 86; refine (take_yes b g o cap (k :: r) x 1 _ hR (by decide) (by simp)).mono ?_)
  rintro e w1 ⟨rfl, h1, h2, h3⟩
  have hc : w1.cell? ⟨g, o, none⟩ = some (.int .u8 (k.toNat : Int)) := Row.cell0 (r := []) h3
  obtain ⟨o1, c1, h1⟩ : ∃ o1 c1, RdOf b g o1 c1 r x w1 := ⟨_, _, h1⟩
  have H1 := Lib.hid h1
  have H2 := Lib.hid h2
  clear h1 h2 h3
  go_wp2_with (go_at_call 86; refine (take_yes b g o1 c1 r x (k.toNat : Int) _ H1.out (by omega) (by omega)).mono ?_)
  rintro e w2 ⟨rfl, h1, h2, h3⟩
  rw [Int.toNat_natCast] at h1 h3
  have H3 := Lib.hid h1
  have H4 := Lib.hid h2
  have hlen : (r.take k.toNat).length = k.toNat := by simp; omega
  obtain ⟨d, hd⟩ : ∃ d, d = r.take k.toNat := ⟨_, rfl⟩
  have hE : Hid (rdNum (k :: r) = some (val d, r.drop k.toNat)) := by rw [hd]; exact Hn
  have hZ : Hid (¬ d.head? = some 0) := by rw [hd]; exact H0
  rw [← hd] at hlen h3
  clear hd Hn H0 h1 h2 hc hR
  have hkb : k.toNat ≤ 8 := hk
  cases d with
  | nil =>
    have hk0 : ¬ (0 : Int) < (k.toNat : Int) := by simp at hlen; omega
    have Hl := Lib.hid hlen
    have H5 := Lib.hid h3
    clear hlen h3 hZ
    go_wp2
    go_loop [7, 47] (fun n i => NumRel [] n i) (fun _ i => k.toNat - (intOf i).toNat)
    case atStart => exact ⟨0, Nat.zero_le _, rfl, rfl⟩
    case round =>
      obtain ⟨j, hj, rfl, rfl⟩ := hrel
      have hlt : ¬ j < k.toNat := by omega
      go_wp2
      go_ret2
      exact ⟨grown_trans H2.out H4.out, .inl ⟨val [], _, hE.out, by simp, _, _, _, H3.out⟩⟩
  | cons y q =>
    have hk0 : (0 : Int) < (k.toNat : Int) := by simp at hlen; omega
    have hc := Row.cell0 h3
    have hy : ((y.toNat : Int) == 0) = false := by
      have hz := hZ.out
      simp at hz
      have : y.toNat ≠ 0 := fun e => hz (by apply UInt8.toNat_inj.1; simpa using e)
      simp; omega
    have Hl := Lib.hid hlen
    have H5 := Lib.hid h3
    clear hlen h3 hZ
    go_wp2
    go_loop [7, 47] (fun n i => NumRel (y :: q) n i) (fun _ i => k.toNat - (intOf i).toNat)
    case atStart => exact ⟨0, Nat.zero_le _, rfl, rfl⟩
    case round =>
      obtain ⟨j, hj, rfl, rfl⟩ := hrel
      by_cases hlt : j < k.toNat
      · have hl := Hl.out
        have hc := H5.out.cell j (by omega)
        have hb : val ((y :: q).take j) < 72057594037927936 := by
          have a := val_lt ((y :: q).take j)
          have b : 256 ^ ((y :: q).take j).length ≤ 256 ^ 7 := Nat.pow_le_pow_right (by omega) (by rw [List.length_take]; omega)
          have e : (256 : Nat) ^ 7 = 72057594037927936 := by decide
          omega
        have hs := val_step (y :: q) j (by omega)
        have Hs := Lib.hid hs
        generalize val ((y :: q).take j) = v at *
        generalize (y :: q)[j] = z at *
        have hzb : z.toNat < 256 := z.toNat_lt
        clear hs
        go_wp2
        rw [or_byte v z.toNat hb hzb]
        exact ⟨⟨j + 1, by omega, by go_num, by rw [Hs.out]⟩, by simp [intOf]; omega⟩
      · have hl := Hl.out
        have hjl : j = (y :: q).length := by omega
        have ht : val ((y :: q).take j) = val (y :: q) := by rw [hjl, List.take_length]
        have Ht := Lib.hid ht
        clear ht hjl hl
        go_wp2
        go_ret2
        exact ⟨grown_trans H2.out H4.out, .inl ⟨val (y :: q), _, hE.out, by rw [← Ht.out]; rfl, _, _, _, H3.out⟩⟩

theorem num_any (b : Nat) (l : List UInt8) (x : Bool) (w : World) (h : RdAt b l x w) :
    Calls Tryd.prog 85 #[.func (.func 86) #[.pointer (some ⟨b, 0, none⟩)] #[]] w (okNum b l x w) := by
  cases l with
  | nil => exact num_empty b x w h
  | cons k r =>
    by_cases hk : k.toNat ≤ 8
    · by_cases hr : k.toNat ≤ r.length
      · by_cases h0 : (r.take k.toNat).head? = some 0
        · exact num_zero b k r x w h hk hr h0
        · exact num_good b k r x w h hk hr h0
      · exact num_short b k r x w h hk (by omega)
    · exact num_big b k r x w h (by omega)

end Go.Proofs.YtchdamlnbmngbaaDoor.wi

/- What reading a number off a reader does: read, Num of package wire. -/
namespace Go.Proofs.YtchdamlnbmngbaaDoor.wi
open Go.RowKit
set_option maxRecDepth 100000

theorem RdAt.flag {b : Nat} {l : List UInt8} {x : Bool} {w : World} (h : RdAt b l x w) (y : Bool) : RdAt b l y (w.setCell ⟨b, 1, none⟩ (.bool y)) := by
  obtain ⟨g, o, cap, hb, hr, h1, h2⟩ := h
  have hgb : g ≠ b := by
    intro e
    subst e
    obtain ⟨cs, fr, hg', _⟩ := hr
    rw [hb] at hg'
    simp at hg'
  have hw := heap_setCell_same w b 1 _ 99 (.bool y) hb
  exact ⟨g, o, cap, by rw [hw]; simp, hr.keep (Below.heap_setCell w _ _ g hgb), h1, h2⟩

theorem RdAt.flagGrown (b : Nat) (w : World) (v : Value) : w.grownBy (w.setCell ⟨b, 1, none⟩ v) (some b) :=
  ⟨rfl, rfl, rfl, by simp [World.setCell], fun k _ hk => Below.heap_setCell _ _ _ _ (fun e => hk (by simp [e]))⟩

theorem RdAt.cell1 {b : Nat} {l : List UInt8} {x : Bool} {w : World} (h : RdAt b l x w) : w.cell? ⟨b, 1, none⟩ = some (.bool x) ∧ w.frozen? ⟨b, 1, none⟩ = false := by
  obtain ⟨g, o, cap, hb, _⟩ := h
  exact ⟨by simp [World.cell?, hb], by simp [World.frozen?, hb]⟩

def okRdNum (b : Nat) (l : List UInt8) (w : World) (e : Ending) (w' : World) : Prop :=
  w.grownBy w' (some b) ∧
    ((∃ n r, rdNum l = some (n, r) ∧ e = .returned (.int .u64 (n : Int)) ∧ RdAt b r false w') ∨
     (rdNum l = none ∧ e = .returned (.int .u64 0) ∧ ∃ m, RdAt b m true w'))

set_option maxHeartbeats 400000 in
theorem readNum_any (b : Nat) (l : List UInt8) (w : World) (h : RdAt b l false w) :
    Calls Tryd.prog 84 #[.pointer (some ⟨b, 0, none⟩), .func (.func 85) #[] #[]] w (okRdNum b l w) := by
  go_enter Tryd.func84, Tryd.ntmps84
  go_wp2_with (go_at_call 73; refine (ok_yes b l _ h).mono ?_; rintro e w' ⟨rfl, rfl⟩)
  go_wp2_with (go_at_call 85; refine (num_any b l false _ h).mono ?_)
  rintro e w1 ⟨hg, ⟨n, r, hn, rfl, hr⟩ | ⟨hn, rfl, m, hm⟩⟩
  · have Hn := Lib.hid hn
    have Hg := Lib.hid hg
    obtain ⟨hc, hf⟩ := hr.cell1
    have Hr := Lib.hid (hr.flag false)
    clear hn hg hr
    go_wp2
    go_ret
    exact ⟨grown_trans Hg.out (RdAt.flagGrown _ _ _), .inl ⟨n, r, Hn.out, rfl, Hr.out⟩⟩
  · have Hn := Lib.hid hn
    have Hg := Lib.hid hg
    obtain ⟨hc, hf⟩ := hm.cell1
    have Hr := Lib.hid (hm.flag true)
    clear hn hg hm
    go_wp2
    go_ret
    exact ⟨grown_trans Hg.out (RdAt.flagGrown _ _ _), .inr ⟨Hn.out, rfl, m, Hr.out⟩⟩

theorem readNum_bad (b : Nat) (l : List UInt8) (w : World) (h : RdAt b l true w) :
    Calls Tryd.prog 84 #[.pointer (some ⟨b, 0, none⟩), .func (.func 85) #[] #[]] w fun e w' => e = .returned (.int .u64 0) ∧ w = w' := by
  go_enter Tryd.func84, Tryd.ntmps84
  go_wp2_with (go_at_call 73; refine (ok_no b l _ h).mono ?_; rintro e w' ⟨rfl, rfl⟩)
  go_ret
  exact ⟨rfl, rfl⟩

theorem readNum_nil (w : World) :
    Calls Tryd.prog 84 #[.pointer none, .func (.func 85) #[] #[]] w fun e w' => e = .returned (.int .u64 0) ∧ w = w' := by
  go_enter Tryd.func84, Tryd.ntmps84
  go_wp2_with (go_at_call 73; refine (ok_nil _).mono ?_; rintro e w' ⟨rfl, rfl⟩)
  go_ret
  exact ⟨rfl, rfl⟩

theorem num_good1 (b : Nat) (l : List UInt8) (w : World) (h : RdAt b l false w) : Calls Tryd.prog 79 #[.pointer (some ⟨b, 0, none⟩)] w (okRdNum b l w) := by
  go_enter Tryd.func79, Tryd.ntmps79
  go_wp2_with (go_at_call 84; refine (readNum_any b l _ h).mono ?_)
  rintro e w1 ⟨hg, ⟨n, r, hn, rfl, hr⟩ | ⟨hn, rfl, hm⟩⟩
  · have H : Hid (okRdNum b l w (.returned (.int .u64 (n : Int))) w1) := ⟨hg, .inl ⟨n, r, hn, rfl, hr⟩⟩
    clear hg hn hr
    go_wp2
    go_ret
    exact H.out
  · have H : Hid (okRdNum b l w (.returned (.int .u64 0)) w1) := ⟨hg, .inr ⟨hn, rfl, hm⟩⟩
    clear hg hn hm
    go_wp2
    go_ret
    exact H.out

theorem num_bad1 (b : Nat) (l : List UInt8) (w : World) (h : RdAt b l true w) : Calls Tryd.prog 79 #[.pointer (some ⟨b, 0, none⟩)] w fun e w' => e = .returned (.int .u64 0) ∧ w = w' := by
  go_enter Tryd.func79, Tryd.ntmps79
  go_wp2_with (go_at_call 84; refine (readNum_bad b l _ h).mono ?_; rintro e w' ⟨rfl, rfl⟩)
  go_ret
  exact ⟨rfl, rfl⟩

theorem num_nil1 (w : World) : Calls Tryd.prog 79 #[.pointer none] w fun e w' => e = .returned (.int .u64 0) ∧ w = w' := by
  go_enter Tryd.func79, Tryd.ntmps79
  go_wp2_with (go_at_call 84; refine (readNum_nil _).mono ?_; rintro e w' ⟨rfl, rfl⟩)
  go_ret
  exact ⟨rfl, rfl⟩

end Go.Proofs.YtchdamlnbmngbaaDoor.wi

/- What the document's own reader does: Num, Text, OK, End of package stemmaref01. -/
namespace Go.Proofs.YtchdamlnbmngbaaDoor.wi
open Go.RowKit
set_option maxRecDepth 100000

/-- Block c is the document's reader that has s left. -/
def QAt (c : Nat) (s : ByteArray) (bad : Bool) (w : World) : Prop := w.heap[c]? = some (.cells #[.string s, .bool bad] 85 (0, 0)) ∧ s.size ≤ 1000000

theorem QAt.cells {c : Nat} {s : ByteArray} {bad : Bool} {w : World} (h : QAt c s bad w) :
    w.cell? ⟨c, 0, none⟩ = some (.string s) ∧ w.cell? ⟨c, 1, none⟩ = some (.bool bad) ∧ w.frozen? ⟨c, 0, none⟩ = false ∧ w.frozen? ⟨c, 1, none⟩ = false := by
  obtain ⟨hb, _⟩ := h
  exact ⟨by simp [World.cell?, hb], by simp [World.cell?, hb], by simp [World.frozen?, hb], by simp [World.frozen?, hb]⟩

theorem QAt.set0 {c : Nat} {s : ByteArray} {bad : Bool} {w : World} (h : QAt c s bad w) (t : ByteArray) (ht : t.size ≤ 1000000) : QAt c t bad (w.setCell ⟨c, 0, none⟩ (.string t)) := by
  have := heap_setCell_same w c 0 _ 85 (.string t) h.1
  exact ⟨by rw [this]; simp, ht⟩

theorem QAt.set1 {c : Nat} {s : ByteArray} {bad : Bool} {w : World} (h : QAt c s bad w) (x : Bool) : QAt c s x (w.setCell ⟨c, 1, none⟩ (.bool x)) := by
  have := heap_setCell_same w c 1 _ 85 (.bool x) h.1
  exact ⟨by rw [this]; simp, h.2⟩

theorem grown_set (c o : Nat) (w : World) (v : Value) : w.grownBy (w.setCell ⟨c, o, none⟩ v) (some c) :=
  ⟨rfl, rfl, rfl, by simp [World.setCell], fun k _ hk => Below.heap_setCell _ _ _ _ (fun e => hk (by simp [e]))⟩

theorem grown_drewN {w w' : World} {r : Option Nat} (h : w.grownBy w' r) (n : Nat) : w.grownBy (w'.drewN n) r := ⟨h.os, h.tape, h.output, h.size, h.block⟩

theorem grown_past {w w' : World} {r : Option Nat} {n : Nat} (h : (w.drewN n).grownBy w' r) : w.grownBy w' r := ⟨h.os, h.tape, h.output, h.size, h.block⟩

theorem fail_any (c : Nat) (s : ByteArray) (bad : Bool) (w : World) (h : QAt c s bad w) :
    Calls Tryd.prog 74 #[.pointer (some ⟨c, 0, none⟩)] w fun e w' => e = .returned (.tuple #[]) ∧ QAt c ⟨#[]⟩ true w' ∧ w.grownBy w' (some c) := by
  obtain ⟨h1, h2, h3, h4⟩ := h.cells
  have H := Lib.hid ((h.set0 ⟨#[]⟩ (by decide)).set1 true)
  have G := Lib.hid (grown_trans (grown_set c 0 w (.string ⟨#[]⟩)) (grown_set c 1 _ (.bool true)))
  clear h
  go_enter Tryd.func74, Tryd.ntmps74
  go_wp2
  go_end0
  exact ⟨rfl, H.out, G.out⟩

end Go.Proofs.YtchdamlnbmngbaaDoor.wi


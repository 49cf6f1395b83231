/- MgPure, WiShelf, ShBuilder, Info, WiPut, WiGrown. -/
import Derived.Test.YtklmgdiaianlbaaQ0
import Derived.Shelf.Strconv.Itoa0
import Derived.Test.YtklmgdiaianlbaaProg
import Derived.Shelf.Strings.Builder1
import Derived.WalkKit
import Derived.WalkSpells
import Derived.WalkLawsBesides
import Derived.BigCall
import Derived.Lib.Hide
set_option linter.unusedVariables false
set_option linter.unusedSimpArgs false
/- What the program reads of any bytes, as plain data; it reads a table just where the document does. -/
namespace Go.Proofs.Ytklmgdiaianlbaa.mt.pg
open Go Go.RowKit Go.Proofs.Ytklmgdiaianlbaa.im Go.Proofs.Ytklmgdiaianlbaa.wi Go.Proofs.Ytklmgdiaianlbaa.mt
set_option maxRecDepth 100000

def upS (k : Nat) (s : St) : Nat × St := (min (numS s).1 (k + 1), (numS s).2)
def plS : Nat → St → List Int × St
  | 0, s => ([], s)
  | n + 1, s => (((upS 1024 s).1 : Int) :: (plS n (upS 1024 s).2).1, (plS n (upS 1024 s).2).2)
def snS (b : Nat) (s : St) : Sp × St := (⟨(gdS s).1, (plS b (numS (gdS s).2).2).1, decide ((numS (gdS s).2).1 = 1)⟩, (plS b (numS (gdS s).2).2).2)
def snsS (b : Nat) : Nat → St → List Sp × St
  | 0, s => ([], s)
  | n + 1, s => ((snS b s).1 :: (snsS b n (snS b s).2).1, (snsS b n (snS b s).2).2)
def toS (b : Nat) (s : St) : Tk × St :=
  (⟨(gdS s).1, (gdS (gdS s).2).1, (upS 8 (gdS (gdS s).2).2).1, (upS 8 (upS 8 (gdS (gdS s).2).2).2).1, (plS b (upS 8 (upS 8 (gdS (gdS s).2).2).2).2).1⟩, (plS b (upS 8 (upS 8 (gdS (gdS s).2).2).2).2).2)
def liveS (s : St) : List Int × St := plS (upS 8 s).1 (upS 8 s).2
def allS (s : St) : List Sp × St := snsS (upS 8 s).1 (upS 20 (liveS s).2).1 (upS 20 (liveS s).2).2
def mP (s : St) : Mt := ⟨(liveS s).1, (allS s).1, if (numS (allS s).2).1 = 1 then (toS (upS 8 s).1 (numS (allS s).2).2).1 else tk0⟩

theorem upS_le (k : Nat) (s : St) : (upS k s).1 ≤ k + 1 := by unfold upS; dsimp only; omega
theorem plS_len : ∀ (n : Nat) (s : St), (plS n s).1.length = n
  | 0, _ => rfl
  | n + 1, s => by simp [plS, plS_len n]
theorem plS_ok : ∀ (n : Nat) (s : St), okInts (plS n s).1
  | 0, _ => fun z hz => absurd hz (by simp [plS])
  | n + 1, s => fun z hz => by
    have h := upS_le 1024 s
    simp only [plS, List.mem_cons] at hz
    rcases hz with rfl | hz
    · omega
    · exact plS_ok n _ z hz
theorem plS_snoc : ∀ (n : Nat) (s : St), plS (n + 1) s = ((plS n s).1 ++ [((upS 1024 (plS n s).2).1 : Int)], (upS 1024 (plS n s).2).2)
  | 0, s => rfl
  | n + 1, s => by
    have ih := plS_snoc n (upS 1024 s).2
    show ((((upS 1024 s).1 : Int) :: (plS (n + 1) (upS 1024 s).2).1, (plS (n + 1) (upS 1024 s).2).2) : List Int × St) = _
    rw [ih]
    rfl
theorem snsS_len (b : Nat) : ∀ (n : Nat) (s : St), (snsS b n s).1.length = n
  | 0, _ => rfl
  | n + 1, s => by simp [snsS, snsS_len b n]
theorem snsS_snoc (b : Nat) : ∀ (n : Nat) (s : St), snsS b (n + 1) s = ((snsS b n s).1 ++ [(snS b (snsS b n s).2).1], (snS b (snsS b n s).2).2)
  | 0, s => rfl
  | n + 1, s => by
    have ih := snsS_snoc b n (snS b s).2
    show (((snS b s).1 :: (snsS b (n + 1) (snS b s).2).1, (snsS b (n + 1) (snS b s).2).2) : List Sp × St) = _
    rw [ih]
    rfl
theorem snS_ok (b : Nat) (s : St) : okInts (snS b s).1.img ∧ (snS b s).1.img.length = b ∧ gdB (snS b s).1.g := ⟨plS_ok _ _, plS_len _ _, gdS_B _⟩
theorem snsS_ok (b : Nat) : ∀ (n : Nat) (s : St), ∀ x ∈ (snsS b n s).1, okInts x.img ∧ x.img.length = b ∧ gdB x.g
  | 0, _, x, hx => absurd hx (by simp [snsS])
  | n + 1, s, x, hx => by
    unfold snsS at hx
    simp only [List.mem_cons] at hx
    rcases hx with rfl | hx
    · exact snS_ok b s
    · exact snsS_ok b n _ x hx

/-! ### What is put is read -/
theorem upS_put (k n : Nat) (h : n ≤ k) (hk : k ≤ 2000) (r : List UInt8) : upS k (some (numB n ++ r)) = (n, some r) := by
  unfold upS
  rw [numS_put n (by omega)]
  simp only [Nat.min_eq_left (show n ≤ k + 1 by omega)]
def tight (l : List Int) : Prop := ∀ z ∈ l, 0 ≤ z ∧ z ≤ 1024
theorem plS_put : ∀ (l : List Int) (_ : tight l) (r : List UInt8), plS l.length (some (intsB l ++ r)) = (l, some r)
  | [], _, r => rfl
  | z :: l, h, r => by
    have hz := h z (by simp)
    have e : intsB (z :: l) ++ r = numB z.toNat ++ (intsB l ++ r) := by simp [intsB, intB]
    show plS (l.length + 1) (some (intsB (z :: l) ++ r)) = _
    rw [e]
    unfold plS
    rw [upS_put 1024 _ (by omega) (by omega)]
    simp only
    rw [plS_put l (fun x hx => h x (by simp [hx])) r]
    simp only [Int.toNat_of_nonneg hz.1]
theorem snS_put (b : Nat) (s : Sp) (h1 : gdB s.g) (h2 : s.img.length = b) (h3 : tight s.img) (r : List UInt8) : snS b (some (spB s ++ r)) = (s, some r) := by
  unfold snS spB
  rw [List.append_assoc, gdS_put _ h1]
  simp only
  rw [List.append_assoc, numS_put _ (by split <;> omega)]
  simp only
  rw [← h2, plS_put _ h3]
  cases s with | mk g img hid => cases hid <;> rfl
theorem snsS_put (b : Nat) : ∀ (l : List Sp) (_ : ∀ s ∈ l, gdB s.g ∧ s.img.length = b ∧ tight s.img) (r : List UInt8), snsS b l.length (some (spsB l ++ r)) = (l, some r)
  | [], _, r => rfl
  | s :: l, h, r => by
    have e : spsB (s :: l) ++ r = spB s ++ (spsB l ++ r) := by simp [spsB]
    have hs := h s (by simp)
    show snsS b (l.length + 1) (some (spsB (s :: l) ++ r)) = _
    rw [e]
    unfold snsS
    rw [snS_put b s hs.1 hs.2.1 hs.2.2]
    simp only
    rw [snsS_put b l (fun x hx => h x (by simp [hx])) r]
structure Tight (m : Mt) : Prop where
  b : m.live.length ≤ 8
  live : tight m.live
  few : m.snaps.length ≤ 20
  snaps : ∀ s ∈ m.snaps, gdB s.g ∧ s.img.length = m.live.length ∧ tight s.img
  tok : if m.tok.target = (0, 0) then m.tok = tk0 else gdB m.tok.base ∧ gdB m.tok.target ∧ (0 ≤ m.tok.next ∧ m.tok.next ≤ 8) ∧ (0 ≤ m.tok.all ∧ m.tok.all ≤ 8) ∧ m.tok.img.length = m.live.length ∧ tight m.tok.img
theorem toS_put (b : Nat) (t : Tk) (h : gdB t.base ∧ gdB t.target ∧ (0 ≤ t.next ∧ t.next ≤ 8) ∧ (0 ≤ t.all ∧ t.all ≤ 8) ∧ t.img.length = b ∧ tight t.img) (r : List UInt8) :
    toS b (some ((gdBs t.base ++ (gdBs t.target ++ (intB t.next ++ (intB t.all ++ intsB t.img)))) ++ r)) = (t, some r) := by
  obtain ⟨h1, h2, h3, h4, h5, h6⟩ := h
  unfold toS
  simp only [List.append_assoc]
  rw [gdS_put _ h1]
  simp only
  rw [gdS_put _ h2]
  simp only
  unfold intB
  rw [upS_put 8 _ (by omega) (by omega)]
  simp only
  rw [upS_put 8 _ (by omega) (by omega)]
  simp only
  rw [← h5, plS_put _ h6]
  simp only [Int.toNat_of_nonneg h3.1, Int.toNat_of_nonneg h4.1]
theorem mP_put (m : Mt) (h : Tight m) : mP (some (mBytes m)) = m := by
  have h1 : upS 8 (some (mBytes m)) = (m.live.length, some (intsB m.live ++ (numB m.snaps.length ++ (spsB m.snaps ++ tkB m.tok)))) := by
    unfold mBytes
    exact upS_put 8 _ h.b (by omega) _
  have h2 : liveS (some (mBytes m)) = (m.live, some (numB m.snaps.length ++ (spsB m.snaps ++ tkB m.tok))) := by
    unfold liveS
    rw [h1]
    exact plS_put _ h.live _
  have h3 : allS (some (mBytes m)) = (m.snaps, some (tkB m.tok)) := by
    unfold allS
    rw [h2, h1, upS_put 20 _ h.few (by omega)]
    exact snsS_put _ _ h.snaps _
  unfold mP
  rw [h3, h2, h1]
  dsimp only
  have ht := h.tok
  unfold tkB
  by_cases h0 : m.tok.target = (0, 0)
  · rw [if_pos h0] at ht
    rw [if_pos h0]
    have := numS_put 0 (by omega) []
    rw [List.append_nil] at this
    rw [this, if_neg (by decide), ← ht]
  · rw [if_neg h0] at ht
    rw [if_neg h0, numS_put 1 (by omega)]
    simp only [if_true]
    have := toS_put m.live.length m.tok ht []
    rw [List.append_nil] at this
    rw [this]
theorem tight_of {m : Mt} (hB : mB m) (h : mCheck m m.live.length 1024 = 0) : Tight m := by
  obtain ⟨hok, hl1, hl8, hs20⟩ := check_ok hB h
  unfold mCheck at h
  split at h
  · rename_i h1
    exact absurd h h1
  rename_i h1
  have h1' : iCheck m.live m.live.length 1024 = 0 := Classical.byContradiction h1
  split at h
  · cases h
  split at h
  · rename_i h3
    exact absurd h h3
  rename_i h3
  have h3' := Classical.byContradiction h3
  have tg : ∀ {l : List Int} {b : Int}, iCheck l b 1024 = 0 → tight l := fun h z hz => by
    rcases (iCheck_ok h).2.2.2 z hz with h | h <;> omega
  refine ⟨hl8, tg h1', hs20, fun s hs => ?_, ?_⟩
  · have := snChk_ok h3' s hs
    have hi := iCheck_ok this
    exact ⟨hB.snaps s hs, by omega, tg this⟩
  · have ht := hok.tok
    unfold okTk at ht
    unfold tkChk at h
    by_cases h4 : m.tok.target = (0, 0)
    · rw [if_pos h4] at ht ⊢
      exact ht
    · rw [if_neg h4] at h ⊢
      split at h
      · cases h
      · rename_i h5
        unfold tkBad at h5
        simp only [Bool.or_eq_true, not_or, Bool.not_eq_true, decide_eq_true_eq] at h5
        obtain ⟨⟨⟨⟨_, _⟩, e3⟩, e4⟩, e5⟩ := h5
        have hi := iCheck_ok h
        exact ⟨hB.base, hB.target, by omega, by omega, by omega, tg h⟩
theorem toS_B (b : Nat) (s : St) : gdB (toS b s).1.base ∧ gdB (toS b s).1.target := ⟨gdS_B _, gdS_B _⟩
theorem mP_B (s : St) : mB (mP s) := by
  refine ⟨fun x hx => (snsS_ok _ _ _ x hx).2.2, ?_, ?_⟩
  · show gdB (if _ then _ else tk0 : Tk).base
    split
    · exact (toS_B _ _).1
    · exact gdB0
  · show gdB (if _ then _ else tk0 : Tk).target
    split
    · exact (toS_B _ _).2
    · exact gdB0
/-- What is answered. -/
theorem dec_is (s : List UInt8) : mDec s = if mEnc (mP (some s)) = (s, 0) then (mP (some s), 0) else (mt0, 4) := by
  by_cases h : mEnc (mP (some s)) = (s, 0)
  · rw [if_pos h]
    exact enc_back (mP_B _) h
  · rw [if_neg h]
    rcases dec_two s with ⟨m, h1⟩ | h1
    · exfalso
      have h2 := (dec_enc h1).1
      have h3 := enc_ok h2
      apply h
      rw [h3.2.1, mP_put m (tight_of (dec_B h1) h3.1), ← h3.2.1]
      exact h2
    · exact h1
end Go.Proofs.Ytklmgdiaianlbaa.mt.pg

/- The library's contracts for bits.Len64, laid at this program's numbers. -/
namespace Go.Proofs
open Go.Shelf
set_option maxRecDepth 100000
def Try.lays129_ren : Go.Shelf.Ren := ⟨fun | 129 => 97 | n => n, fun | 53 => 24 | 3 => 3 | 4 => 4 | 46 => 113 | 5 => 5 | 9 => 9 | n => n, fun | n => n⟩
theorem Try.lays129 : Go.Proofs.Lays.n129 Try.prog Try.lays129_ren := {
  mixed := by kernel_rfl
  f129 := Try.func97.trans (congrArg some (by kernel_rfl))
  t3 := Try.underlying3
  a3 := Try.isAgg3
  z3 := Try.sizeOf3
  v3 := Try.zeroValue3
  t4 := Try.underlying4
  a4 := Try.isAgg4
  z4 := Try.sizeOf4
  v4 := Try.zeroValue4
  t5 := Try.underlying5
  a5 := Try.isAgg5
  z5 := Try.sizeOf5
  v5 := Try.zeroValue5
  t9 := Try.underlying9
  a9 := Try.isAgg9
  z9 := Try.sizeOf9
  v9 := Try.zeroValue9
  t46 := Try.underlying113
  a46 := Try.isAgg113
  z46 := Try.sizeOf113
  v46 := Try.zeroValue113
  t53 := Try.underlying24
  a53 := Try.isAgg24
  z53 := Try.sizeOf24
  v53 := Try.zeroValue24 }
theorem Try.bits_Len64 (x : Int) (w : World) (h0 : 0 ≤ x) (h1 : x ≤ 18446744073709551615) :
    Calls Try.prog 97 #[.int .u64 x] w fun e w' => e = .returned (.int .i64 (Lib.bitLen x.toNat)) ∧ w' = w := Any.bits_Len64 Try.lays129 x w h0 h1
end Go.Proofs

/- The library's contracts for strings.Builder's WriteString and String, laid at this program's numbers. -/
namespace Go.Proofs
open Go.Shelf
set_option maxRecDepth 100000
def Try.lays166_ren : Go.Shelf.Ren := ⟨fun | 166 => 93 | 240 => 96 | 276 => 98 | n => n, fun | 0 => 0 | 3 => 3 | 4 => 4 | 9 => 9 | 20 => 20 | 37 => 44 | 70 => 114 | 72 => 116 | 75 => 118 | 164 => 124 | 5 => 5 | 80 => 121 | n => n, fun | n => n⟩
theorem Try.lays166 : Go.Proofs.Lays.n166 Try.prog Try.lays166_ren := {
  mixed := by kernel_rfl
  f166 := Try.func93.trans (congrArg some (by kernel_rfl))
  f240 := Try.func96.trans (congrArg some (by kernel_rfl))
  f276 := Try.func98.trans (congrArg some (by kernel_rfl))
  t0 := Try.underlying0
  a0 := Try.isAgg0
  z0 := Try.sizeOf0
  v0 := Try.zeroValue0
  t3 := Try.underlying3
  a3 := Try.isAgg3
  z3 := Try.sizeOf3
  v3 := Try.zeroValue3
  t4 := Try.underlying4
  a4 := Try.isAgg4
  z4 := Try.sizeOf4
  v4 := Try.zeroValue4
  t9 := Try.underlying9
  a9 := Try.isAgg9
  z9 := Try.sizeOf9
  v9 := Try.zeroValue9
  t20 := Try.underlying20
  a20 := Try.isAgg20
  z20 := Try.sizeOf20
  v20 := Try.zeroValue20
  t37 := Try.underlying44
  a37 := Try.isAgg44
  z37 := Try.sizeOf44
  v37 := Try.zeroValue44
  t70 := Try.underlying114
  a70 := Try.isAgg114
  z70 := Try.sizeOf114
  v70 := Try.zeroValue114
  t72 := Try.underlying116
  a72 := Try.isAgg116
  z72 := Try.sizeOf116
  v72 := Try.zeroValue116
  t75 := Try.underlying118
  a75 := Try.isAgg118
  z75 := Try.sizeOf118
  v75 := Try.zeroValue118
  t164 := Try.underlying124
  a164 := Try.isAgg124
  z164 := Try.sizeOf124
  v164 := Try.zeroValue124 }
theorem Try.Builder_Extra_166 : Builder.Extra Try.prog Try.lays166_ren := {
  sizeBuilder := by kernel_rfl
  liesBuilder := by kernel_rfl
  t5 := Try.underlying5
  a5 := Try.isAgg5
  z5 := Try.sizeOf5
  v5 := Try.zeroValue5
  infoByte := by kernel_rfl
  cellsByte := by kernel_rfl
  sizeByte := by kernel_rfl
  neB5 := by decide }
open Go.RowKit in
theorem Try.Builder_WriteString (B b : Nat) (bs : List Value) (s : ByteArray) (w : World) (h : Lib.IsBuilder 116 5 B b bs w) (hlen : bs.length + s.size ≤ 140737488355328) (hBw : B ≤ w.heap.size) :
    Calls Try.prog 93 #[.pointer (some ⟨b, 0, none⟩), .string s] w fun e w' => e = .returned (.tuple #[.int .i64 s.size, .nilIface]) ∧ (Lib.BuilderAt 116 5 B b (.pointer (some ⟨b, 0, none⟩)) (bs ++ Lib.strCells s) w' ∧ Below B w w') := Any.Builder_WriteString Try.lays166 Try.Builder_Extra_166 B b bs s w h hlen hBw
def Try.lays169_ren : Go.Shelf.Ren := ⟨fun | 169 => 94 | n => n, fun | 70 => 114 | 9 => 9 | 0 => 0 | 72 => 116 | 37 => 44 | 127 => 123 | 3 => 3 | 5 => 5 | n => n, fun | n => n⟩
theorem Try.lays169 : Go.Proofs.Lays.n169 Try.prog Try.lays169_ren := {
  mixed := by kernel_rfl
  f169 := Try.func94.trans (congrArg some (by kernel_rfl))
  t0 := Try.underlying0
  a0 := Try.isAgg0
  z0 := Try.sizeOf0
  v0 := Try.zeroValue0
  t3 := Try.underlying3
  a3 := Try.isAgg3
  z3 := Try.sizeOf3
  v3 := Try.zeroValue3
  t9 := Try.underlying9
  a9 := Try.isAgg9
  z9 := Try.sizeOf9
  v9 := Try.zeroValue9
  t37 := Try.underlying44
  a37 := Try.isAgg44
  z37 := Try.sizeOf44
  v37 := Try.zeroValue44
  t70 := Try.underlying114
  a70 := Try.isAgg114
  z70 := Try.sizeOf114
  v70 := Try.zeroValue114
  t72 := Try.underlying116
  a72 := Try.isAgg116
  z72 := Try.sizeOf116
  v72 := Try.zeroValue116
  t127 := Try.underlying123
  a127 := Try.isAgg123
  z127 := Try.sizeOf123
  v127 := Try.zeroValue123 }
theorem Try.Builder_Extra_169 : Builder.Extra Try.prog Try.lays169_ren := {
  sizeBuilder := by kernel_rfl
  liesBuilder := by kernel_rfl
  t5 := Try.underlying5
  a5 := Try.isAgg5
  z5 := Try.sizeOf5
  v5 := Try.zeroValue5
  infoByte := by kernel_rfl
  cellsByte := by kernel_rfl
  sizeByte := by kernel_rfl
  neB5 := by decide }
open Go.RowKit in
theorem Try.Builder_String_any (B b : Nat) (l : List UInt8) (w : World) (h : Lib.IsBuilder 116 5 B b (Lib.byteCells l) w) (hBw : B ≤ w.heap.size) :
    Calls Try.prog 94 #[.pointer (some ⟨b, 0, none⟩)] w fun e w' => e = .returned (.string ⟨l.toArray⟩) ∧ Below B w w' := Any.Builder_String_any Try.lays169 Try.Builder_Extra_169 B b l w h hBw
end Go.Proofs

/- Rows of the table of types that walks on slices ask. -/
namespace Go.Proofs.Ytklmgdiaianlbaa
open Go.RowKit
set_option maxRecDepth 100000

theorem Try.info9 : (Try.prog.info? 9).map (fun i => (i.zero, i.size, i.bytes)) = some (some (.string ByteArray.empty), 1, 16) := by kernel_rfl
theorem Try.info5 : (Try.prog.info? 5).map (fun i => (i.zero, i.size, i.bytes)) = some (some (.int .u8 0), 1, 1) := by kernel_rfl

end Go.Proofs.Ytklmgdiaianlbaa

/- What the calls that lay numbers and texts as bytes do: count, size, digits, put, PutNum and PutText of package wire, one contract each. -/
namespace Go.Proofs.Ytklmgdiaianlbaa.wi
open Go.RowKit
set_option maxRecDepth 100000


set_option maxHeartbeats 400000 in
theorem count_any (n : Int) (w : World) (h0 : 0 ≤ n) (h1 : n ≤ 18446744073709551615) :
    Calls Try.prog 95 #[.int .u64 n] w fun e w' => e = .returned (.int .i64 ((digs n.toNat).length : Nat)) ∧ w = w' := by
  have hc := count_eq n.toNat (by omega)
  have hb : Lib.bitLen n.toNat ≤ 64 := Lib.bitLen_le _ 64 (by omega) (by omega)
  have e1 : ((digs n.toNat).length : Int) = ((Lib.bitLen n.toNat : Nat) + 7 : Int) / 8 := by omega
  have E1 := Lib.hid e1
  clear e1 hc
  go_enter Try.func95, Try.ntmps95
  go_wp2_with (go_at_call 97; refine (Try.bits_Len64 n _ h0 h1).mono ?_; rintro e w' ⟨rfl, rfl⟩)
  go_ret
  exact ⟨by rw [E1.out]; rfl, rfl⟩


def okSize (n : Nat) (w : World) (e : Ending) (w' : World) : Prop :=
  e = .returned (.string (str [UInt8.ofNat (digs n).length])) ∧ Below w.heap.size w w'

theorem conv1 (k : Nat) (hk : k < 256) (w : World) :
    (convert 44 9 (.slice (some ⟨w.heap.size, 0, none⟩) 1 1)).run Try.prog (w.alloc (.cells #[.int .u8 (k : Int)] 5)) = .ok (.string (str [UInt8.ofNat k])) (w.alloc (.cells #[.int .u8 (k : Int)] 5)) := by
  refine run_convert_bytes_back (P := Try.prog) _ 44 9 5 ⟨w.heap.size, 0, none⟩ 1 [UInt8.ofNat k] Try.underlying44 Try.underlying5 Try.underlying9 ?_
  intro j hj
  have : j = 0 := by simpa using hj
  subst this
  have e : (UInt8.ofNat k).toNat = k := ofNat_small k hk
  simp [Addr.add, e, World.cell?, World.alloc, -World.alloc_eq]

set_option maxHeartbeats 400000 in
theorem size_any (n : Int) (w : World) (h0 : 0 ≤ n) (h1 : n ≤ 18446744073709551615) :
    Calls Try.prog 89 #[.int .u64 n] w (okSize n.toNat w) := by
  have hl := digs_len n.toNat
  have hcv := conv1 (digs n.toNat).length (by omega) w
  go_enter Try.func89, Try.ntmps89
  go_wp2_with (go_at_call 95; refine (count_any n _ h0 h1).mono ?_; rintro e w' ⟨rfl, rfl⟩)
  go_ret
  exact ⟨rfl, (Below.refl _ _).alloc (Nat.le_refl _) _⟩


def digCells (D : List UInt8) (k : Nat) : List Value := List.replicate k (.int .u8 0) ++ Lib.byteCells (D.drop k)

def okDigits (n : Nat) (w : World) (e : Ending) (w' : World) : Prop :=
  e = .returned (.string (str (digs n))) ∧ Below w.heap.size w w'

def DigRel (D : List UInt8) (w : World) (n i : Value) (wr : World) : Prop :=
  ∃ k m : Nat, i = .int .i64 ((k : Int) - 1) ∧ n = .int .u64 (m : Int) ∧ m < 18446744073709551616 ∧ digs m = D.take k ∧ k ≤ D.length ∧
    wr.ownsRow w.heap.size 5 1 (.slice (some ⟨w.heap.size, 0, none⟩) D.length D.length) D.length (digCells D k) ∧ Below w.heap.size w wr

theorem digCells_len (D : List UInt8) (k : Nat) (h : k ≤ D.length) : (digCells D k).length = D.length := by
  simp [digCells, Lib.byteCells_length]; omega

theorem digCells_set (D : List UInt8) (k : Nat) (h : k < D.length) : (digCells D (k + 1)).set k (.int .u8 (D[k].toNat : Int)) = digCells D k := by
  unfold digCells
  rw [List.replicate_succ', List.append_assoc, List.set_append_right _ _ (by simp), List.length_replicate, Nat.sub_self, List.drop_eq_getElem_cons h]
  rfl

theorem dig_last (D : List UInt8) (m k : Nat) (hm : m < 18446744073709551616) (hk : k < D.length) (h : digs m = D.take (k + 1)) :
    m ≠ 0 ∧ digs (m / 256) = D.take k ∧ D[k].toNat = m % 256 := by
  have h0 : m ≠ 0 := by
    intro e
    subst e
    have := congrArg List.length h
    simp [digs_zero] at this
    omega
  have e := digs_pos m h0 hm
  rw [h, List.take_succ_eq_append_getElem hk] at e
  have e' := List.append_inj' e rfl
  refine ⟨h0, e'.1.symm, ?_⟩
  have := e'.2
  simp at this
  rw [this, ofNat_small _ (by omega)]

set_option maxHeartbeats 400000 in
theorem digits_any (n : Int) (w : World) (h0 : 0 ≤ n) (h1 : n ≤ 18446744073709551615) :
    Calls Try.prog 90 #[.int .u64 n] w (okDigits n.toNat w) := by
  have hl := digs_len n.toNat
  obtain ⟨i0, hi, hz0, hz1, hz2⟩ := info_parts Try.info5
  have hmk := run_make (P := Try.prog) w 44 5 i0 (.int .u8 0) Try.underlying44 hi hz0 .i64 .i64 ((digs n.toNat).length : Int) ((digs n.toNat).length : Int) (by omega) (by omega) (by rw [hz2]; omega) (by omega)
  have hown0 : (w.alloc (.cells (madeCells #[.int .u8 0] (digs n.toNat).length) 5)).ownsRow w.heap.size 5 1 (.slice (some ⟨w.heap.size, 0, none⟩) (digs n.toNat).length (digs n.toNat).length) (digs n.toNat).length (digCells (digs n.toNat) (digs n.toNat).length) := by
    have := World.ownsRow_lit (e := 5) (size := 1) (base := w.heap.size) w (madeCells #[.int .u8 0] (digs n.toNat).length) (digs n.toNat).length (Nat.le_refl _) (by unfold maxLen; omega) (by simp [size_madeCells])
    have e : (madeCells #[.int .u8 0] (digs n.toNat).length).toList = digCells (digs n.toNat) (digs n.toNat).length := by
      apply List.ext_getElem?
      intro j
      by_cases hj : j < (digs n.toNat).length <;> simp [madeCells, digCells, Lib.byteCells, hj, Nat.mod_one]
    rw [← e]
    exact this
  have hb0 : Below w.heap.size w (w.alloc (.cells (madeCells #[.int .u8 0] (digs n.toNat).length) 5)) := (Below.refl _ _).alloc (Nat.le_refl _) _
  have hn : ((n.toNat : Nat) : Int) = n := by omega
  have Hn := Lib.hid hn
  clear hn
  rw [hz1] at hmk
  clear hi hz0 hz1 hz2
  go_enter Try.func90, Try.ntmps90
  go_wp2_with (go_at_call 95; refine (count_any n _ h0 h1).mono ?_; rintro e w' ⟨rfl, rfl⟩)
  go_loopw [0, 4] (fun n' i wr => DigRel (digs n.toNat) w n' i wr) (fun _ i _ => (intOf i + 1).toNat)
  case atStart => exact ⟨(digs n.toNat).length, n.toNat, rfl, by rw [Hn.out], by omega, by simp, Nat.le_refl _, hown0, hb0⟩
  case round =>
    obtain ⟨k, m, rfl, rfl, hm, hd, hk, hown, hb⟩ := hrel
    cases k with
    | zero =>
      have hcv := run_convert_bytes_back (P := Try.prog) wr 44 9 5 ⟨w.heap.size, 0, none⟩ (digs n.toNat).length (digs n.toNat) Try.underlying44 Try.underlying5 Try.underlying9 (by
        intro j hj
        have := hown.cellAt j (by omega)
        rw [addr_add, Nat.zero_add, this]
        simp [digCells, Lib.byteCells, List.getElem?_eq_getElem hj])
      have hcv' : (convert 44 9 (.slice (some ⟨w.heap.size, 0, none⟩) (digs n.toNat).length (digs n.toNat).length)).run Try.prog wr = .ok (.string (str (digs n.toNat))) wr := hcv
      clear hcv
      go_wp2
      go_ret
      exact ⟨rfl, hb⟩
    | succ k =>
      have hx := hown.cellAt k (by omega)
      rw [show (digCells (digs n.toNat) (k + 1))[k]? = some (.int .u8 0) from by simp [digCells, List.getElem?_append]] at hx
      have hf := hown.frozenAt k
      have hs := hown.stored k (.int .u8 (((digs n.toNat)[k]'(by omega)).toNat : Int))
      rw [digCells_set _ _ (by omega)] at hs
      obtain ⟨hs1, hs2⟩ := hs
      obtain ⟨hm0, hd', hlast⟩ := dig_last (digs n.toNat) m k hm (by omega) hd
      have Hs1 := Lib.hid hs1
      have Hs2 := Lib.hid hs2
      have Hd := Lib.hid hd'
      have Hl := Lib.hid hlast
      clear hs1 hs2 hd' hlast hd hown
      go_wp2
      have e : ((m : Int) % 256) = (((digs n.toNat)[k]'(by omega)).toNat : Int) := by rw [Hl.out]; omega
      rw [e]
      exact ⟨⟨k, m / 256, rfl, rfl, by omega, Hd.out, by omega, Hs1.out, hb.grown Hs2.out (by have := hb.size; omega) (fun j hj => by cases hj; exact Nat.le_refl _)⟩, by simp [intOf]⟩

theorem size_nat (n : Nat) (w : World) (h : n < 18446744073709551616) : Calls Try.prog 89 #[.int .u64 (n : Int)] w (okSize n w) := by
  have := size_any (n : Int) w (by omega) (by omega)
  rwa [Int.toNat_natCast] at this

theorem digits_nat (n : Nat) (w : World) (h : n < 18446744073709551616) : Calls Try.prog 90 #[.int .u64 (n : Int)] w (okDigits n w) := by
  have := digits_any (n : Int) w (by omega) (by omega)
  rwa [Int.toNat_natCast] at this

/-- The cells of a slice of strings. -/
def StrCells (w : World) (b o : Nat) (ps : List ByteArray) : Prop := ∀ i (h : i < ps.length), w.cell? ⟨b, o + i, none⟩ = some (.string ps[i])

def okPut (s : ByteArray) (ps : List ByteArray) (w : World) (e : Ending) (w' : World) : Prop :=
  e = .returned (.string (str (bl s ++ flat ps))) ∧ Below w.heap.size w w'

def PutRel (s : ByteArray) (ps : List ByteArray) (w : World) (i : Value) (wr : World) : Prop :=
  ∃ k : Nat, k ≤ ps.length ∧ i = .int .i64 (k : Int) ∧ Lib.IsBuilder 116 5 w.heap.size w.heap.size (Lib.byteCells (bl s ++ flat (ps.take k))) wr ∧ Below w.heap.size w wr

set_option maxHeartbeats 400000 in
theorem put_any (s : ByteArray) (b o c : Nat) (ps : List ByteArray) (w : World) (hb : b < w.heap.size) (hc : StrCells w b o ps) (hl : ps.length ≤ 1000000) (hs : s.size + (flat ps).length ≤ 140737488355328) :
    Calls Try.prog 88 #[.string s, .slice (some ⟨b, o, none⟩) ps.length c] w (okPut s ps w) := by
  have h0 : Lib.IsBuilder 116 5 w.heap.size w.heap.size [] (w.alloc (.cells #[.pointer none, .slice none 0 0] 116)) := Lib.fresh_isBuilder 116 5 w
  have b0 : Below w.heap.size w (w.alloc (.cells #[.pointer none, .slice none 0 0] 116)) := (Below.refl _ w).alloc (Nat.le_refl _) _
  go_enter Try.func88, Try.ntmps88
  go_wp2_with (go_at_call 93; refine (Try.Builder_WriteString w.heap.size w.heap.size [] s _ h0 (by simp; omega) b0.size).mono ?_)
  rintro e W1 ⟨rfl, h1, b1⟩
  have h1' : Lib.IsBuilder 116 5 w.heap.size w.heap.size (Lib.byteCells (bl s)) W1 := by
    rw [List.nil_append, Lib.strCells_eq] at h1
    exact Or.inr h1
  have b1' := b0.trans b1
  clear h1 b1 h0 b0
  go_wp2
  go_loopw [12] (fun i wr => PutRel s ps w i wr) (fun i _ => ps.length - (intOf i).toNat)
  case atStart => exact ⟨0, Nat.zero_le _, rfl, by simpa [flat] using h1', b1'⟩
  case round =>
    obtain ⟨k, hk, rfl, hI, hB⟩ := hrel
    by_cases hlt : k < ps.length
    · have hcell : wr.cell? ⟨b, o + k, none⟩ = some (.string ps[k]) := by
        rw [hB.cell (p := ⟨b, o + k, none⟩) hb]; exact hc k hlt
      have hfl := flat_snoc ps k hlt
      have hfm := flat_take_len ps (k + 1)
      have hbl := bl_len s
      have hbp := bl_len ps[k]
      have hlen : (Lib.byteCells (bl s ++ flat (ps.take k))).length + ps[k].size ≤ 140737488355328 := by
        rw [Lib.byteCells_length]
        rw [hfl] at hfm
        simp at hfm ⊢
        omega
      have Hfl := Lib.hid hfl
      clear hfl hfm hbl hbp
      go_wp2_with (go_at_call 93; refine (Try.Builder_WriteString w.heap.size w.heap.size _ ps[k] _ hI hlen hB.size).mono ?_)
      rintro e W2 ⟨rfl, h2, b2⟩
      have h2' : Lib.IsBuilder 116 5 w.heap.size w.heap.size (Lib.byteCells (bl s ++ flat (ps.take (k + 1)))) W2 := by
        rw [Lib.strCells_eq, ← Lib.byteCells_append] at h2
        rw [Hfl.out, ← List.append_assoc]
        exact Or.inr h2
      have b2' := hB.trans b2
      clear h2 b2 hI hB
      go_wp2
      go_roundw
      case rel => exact ⟨k + 1, by omega, by go_num, h2', b2'⟩
      case measure => simp [intOf]; omega
    · have hk' : k = ps.length := by omega
      subst hk'
      rw [List.take_length] at hI
      go_wp2_with (go_at_call 94; refine (Try.Builder_String_any w.heap.size w.heap.size _ _ hI hB.size).mono ?_)
      rintro e W2 ⟨rfl, b2⟩
      have b2' := hB.trans b2
      clear b2 hI hB
      go_wp2
      go_ret
      exact ⟨rfl, b2'⟩

theorem strCells_new (ps : List ByteArray) (w : World) : StrCells (w.alloc (.cells (ps.map Value.string).toArray 9)) w.heap.size 0 ps := by
  intro i h
  simp [World.cell?, World.alloc, -World.alloc_eq]

theorem strCells_two (a b : ByteArray) (w : World) : StrCells (w.alloc (.cells #[.string a, .string b] 9)) w.heap.size 0 [a, b] := strCells_new [a, b] w
theorem strCells_three (a b c : ByteArray) (w : World) : StrCells (w.alloc (.cells #[.string a, .string b, .string c] 9)) w.heap.size 0 [a, b, c] := strCells_new [a, b, c] w

def okPutNum (s : ByteArray) (n : Nat) (w : World) (e : Ending) (w' : World) : Prop :=
  e = .returned (.string (str (bl s ++ numB n))) ∧ Below w.heap.size w w'

set_option maxHeartbeats 400000 in
theorem putNum_any (s : ByteArray) (n : Int) (w : World) (h0 : 0 ≤ n) (h1 : n ≤ 18446744073709551615) (hs : s.size ≤ 140737488355000) :
    Calls Try.prog 84 #[.string s, .int .u64 n] w (okPutNum s n.toNat w) := by
  have hl := digs_len n.toNat
  go_enter Try.func84, Try.ntmps84
  go_wp2_with (go_at_call 89; refine (size_any n _ h0 h1).mono ?_)
  rintro e W1 ⟨rfl, b1⟩
  go_wp2_with (go_at_call 90; refine (digits_any n _ h0 h1).mono ?_)
  rintro e W2 ⟨rfl, b2⟩
  go_wp2_with (go_at_call 88; refine (put_any s W2.heap.size 0 2 [str [UInt8.ofNat (digs n.toNat).length], str (digs n.toNat)] _ ?_ (strCells_two _ _ _) (by simp) ?_).mono ?_)
  · simp
  · simp [flat, bl_str]; omega
  · rintro e W3 ⟨rfl, b3⟩
    have b' := below_step (below_new (below_step b1 b2) _) b3
    clear b1 b2 b3
    go_wp2
    go_ret
    exact ⟨by simp [flat, bl_str, numB], b'⟩

theorem putNum_nat (s : ByteArray) (n : Nat) (w : World) (h : n < 18446744073709551616) (hs : s.size ≤ 140737488355000) :
    Calls Try.prog 84 #[.string s, .int .u64 (n : Int)] w (okPutNum s n w) := by
  have := putNum_any s (n : Int) w (by omega) (by omega) hs
  rwa [Int.toNat_natCast] at this

end Go.Proofs.Ytklmgdiaianlbaa.wi

/- What one block alone is turned. -/
namespace Go.Proofs.Ytklmgdiaianlbaa.wi
open Go.RowKit
set_option maxRecDepth 100000

theorem grown_trans {w w1 w2 : World} {r : Option Nat} (h : w.grownBy w1 r) (k : w1.grownBy w2 r) : w.grownBy w2 r :=
  ⟨k.os.trans h.os, k.tape.trans h.tape, k.output.trans h.output, Nat.le_trans h.size k.size,
    fun i hi hr => (k.block i (Nat.lt_of_lt_of_le hi h.size) hr).trans (h.block i hi hr)⟩

theorem grown_refl (w : World) (r : Option Nat) : w.grownBy w r := ⟨rfl, rfl, rfl, Nat.le_refl _, fun _ _ _ => rfl⟩


theorem val_step (l : List UInt8) (k : Nat) (h : k < l.length) : val (l.take (k + 1)) = val (l.take k) * 256 + l[k].toNat := by
  rw [List.take_succ_eq_append_getElem h, val_snoc]

end Go.Proofs.Ytklmgdiaianlbaa.wi


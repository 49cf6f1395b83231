/- MgPure, WiGrown, WiRead, WiNum, WiNumG, WiNumR, WiRefR0, WiRefN, WiRefG, WiRefQ, MtRd. -/
import Derived.Test.YtchdamlnbmngbaaDoorQ0
import Derived.Test.YtchdamlnbmngbaaDoorQ1
import Derived.Test.YtchdamlnbmngbaaDoorQ2
import Derived.Test.YtchdamlnbmngbaaDoorProg
import Derived.WalkKit
import Derived.WalkSpells
import Derived.WalkLawsBesides
import Derived.BigCall
import Derived.Lib.Hide
import Derived.Lib.ConvBytes
import Derived.Deep.QuietTactic
import Derived.BigQuiet
import Derived.LoopTactic
import Derived.Laws.AppendOwn
set_option linter.unusedVariables false
set_option linter.unusedSimpArgs false
/- What the program reads of any bytes, as plain data; it reads a table just where the document does. -/
namespace Go.Proofs.YtchdamlnbmngbaaDoor.mt.pg
open Go Go.RowKit Go.Proofs.YtchdamlnbmngbaaDoor.im Go.Proofs.YtchdamlnbmngbaaDoor.wi Go.Proofs.YtchdamlnbmngbaaDoor.mt
set_option maxRecDepth 100000

def upS (k : Nat) (s : St) : Nat × St := (min (numS s).1 (k + 1), (numS s).2)
def plS : Nat → St → List Int × St
  | 0, s => ([], s)
  | n + 1, s => (((upS 1024 s).1 : Int) :: (plS n (upS 1024 s).2).1, (plS n (upS 1024 s).2).2)
def snS (b : Nat) (s : St) : Sp × St := (⟨(gdS s).1, (plS b (numS (gdS s).2).2).1, decide ((numS (gdS s).2).1 = 1)⟩, (plS b (numS (gdS s).2).2).2)
def snsS (b : Nat) : Nat → St → List Sp × St
  | 0, s => ([], s)
  | n + 1, s => ((snS b s).1 :: (snsS b n (snS b s).2).1, (snsS b n (snS b s).2).2)
def toS (b : Nat) (s : St) : Tk × St :=
  (⟨(gdS s).1, (gdS (gdS s).2).1, (upS 8 (gdS (gdS s).2).2).1, (upS 8 (upS 8 (gdS (gdS s).2).2).2).1, (plS b (upS 8 (upS 8 (gdS (gdS s).2).2).2).2).1⟩, (plS b (upS 8 (upS 8 (gdS (gdS s).2).2).2).2).2)
def liveS (s : St) : List Int × St := plS (upS 8 s).1 (upS 8 s).2
def allS (s : St) : List Sp × St := snsS (upS 8 s).1 (upS 20 (liveS s).2).1 (upS 20 (liveS s).2).2
def mP (s : St) : Mt := ⟨(liveS s).1, (allS s).1, if (numS (allS s).2).1 = 1 then (toS (upS 8 s).1 (numS (allS s).2).2).1 else tk0⟩

theorem upS_le (k : Nat) (s : St) : (upS k s).1 ≤ k + 1 := by unfold upS; dsimp only; omega
theorem plS_len : ∀ (n : Nat) (s : St), (plS n s).1.length = n
  | 0, _ => rfl
  | n + 1, s => by simp [plS, plS_len n]
theorem plS_ok : ∀ (n : Nat) (s : St), okInts (plS n s).1
  | 0, _ => fun z hz => absurd hz (by simp [plS])
  | n + 1, s => fun z hz => by
    have h := upS_le 1024 s
    simp only [plS, List.mem_cons] at hz
    rcases hz with rfl | hz
    · omega
    · exact plS_ok n _ z hz
theorem plS_snoc : ∀ (n : Nat) (s : St), plS (n + 1) s = ((plS n s).1 ++ [((upS 1024 (plS n s).2).1 : Int)], (upS 1024 (plS n s).2).2)
  | 0, s => rfl
  | n + 1, s => by
    have ih := plS_snoc n (upS 1024 s).2
    show ((((upS 1024 s).1 : Int) :: (plS (n + 1) (upS 1024 s).2).1, (plS (n + 1) (upS 1024 s).2).2) : List Int × St) = _
    rw [ih]
    rfl
theorem snsS_len (b : Nat) : ∀ (n : Nat) (s : St), (snsS b n s).1.length = n
  | 0, _ => rfl
  | n + 1, s => by simp [snsS, snsS_len b n]
theorem snsS_snoc (b : Nat) : ∀ (n : Nat) (s : St), snsS b (n + 1) s = ((snsS b n s).1 ++ [(snS b (snsS b n s).2).1], (snS b (snsS b n s).2).2)
  | 0, s => rfl
  | n + 1, s => by
    have ih := snsS_snoc b n (snS b s).2
    show (((snS b s).1 :: (snsS b (n + 1) (snS b s).2).1, (snsS b (n + 1) (snS b s).2).2) : List Sp × St) = _
    rw [ih]
    rfl
theorem snS_ok (b : Nat) (s : St) : okInts (snS b s).1.img ∧ (snS b s).1.img.length = b ∧ gdB (snS b s).1.g := ⟨plS_ok _ _, plS_len _ _, gdS_B _⟩
theorem snsS_ok (b : Nat) : ∀ (n : Nat) (s : St), ∀ x ∈ (snsS b n s).1, okInts x.img ∧ x.img.length = b ∧ gdB x.g
  | 0, _, x, hx => absurd hx (by simp [snsS])
  | n + 1, s, x, hx => by
    unfold snsS at hx
    simp only [List.mem_cons] at hx
    rcases hx with rfl | hx
    · exact snS_ok b s
    · exact snsS_ok b n _ x hx

/-! ### What is put is read -/
theorem upS_put (k n : Nat) (h : n ≤ k) (hk : k ≤ 2000) (r : List UInt8) : upS k (some (numB n ++ r)) = (n, some r) := by
  unfold upS
  rw [numS_put n (by omega)]
  simp only [Nat.min_eq_left (show n ≤ k + 1 by omega)]
def tight (l : List Int) : Prop := ∀ z ∈ l, 0 ≤ z ∧ z ≤ 1024
theorem plS_put : ∀ (l : List Int) (_ : tight l) (r : List UInt8), plS l.length (some (intsB l ++ r)) = (l, some r)
  | [], _, r => rfl
  | z :: l, h, r => by
    have hz := h z (by simp)
    have e : intsB (z :: l) ++ r = numB z.toNat ++ (intsB l ++ r) := by simp [intsB, intB]
    show plS (l.length + 1) (some (intsB (z :: l) ++ r)) = _
    rw [e]
    unfold plS
    rw [upS_put 1024 _ (by omega) (by omega)]
    simp only
    rw [plS_put l (fun x hx => h x (by simp [hx])) r]
    simp only [Int.toNat_of_nonneg hz.1]
theorem snS_put (b : Nat) (s : Sp) (h1 : gdB s.g) (h2 : s.img.length = b) (h3 : tight s.img) (r : List UInt8) : snS b (some (spB s ++ r)) = (s, some r) := by
  unfold snS spB
  rw [List.append_assoc, gdS_put _ h1]
  simp only
  rw [List.append_assoc, numS_put _ (by split <;> omega)]
  simp only
  rw [← h2, plS_put _ h3]
  cases s with | mk g img hid => cases hid <;> rfl
theorem snsS_put (b : Nat) : ∀ (l : List Sp) (_ : ∀ s ∈ l, gdB s.g ∧ s.img.length = b ∧ tight s.img) (r : List UInt8), snsS b l.length (some (spsB l ++ r)) = (l, some r)
  | [], _, r => rfl
  | s :: l, h, r => by
    have e : spsB (s :: l) ++ r = spB s ++ (spsB l ++ r) := by simp [spsB]
    have hs := h s (by simp)
    show snsS b (l.length + 1) (some (spsB (s :: l) ++ r)) = _
    rw [e]
    unfold snsS
    rw [snS_put b s hs.1 hs.2.1 hs.2.2]
    simp only
    rw [snsS_put b l (fun x hx => h x (by simp [hx])) r]
structure Tight (m : Mt) : Prop where
  b : m.live.length ≤ 8
  live : tight m.live
  few : m.snaps.length ≤ 20
  snaps : ∀ s ∈ m.snaps, gdB s.g ∧ s.img.length = m.live.length ∧ tight s.img
  tok : if m.tok.target = (0, 0) then m.tok = tk0 else gdB m.tok.base ∧ gdB m.tok.target ∧ (0 ≤ m.tok.next ∧ m.tok.next ≤ 8) ∧ (0 ≤ m.tok.all ∧ m.tok.all ≤ 8) ∧ m.tok.img.length = m.live.length ∧ tight m.tok.img
theorem toS_put (b : Nat) (t : Tk) (h : gdB t.base ∧ gdB t.target ∧ (0 ≤ t.next ∧ t.next ≤ 8) ∧ (0 ≤ t.all ∧ t.all ≤ 8) ∧ t.img.length = b ∧ tight t.img) (r : List UInt8) :
    toS b (some ((gdBs t.base ++ (gdBs t.target ++ (intB t.next ++ (intB t.all ++ intsB t.img)))) ++ r)) = (t, some r) := by
  obtain ⟨h1, h2, h3, h4, h5, h6⟩ := h
  unfold toS
  simp only [List.append_assoc]
  rw [gdS_put _ h1]
  simp only
  rw [gdS_put _ h2]
  simp only
  unfold intB
  rw [upS_put 8 _ (by omega) (by omega)]
  simp only
  rw [upS_put 8 _ (by omega) (by omega)]
  simp only
  rw [← h5, plS_put _ h6]
  simp only [Int.toNat_of_nonneg h3.1, Int.toNat_of_nonneg h4.1]
theorem mP_put (m : Mt) (h : Tight m) : mP (some (mBytes m)) = m := by
  have h1 : upS 8 (some (mBytes m)) = (m.live.length, some (intsB m.live ++ (numB m.snaps.length ++ (spsB m.snaps ++ tkB m.tok)))) := by
    unfold mBytes
    exact upS_put 8 _ h.b (by omega) _
  have h2 : liveS (some (mBytes m)) = (m.live, some (numB m.snaps.length ++ (spsB m.snaps ++ tkB m.tok))) := by
    unfold liveS
    rw [h1]
    exact plS_put _ h.live _
  have h3 : allS (some (mBytes m)) = (m.snaps, some (tkB m.tok)) := by
    unfold allS
    rw [h2, h1, upS_put 20 _ h.few (by omega)]
    exact snsS_put _ _ h.snaps _
  unfold mP
  rw [h3, h2, h1]
  dsimp only
  have ht := h.tok
  unfold tkB
  by_cases h0 : m.tok.target = (0, 0)
  · rw [if_pos h0] at ht
    rw [if_pos h0]
    have := numS_put 0 (by omega) []
    rw [List.append_nil] at this
    rw [this, if_neg (by decide), ← ht]
  · rw [if_neg h0] at ht
    rw [if_neg h0, numS_put 1 (by omega)]
    simp only [if_true]
    have := toS_put m.live.length m.tok ht []
    rw [List.append_nil] at this
    rw [this]
theorem tight_of {m : Mt} (hB : mB m) (h : mCheck m m.live.length 1024 = 0) : Tight m := by
  obtain ⟨hok, hl1, hl8, hs20⟩ := check_ok hB h
  unfold mCheck at h
  split at h
  · rename_i h1
    exact absurd h h1
  rename_i h1
  have h1' : iCheck m.live m.live.length 1024 = 0 := Classical.byContradiction h1
  split at h
  · cases h
  split at h
  · rename_i h3
    exact absurd h h3
  rename_i h3
  have h3' := Classical.byContradiction h3
  have tg : ∀ {l : List Int} {b : Int}, iCheck l b 1024 = 0 → tight l := fun h z hz => by
    rcases (iCheck_ok h).2.2.2 z hz with h | h <;> omega
  refine ⟨hl8, tg h1', hs20, fun s hs => ?_, ?_⟩
  · have := snChk_ok h3' s hs
    have hi := iCheck_ok this
    exact ⟨hB.snaps s hs, by omega, tg this⟩
  · have ht := hok.tok
    unfold okTk at ht
    unfold tkChk at h
    by_cases h4 : m.tok.target = (0, 0)
    · rw [if_pos h4] at ht ⊢
      exact ht
    · rw [if_neg h4] at h ⊢
      split at h
      · cases h
      · rename_i h5
        unfold tkBad at h5
        simp only [Bool.or_eq_true, not_or, Bool.not_eq_true, decide_eq_true_eq] at h5
        obtain ⟨⟨⟨⟨_, _⟩, e3⟩, e4⟩, e5⟩ := h5
        have hi := iCheck_ok h
        exact ⟨hB.base, hB.target, by omega, by omega, by omega, tg h⟩
theorem toS_B (b : Nat) (s : St) : gdB (toS b s).1.base ∧ gdB (toS b s).1.target := ⟨gdS_B _, gdS_B _⟩
theorem mP_B (s : St) : mB (mP s) := by
  refine ⟨fun x hx => (snsS_ok _ _ _ x hx).2.2, ?_, ?_⟩
  · show gdB (if _ then _ else tk0 : Tk).base
    split
    · exact (toS_B _ _).1
    · exact gdB0
  · show gdB (if _ then _ else tk0 : Tk).target
    split
    · exact (toS_B _ _).2
    · exact gdB0
/-- What is answered. -/
theorem dec_is (s : List UInt8) : mDec s = if mEnc (mP (some s)) = (s, 0) then (mP (some s), 0) else (mt0, 4) := by
  by_cases h : mEnc (mP (some s)) = (s, 0)
  · rw [if_pos h]
    exact enc_back (mP_B _) h
  · rw [if_neg h]
    rcases dec_two s with ⟨m, h1⟩ | h1
    · exfalso
      have h2 := (dec_enc h1).1
      have h3 := enc_ok h2
      apply h
      rw [h3.2.1, mP_put m (tight_of (dec_B h1) h3.1), ← h3.2.1]
      exact h2
    · exact h1
end Go.Proofs.YtchdamlnbmngbaaDoor.mt.pg

/- What one block alone is turned. -/
namespace Go.Proofs.YtchdamlnbmngbaaDoor.wi
open Go.RowKit
set_option maxRecDepth 100000

theorem grown_trans {w w1 w2 : World} {r : Option Nat} (h : w.grownBy w1 r) (k : w1.grownBy w2 r) : w.grownBy w2 r :=
  ⟨k.os.trans h.os, k.tape.trans h.tape, k.output.trans h.output, Nat.le_trans h.size k.size,
    fun i hi hr => (k.block i (Nat.lt_of_lt_of_le hi h.size) hr).trans (h.block i hi hr)⟩

theorem grown_refl (w : World) (r : Option Nat) : w.grownBy w r := ⟨rfl, rfl, rfl, Nat.le_refl _, fun _ _ _ => rfl⟩


theorem val_step (l : List UInt8) (k : Nat) (h : k < l.length) : val (l.take (k + 1)) = val (l.take k) * 256 + l[k].toNat := by
  rw [List.take_succ_eq_append_getElem h, val_snoc]

end Go.Proofs.YtchdamlnbmngbaaDoor.wi

/- What a reader of package wire is in memory, and what making one, asking it and cutting bytes off it does. -/
namespace Go.Proofs.YtchdamlnbmngbaaDoor.wi
open Go.RowKit
set_option maxRecDepth 100000

/-- Cells o, o + 1 .. of block g hold the bytes l. -/
def Row (w : World) (g o : Nat) (l : List UInt8) : Prop :=
  ∃ cs fr, w.heap[g]? = some (.cells cs 5 fr) ∧ ∀ i (h : i < l.length), cs[o + i]? = some (.int .u8 (l[i].toNat : Int))

/-- Block b is a reader that has l left, in block g from o on. -/
def RdOf (b g o cap : Nat) (l : List UInt8) (bad : Bool) (w : World) : Prop :=
  w.heap[b]? = some (.cells #[.slice (some ⟨g, o, none⟩) l.length cap, .bool bad] 99 (0, 0)) ∧ Row w g o l ∧ l.length ≤ cap ∧ l.length ≤ 140737488355328

/-- Block b is a reader that has l left. -/
def RdAt (b : Nat) (l : List UInt8) (bad : Bool) (w : World) : Prop := ∃ g o cap, RdOf b g o cap l bad w

theorem lt_of_some {w : World} {b : Nat} {o : Obj} (h : w.heap[b]? = some o) : b < w.heap.size := by
  rcases Nat.lt_or_ge b w.heap.size with h' | h'
  · exact h'
  · simp [Array.getElem?_eq_none h'] at h

theorem Row.cell {w : World} {g o : Nat} {l : List UInt8} (h : Row w g o l) (i : Nat) (hi : i < l.length) : w.cell? ⟨g, o + i, none⟩ = some (.int .u8 (l[i].toNat : Int)) := by
  obtain ⟨cs, fr, hg, hc⟩ := h
  simp [World.cell?, hg, hc i hi]

theorem Row.keep {w w' : World} {g o : Nat} {l : List UInt8} (h : Row w g o l) (hk : w'.heap[g]? = w.heap[g]?) : Row w' g o l := by
  obtain ⟨cs, fr, hg, hc⟩ := h
  exact ⟨cs, fr, hk.trans hg, hc⟩

theorem Row.drop {w : World} {g o : Nat} {l : List UInt8} (h : Row w g o l) (n : Nat) : Row w g (o + n) (l.drop n) := by
  obtain ⟨cs, fr, hg, hc⟩ := h
  refine ⟨cs, fr, hg, fun i hi => ?_⟩
  have := hc (n + i) (by simp at hi; omega)
  rw [Nat.add_assoc, this]
  simp

theorem Row.take {w : World} {g o : Nat} {l : List UInt8} (h : Row w g o l) (n : Nat) : Row w g o (l.take n) := by
  obtain ⟨cs, fr, hg, hc⟩ := h
  refine ⟨cs, fr, hg, fun i hi => ?_⟩
  have := hc i (by simp at hi; omega)
  rw [this]
  simp

theorem Row.nil0 {w : World} {g o : Nat} {l : List UInt8} (h : Row w g o l) (o' : Nat) : Row w g o' [] := by
  obtain ⟨cs, fr, hg, _⟩ := h
  exact ⟨cs, fr, hg, fun i hi => by simp at hi⟩

/-- A reader stays as it is where no block that was there has turned but one of another reader. -/
theorem RdAt.keep {b c : Nat} {l m : List UInt8} {x y : Bool} {w w' : World} (h : RdAt b l x w) (k : RdAt c m y w) (hne : b ≠ c) (hg : w.grownBy w' (some c)) : RdAt b l x w' := by
  obtain ⟨g, o, cap, hb, hr, h1, h2⟩ := h
  obtain ⟨_, _, _, hc, _⟩ := k
  have hgc : g ≠ c := by
    intro e
    subst e
    obtain ⟨cs, fr, hg', _⟩ := hr
    rw [hc] at hg'
    simp at hg'
  have hgl : g < w.heap.size := by obtain ⟨cs, fr, hg', _⟩ := hr; exact lt_of_some hg'
  exact ⟨g, o, cap, (hg.block b (lt_of_some hb) (by simpa using hne)).trans hb, hr.keep (hg.block g hgl (by simpa using hgc)), h1, h2⟩

theorem RdAt.below {b : Nat} {l : List UInt8} {x : Bool} {w w' : World} (h : RdAt b l x w) (hg : Below w.heap.size w w') : RdAt b l x w' := by
  obtain ⟨g, o, cap, hb, hr, h1, h2⟩ := h
  have hgl : g < w.heap.size := by obtain ⟨cs, fr, hg', _⟩ := hr; exact lt_of_some hg'
  exact ⟨g, o, cap, (hg.block b (lt_of_some hb)).trans hb, hr.keep (hg.block g hgl), h1, h2⟩

theorem RdAt.lt {b : Nat} {l : List UInt8} {x : Bool} {w : World} (h : RdAt b l x w) : b < w.heap.size := by
  obtain ⟨_, _, _, hb, _⟩ := h
  exact lt_of_some hb

def okNew (s : ByteArray) (w : World) (e : Ending) (w' : World) : Prop :=
  ∃ b, e = .returned (.pointer (some ⟨b, 0, none⟩)) ∧ w.heap.size ≤ b ∧ RdAt b (bl s) false w' ∧ Below w.heap.size w w'

set_option maxHeartbeats 400000 in
theorem new_any (s : ByteArray) (w : World) (hs : s.size ≤ 140737488355328) :
    Calls Tryd.prog 52 #[.string s] w (okNew s w) := by
  have hcv := Lib.run_convert_string_bytes (P := Tryd.prog) w 9 61 5 s Tryd.underlying9 Tryd.underlying61 Tryd.underlying5
  have hsz := Lib.bytesWorld_size w 5 s
  have hnew := Lib.bytesWorld_at_new w 5 s
  have hold := Lib.bytesWorld_at_old w 5 s
  have hcap := grownCap_ge w s.size 0 5
  have hcell : ∀ i (h : i < (bl s).length), (Lib.bytesCells w 5 s)[0 + i]? = some (.int .u8 ((bl s)[i].toNat : Int)) := by
    intro i hi
    have hi' : i < s.size := by rw [← bl_len]; exact hi
    have := Lib.bytesWorld_cell w 5 s i hi'
    simp [World.cell?, hnew] at this
    rw [Nat.zero_add, this]
    simp [bl, hi']
  have hos : (Lib.bytesWorld w 5 s).os = w.os ∧ (Lib.bytesWorld w 5 s).tape = w.tape ∧ (Lib.bytesWorld w 5 s).output = w.output := ⟨rfl, rfl, rfl⟩
  have hbel : Below w.heap.size w (Lib.bytesWorld w 5 s) := ⟨hos.1, hos.2.1, hos.2.2, by omega, fun k hk => hold k hk⟩
  have hlen := bl_len s
  generalize Lib.bytesWorld w 5 s = W1 at *
  generalize grownCap w s.size 0 5 = cap at *
  have Hsz := Lib.hid hsz
  have Hnew := Lib.hid hnew
  have Hcell := Lib.hid hcell
  have Hlen := Lib.hid hlen
  clear hsz hnew hcell hold hos hlen
  go_enter Tryd.func52, Tryd.ntmps52
  go_wp2
  go_ret
  have Hl := Hlen.out
  have hW : (W1.alloc (.cells #[.slice (some ⟨w.heap.size, 0, none⟩) s.size cap, .bool false] 99)).heap[W1.heap.size]? = some (.cells #[.slice (some ⟨w.heap.size, 0, none⟩) s.size cap, .bool false] 99 (0, 0)) := by
    show (W1.heap.push _)[W1.heap.size]? = _
    simp
  have hO := Below.heap_alloc W1 (.cells #[.slice (some ⟨w.heap.size, 0, none⟩) s.size cap, .bool false] 99) w.heap.size (by have := Hsz.out; omega)
  refine ⟨W1.heap.size, rfl, by have := Hsz.out; omega, ⟨w.heap.size, 0, cap, by rw [Hl]; exact hW, ⟨_, _, hO.trans Hnew.out, Hcell.out⟩, by omega, by omega⟩, below_new hbel _⟩

/-! ### Asking -/

theorem ok_yes (b : Nat) (l : List UInt8) (w : World) (h : RdAt b l false w) :
    Calls Tryd.prog 73 #[.pointer (some ⟨b, 0, none⟩)] w fun e w' => e = .returned (.bool true) ∧ w = w' := by
  obtain ⟨g, o, cap, hb, _⟩ := h
  have h1 : w.cell? ⟨b, 1, none⟩ = some (.bool false) := by simp [World.cell?, hb]
  clear hb
  go_enter Tryd.func73, Tryd.ntmps73
  go_wp2
  go_ret
  exact ⟨rfl, rfl⟩

theorem ok_no (b : Nat) (l : List UInt8) (w : World) (h : RdAt b l true w) :
    Calls Tryd.prog 73 #[.pointer (some ⟨b, 0, none⟩)] w fun e w' => e = .returned (.bool false) ∧ w = w' := by
  obtain ⟨g, o, cap, hb, _⟩ := h
  have h1 : w.cell? ⟨b, 1, none⟩ = some (.bool true) := by simp [World.cell?, hb]
  clear hb
  go_enter Tryd.func73, Tryd.ntmps73
  go_wp2
  go_ret
  exact ⟨rfl, rfl⟩

theorem ok_nil (w : World) :
    Calls Tryd.prog 73 #[.pointer none] w fun e w' => e = .returned (.bool false) ∧ w = w' := by
  go_enter Tryd.func73, Tryd.ntmps73
  go_wp2
  go_ret
  exact ⟨rfl, rfl⟩

/-! ### Cutting -/

def tailOff (o len n : Nat) : Nat := if len = n then o else o + n

def okTake (b g o : Nat) (l : List UInt8) (n : Nat) (x : Bool) (w : World) (e : Ending) (w' : World) : Prop :=
  e = .returned (.tuple #[.slice (some ⟨g, o, none⟩) n n, .bool true]) ∧ RdOf b g (tailOff o l.length n) (l.length - n) (l.drop n) x w' ∧ w.grownBy w' (some b) ∧ Row w' g o (l.take n)

theorem slice_head (g o len cap : Nat) (n : Int) (h0 : 0 ≤ n) (hn : n.toNat ≤ cap) (w : World) :
    (Instr.slice 61 (.slice (some ⟨g, o, none⟩) len cap) none (some (.int .u64 n)) (some (.int .u64 n))).run Tryd.prog w = .ok (.slice (some ⟨g, o, none⟩) n.toNat n.toNat) w := by
  have h1 : n ≤ (cap : Int) := by omega
  rw [run_slice_any (P := Tryd.prog) w 61 (some ⟨g, o, none⟩) len cap Tryd.underlying61]
  simp [Instr.sliceBounds, run_sliceBound, h0, h1, go_sem]
  intro h
  omega


theorem slice_tail (g o len cap : Nat) (n : Int) (h0 : 0 ≤ n) (hn : n.toNat ≤ len) (hc : len ≤ cap) (w : World) :
    (Instr.slice 61 (.slice (some ⟨g, o, none⟩) len cap) (some (.int .u64 n)) (some (.int .i64 (len : Int))) (some (.int .i64 (len : Int)))).run Tryd.prog w = .ok (.slice (some ⟨g, tailOff o len n.toNat, none⟩) (len - n.toNat) (len - n.toNat)) w := by
  have h1 : n ≤ (len : Int) := by omega
  have h2 : (len : Int) ≤ (cap : Int) := by omega
  rw [run_slice_any (P := Tryd.prog) w 61 (some ⟨g, o, none⟩) len cap Tryd.underlying61]
  unfold tailOff
  by_cases hl : len = n.toNat
  · simp [Instr.sliceBounds, run_sliceBound, h0, h1, hc, go_sem]
    rw [if_pos hl, if_pos hl]
  · simp [Instr.sliceBounds, run_sliceBound, h0, h1, hc, hl, go_sem]

theorem row_tail {w : World} {g o : Nat} {l : List UInt8} (h : Row w g o l) (n : Nat) : Row w g (tailOff o l.length n) (l.drop n) := by
  unfold tailOff
  split
  · have e : l.drop n = [] := by simp; omega
    rw [e]
    exact h.nil0 o
  · exact h.drop n

set_option maxHeartbeats 400000 in
theorem take_yes (b g o cap : Nat) (l : List UInt8) (x : Bool) (n : Int) (w : World) (hR : RdOf b g o cap l x w) (h0 : 0 ≤ n) (hn : n.toNat ≤ l.length) :
    Calls Tryd.prog 86 #[.pointer (some ⟨b, 0, none⟩), .int .u64 n] w (okTake b g o l n.toNat x w) := by
  obtain ⟨hb, hr, hc, hl⟩ := hR
  have h1 : w.cell? ⟨b, 0, none⟩ = some (.slice (some ⟨g, o, none⟩) l.length cap) := by simp [World.cell?, hb]
  have h2 : w.frozen? ⟨b, 0, none⟩ = false := by simp [World.frozen?, hb]
  have hs1 := slice_head g o l.length cap n h0 (by omega) w
  have hs2 := slice_tail g o l.length cap n h0 hn hc w
  have ht : ¬ ((l.length : Int) < n) := by omega
  have hw := heap_setCell_same w b 0 _ 99 (.slice (some ⟨g, tailOff o l.length n.toNat, none⟩) (l.length - n.toNat) (l.length - n.toNat)) hb
  have hgr : w.grownBy (w.setCell ⟨b, 0, none⟩ (.slice (some ⟨g, tailOff o l.length n.toNat, none⟩) (l.length - n.toNat) (l.length - n.toNat))) (some b) :=
    ⟨rfl, rfl, rfl, by simp [World.setCell], fun k _ hk => Below.heap_setCell _ _ _ _ (fun e => hk (by simp [e]))⟩
  have hgb : g ≠ b := by
    intro e
    subst e
    obtain ⟨cs, fr, hg', _⟩ := hr
    rw [hb] at hg'
    simp at hg'
  have hgk := Below.heap_setCell w ⟨b, 0, none⟩ (.slice (some ⟨g, tailOff o l.length n.toNat, none⟩) (l.length - n.toNat) (l.length - n.toNat)) g hgb
  have hr1 := (row_tail hr n.toNat).keep hgk
  have hr2 := (hr.take n.toNat).keep hgk
  have hfin : RdOf b g (tailOff o l.length n.toNat) (l.length - n.toNat) (l.drop n.toNat) x (w.setCell ⟨b, 0, none⟩ (.slice (some ⟨g, tailOff o l.length n.toNat, none⟩) (l.length - n.toNat) (l.length - n.toNat))) := by
    refine ⟨?_, hr1, by simp, by simp; omega⟩
    rw [hw]
    simp
  have Hf := Lib.hid hfin
  have Hg := Lib.hid hgr
  have Hr2 := Lib.hid hr2
  clear hfin hgr hr1 hr2 hgk hw hb
  go_enter Tryd.func86, Tryd.ntmps86
  go_wp2
  go_ret2
  exact ⟨rfl, Hf.out, Hg.out, Hr2.out⟩

def okTakeNo (w : World) (e : Ending) (w' : World) : Prop := e = .returned (.tuple #[.slice none 0 0, .bool false]) ∧ w = w'

set_option maxHeartbeats 400000 in
theorem take_no (b g o cap : Nat) (l : List UInt8) (x : Bool) (n : Int) (w : World) (hR : RdOf b g o cap l x w) (hn : (l.length : Int) < n) :
    Calls Tryd.prog 86 #[.pointer (some ⟨b, 0, none⟩), .int .u64 n] w (okTakeNo w) := by
  obtain ⟨hb, _, _, hl⟩ := hR
  have h1 : w.cell? ⟨b, 0, none⟩ = some (.slice (some ⟨g, o, none⟩) l.length cap) := by simp [World.cell?, hb]
  clear hb
  go_enter Tryd.func86, Tryd.ntmps86
  go_wp2
  go_ret2
  exact ⟨rfl, rfl⟩

end Go.Proofs.YtchdamlnbmngbaaDoor.wi

/- What reading a number and a text off a reader does: num, text, read, Num and Text of package wire. -/
namespace Go.Proofs.YtchdamlnbmngbaaDoor.wi
open Go.RowKit
set_option maxRecDepth 100000

def okNum (b : Nat) (l : List UInt8) (x : Bool) (w : World) (e : Ending) (w' : World) : Prop :=
  w.grownBy w' (some b) ∧
    ((∃ n r, rdNum l = some (n, r) ∧ e = .returned (.tuple #[.int .u64 (n : Int), .bool true]) ∧ RdAt b r x w') ∨
     (rdNum l = none ∧ e = .returned (.tuple #[.int .u64 0, .bool false]) ∧ ∃ m, RdAt b m x w'))

set_option maxHeartbeats 400000 in
theorem num_empty (b : Nat) (x : Bool) (w : World) (h : RdAt b [] x w) :
    Calls Tryd.prog 85 #[.func (.func 86) #[.pointer (some ⟨b, 0, none⟩)] #[]] w (okNum b [] x w) := by
  obtain ⟨g, o, cap, hR⟩ := h
  have hR' : RdAt b [] x w := ⟨g, o, cap, hR⟩
  go_enter Tryd.func85, Tryd.ntmps85
  go_wp2_with (go_at_call 86; refine (take_no b g o cap [] x 1 _ hR (by simp)).mono ?_; rintro e w' ⟨rfl, rfl⟩)
  go_ret2
  exact ⟨grown_refl _ _, .inr ⟨rfl, rfl, [], hR'⟩⟩

theorem Row.cell0 {w : World} {g o : Nat} {k : UInt8} {r : List UInt8} (h : Row w g o (k :: r)) : w.cell? ⟨g, o, none⟩ = some (.int .u8 (k.toNat : Int)) := by
  have := h.cell 0 (by simp)
  simpa using this

set_option maxHeartbeats 400000 in
theorem num_big (b : Nat) (k : UInt8) (r : List UInt8) (x : Bool) (w : World) (h : RdAt b (k :: r) x w) (hk : 8 < k.toNat) :
    Calls Tryd.prog 85 #[.func (.func 86) #[.pointer (some ⟨b, 0, none⟩)] #[]] w (okNum b (k :: r) x w) := by
  obtain ⟨g, o, cap, hR⟩ := h
  have hki : (8 : Int) < (k.toNat : Int) := by omega
  have hnone : rdNum (k :: r) = none := by simp [rdNum, hk]
  have Hn := Lib.hid hnone
  clear hnone
  go_enter Tryd.func85, Tryd.ntmps85
  go_wp2_with (go_at_call 86; refine (take_yes b g o cap (k :: r) x 1 _ hR (by decide) (by simp)).mono ?_)
  rintro e w1 ⟨rfl, h1, h2, h3⟩
  have hc : w1.cell? ⟨g, o, none⟩ = some (.int .u8 (k.toNat : Int)) := Row.cell0 (r := []) h3
  have H1 := Lib.hid h1
  have H2 := Lib.hid h2
  clear h1 h2 h3
  go_wp2
  go_ret2
  exact ⟨H2.out, .inr ⟨Hn.out, rfl, r, ⟨_, _, _, H1.out⟩⟩⟩

set_option maxHeartbeats 400000 in
theorem num_short (b : Nat) (k : UInt8) (r : List UInt8) (x : Bool) (w : World) (h : RdAt b (k :: r) x w) (hk : k.toNat ≤ 8) (hr : r.length < k.toNat) :
    Calls Tryd.prog 85 #[.func (.func 86) #[.pointer (some ⟨b, 0, none⟩)] #[]] w (okNum b (k :: r) x w) := by
  obtain ⟨g, o, cap, hR⟩ := h
  have hki : ¬ (8 : Int) < (k.toNat : Int) := by omega
  have hnone : rdNum (k :: r) = none := by simp [rdNum, Nat.not_lt.2 hk, hr]
  have Hn := Lib.hid hnone
  clear hnone
  go_enter Tryd.func85, Tryd.ntmps85
  go_wp2_with (go_at_call 86; refine (take_yes b g o cap (k :: r) x 1 _ hR (by decide) (by simp)).mono ?_)
  rintro e w1 ⟨rfl, h1, h2, h3⟩
  have hc : w1.cell? ⟨g, o, none⟩ = some (.int .u8 (k.toNat : Int)) := Row.cell0 (r := []) h3
  have H1 := Lib.hid h1
  have H2 := Lib.hid h2
  clear h1 h2 h3
  go_wp2_with (go_at_call 86; refine (take_no b g _ _ r x _ _ H1.out (by omega)).mono ?_; rintro e w' ⟨rfl, rfl⟩)
  go_ret2
  exact ⟨H2.out, .inr ⟨Hn.out, rfl, r, ⟨_, _, _, H1.out⟩⟩⟩

set_option maxHeartbeats 400000 in
theorem num_zero (b : Nat) (k : UInt8) (r : List UInt8) (x : Bool) (w : World) (h : RdAt b (k :: r) x w) (hk : k.toNat ≤ 8) (hr : k.toNat ≤ r.length) (h0 : (r.take k.toNat).head? = some 0) :
    Calls Tryd.prog 85 #[.func (.func 86) #[.pointer (some ⟨b, 0, none⟩)] #[]] w (okNum b (k :: r) x w) := by
  obtain ⟨g, o, cap, hR⟩ := h
  have hki : ¬ (8 : Int) < (k.toNat : Int) := by omega
  have hnone : rdNum (k :: r) = none := by simp [rdNum, Nat.not_lt.2 hk, Nat.not_lt.2 hr]; exact h0
  have Hn := Lib.hid hnone
  have hkp : (0 : Int) < (k.toNat : Int) := by
    have : k.toNat ≠ 0 := by
      intro e
      rw [e] at h0
      simp at h0
    omega
  have H0 := Lib.hid h0
  clear hnone h0
  go_enter Tryd.func85, Tryd.ntmps85
  go_wp2_with (go_at_call 86; refine (take_yes b g o cap (k :: r) x 1 _ hR (by decide) (by simp)).mono ?_)
  rintro e w1 ⟨rfl, h1, h2, h3⟩
  have hc : w1.cell? ⟨g, o, none⟩ = some (.int .u8 (k.toNat : Int)) := Row.cell0 (r := []) h3
  obtain ⟨o1, c1, h1⟩ : ∃ o1 c1, RdOf b g o1 c1 r x w1 := ⟨_, _, h1⟩
  have H1 := Lib.hid h1
  have H2 := Lib.hid h2
  clear h1 h2 h3
  go_wp2_with (go_at_call 86; refine (take_yes b g o1 c1 r x (k.toNat : Int) _ H1.out (by omega) (by omega)).mono ?_)
  rintro e w2 ⟨rfl, h1, h2, h3⟩
  rw [Int.toNat_natCast] at h1 h3
  have hc0 : w2.cell? ⟨g, o1, none⟩ = some (.int .u8 0) := by
    have e0 := H0.out
    cases hd : r.take k.toNat with
    | nil => rw [hd] at e0; simp at e0
    | cons y q =>
      rw [hd] at e0 h3
      simp at e0
      subst e0
      exact Row.cell0 h3
  have H3 := Lib.hid h1
  have H4 := Lib.hid h2
  clear h1 h2 h3 hc
  go_wp2
  go_ret2
  exact ⟨grown_trans H2.out H4.out, .inr ⟨Hn.out, rfl, _, ⟨_, _, _, H3.out⟩⟩⟩

end Go.Proofs.YtchdamlnbmngbaaDoor.wi

/- Reading a number's bytes that are good ones. -/
namespace Go.Proofs.YtchdamlnbmngbaaDoor.wi
open Go.RowKit
set_option maxRecDepth 100000


theorem or_byte (v z : Nat) (hv : v < 72057594037927936) (hz : z < 256) : bits BinOp.or IntKind.u64 ((v : Int) * 256) (z : Int) = ((v * 256 + z : Nat) : Int) := by
  have e : (v : Int) * 256 = ((v * 256 : Nat) : Int) := by omega
  rw [e, u64_or_nat _ _ (by omega) (by omega)]
  have := Nat.shiftLeft_add_eq_or_of_lt (i := 8) (b := z) (by omega) v
  rw [Nat.shiftLeft_eq, show (2 : Nat) ^ 8 = 256 from rfl] at this
  rw [← this]

def NumRel (d : List UInt8) (n i : Value) : Prop := ∃ j : Nat, j ≤ d.length ∧ i = .int .i64 (j : Int) ∧ n = .int .u64 (val (d.take j) : Int)

set_option maxHeartbeats 800000 in
theorem num_good (b : Nat) (k : UInt8) (r : List UInt8) (x : Bool) (w : World) (h : RdAt b (k :: r) x w) (hk : k.toNat ≤ 8) (hr : k.toNat ≤ r.length) (h0 : ¬ (r.take k.toNat).head? = some 0) :
    Calls Tryd.prog 85 #[.func (.func 86) #[.pointer (some ⟨b, 0, none⟩)] #[]] w (okNum b (k :: r) x w) := by
  obtain ⟨g, o, cap, hR⟩ := h
  have hki : ¬ (8 : Int) < (k.toNat : Int) := by omega
  have hsome : rdNum (k :: r) = some (val (r.take k.toNat), r.drop k.toNat) := by simp [rdNum, Nat.not_lt.2 hk, Nat.not_lt.2 hr, h0]
  have Hn := Lib.hid hsome
  have H0 := Lib.hid h0
  clear hsome h0
  go_enter Tryd.func85, Tryd.ntmps85
  go_wp2_with (go_at_call 86; refine (take_yes b g o cap (k :: r) x 1 _ hR (by decide) (by simp)).mono ?_)
  rintro e w1 ⟨rfl, h1, h2, h3⟩
  have hc : w1.cell? ⟨g, o, none⟩ = some (.int .u8 (k.toNat : Int)) := Row.cell0 (r := []) h3
  obtain ⟨o1, c1, h1⟩ : ∃ o1 c1, RdOf b g o1 c1 r x w1 := ⟨_, _, h1⟩
  have H1 := Lib.hid h1
  have H2 := Lib.hid h2
  clear h1 h2 h3
  go_wp2_with (go_at_call 86; refine (take_yes b g o1 c1 r x (k.toNat : Int) _ H1.out (by omega) (by omega)).mono ?_)
  rintro e w2 ⟨rfl, h1, h2, h3⟩
  rw [Int.toNat_natCast] at h1 h3
  have H3 := Lib.hid h1
  have H4 := Lib.hid h2
  have hlen : (r.take k.toNat).length = k.toNat := by simp; omega
  obtain ⟨d, hd⟩ : ∃ d, d = r.take k.toNat := ⟨_, rfl⟩
  have hE : Hid (rdNum (k :: r) = some (val d, r.drop k.toNat)) := by rw [hd]; exact Hn
  have hZ : Hid (¬ d.head? = some 0) := by rw [hd]; exact H0
  rw [← hd] at hlen h3
  clear hd Hn H0 h1 h2 hc hR
  have hkb : k.toNat ≤ 8 := hk
  cases d with
  | nil =>
    have hk0 : ¬ (0 : Int) < (k.toNat : Int) := by simp at hlen; omega
    have Hl := Lib.hid hlen
    have H5 := Lib.hid h3
    clear hlen h3 hZ
    go_wp2
    go_loop [7, 47] (fun n i => NumRel [] n i) (fun _ i => k.toNat - (intOf i).toNat)
    case atStart => exact ⟨0, Nat.zero_le _, rfl, rfl⟩
    case round =>
      obtain ⟨j, hj, rfl, rfl⟩ := hrel
      have hlt : ¬ j < k.toNat := by omega
      go_wp2
      go_ret2
      exact ⟨grown_trans H2.out H4.out, .inl ⟨val [], _, hE.out, by simp, _, _, _, H3.out⟩⟩
  | cons y q =>
    have hk0 : (0 : Int) < (k.toNat : Int) := by simp at hlen; omega
    have hc := Row.cell0 h3
    have hy : ((y.toNat : Int) == 0) = false := by
      have hz := hZ.out
      simp at hz
      have : y.toNat ≠ 0 := fun e => hz (by apply UInt8.toNat_inj.1; simpa using e)
      simp; omega
    have Hl := Lib.hid hlen
    have H5 := Lib.hid h3
    clear hlen h3 hZ
    go_wp2
    go_loop [7, 47] (fun n i => NumRel (y :: q) n i) (fun _ i => k.toNat - (intOf i).toNat)
    case atStart => exact ⟨0, Nat.zero_le _, rfl, rfl⟩
    case round =>
      obtain ⟨j, hj, rfl, rfl⟩ := hrel
      by_cases hlt : j < k.toNat
      · have hl := Hl.out
        have hc := H5.out.cell j (by omega)
        have hb : val ((y :: q).take j) < 72057594037927936 := by
          have a := val_lt ((y :: q).take j)
          have b : 256 ^ ((y :: q).take j).length ≤ 256 ^ 7 := Nat.pow_le_pow_right (by omega) (by rw [List.length_take]; omega)
          have e : (256 : Nat) ^ 7 = 72057594037927936 := by decide
          omega
        have hs := val_step (y :: q) j (by omega)
        have Hs := Lib.hid hs
        generalize val ((y :: q).take j) = v at *
        generalize (y :: q)[j] = z at *
        have hzb : z.toNat < 256 := z.toNat_lt
        clear hs
        go_wp2
        rw [or_byte v z.toNat hb hzb]
        exact ⟨⟨j + 1, by omega, by go_num, by rw [Hs.out]⟩, by simp [intOf]; omega⟩
      · have hl := Hl.out
        have hjl : j = (y :: q).length := by omega
        have ht : val ((y :: q).take j) = val (y :: q) := by rw [hjl, List.take_length]
        have Ht := Lib.hid ht
        clear ht hjl hl
        go_wp2
        go_ret2
        exact ⟨grown_trans H2.out H4.out, .inl ⟨val (y :: q), _, hE.out, by rw [← Ht.out]; rfl, _, _, _, H3.out⟩⟩

theorem num_any (b : Nat) (l : List UInt8) (x : Bool) (w : World) (h : RdAt b l x w) :
    Calls Tryd.prog 85 #[.func (.func 86) #[.pointer (some ⟨b, 0, none⟩)] #[]] w (okNum b l x w) := by
  cases l with
  | nil => exact num_empty b x w h
  | cons k r =>
    by_cases hk : k.toNat ≤ 8
    · by_cases hr : k.toNat ≤ r.length
      · by_cases h0 : (r.take k.toNat).head? = some 0
        · exact num_zero b k r x w h hk hr h0
        · exact num_good b k r x w h hk hr h0
      · exact num_short b k r x w h hk (by omega)
    · exact num_big b k r x w h (by omega)

end Go.Proofs.YtchdamlnbmngbaaDoor.wi

/- What reading a number off a reader does: read, Num of package wire. -/
namespace Go.Proofs.YtchdamlnbmngbaaDoor.wi
open Go.RowKit
set_option maxRecDepth 100000

theorem RdAt.flag {b : Nat} {l : List UInt8} {x : Bool} {w : World} (h : RdAt b l x w) (y : Bool) : RdAt b l y (w.setCell ⟨b, 1, none⟩ (.bool y)) := by
  obtain ⟨g, o, cap, hb, hr, h1, h2⟩ := h
  have hgb : g ≠ b := by
    intro e
    subst e
    obtain ⟨cs, fr, hg', _⟩ := hr
    rw [hb] at hg'
    simp at hg'
  have hw := heap_setCell_same w b 1 _ 99 (.bool y) hb
  exact ⟨g, o, cap, by rw [hw]; simp, hr.keep (Below.heap_setCell w _ _ g hgb), h1, h2⟩

theorem RdAt.flagGrown (b : Nat) (w : World) (v : Value) : w.grownBy (w.setCell ⟨b, 1, none⟩ v) (some b) :=
  ⟨rfl, rfl, rfl, by simp [World.setCell], fun k _ hk => Below.heap_setCell _ _ _ _ (fun e => hk (by simp [e]))⟩

theorem RdAt.cell1 {b : Nat} {l : List UInt8} {x : Bool} {w : World} (h : RdAt b l x w) : w.cell? ⟨b, 1, none⟩ = some (.bool x) ∧ w.frozen? ⟨b, 1, none⟩ = false := by
  obtain ⟨g, o, cap, hb, _⟩ := h
  exact ⟨by simp [World.cell?, hb], by simp [World.frozen?, hb]⟩

def okRdNum (b : Nat) (l : List UInt8) (w : World) (e : Ending) (w' : World) : Prop :=
  w.grownBy w' (some b) ∧
    ((∃ n r, rdNum l = some (n, r) ∧ e = .returned (.int .u64 (n : Int)) ∧ RdAt b r false w') ∨
     (rdNum l = none ∧ e = .returned (.int .u64 0) ∧ ∃ m, RdAt b m true w'))

set_option maxHeartbeats 400000 in
theorem readNum_any (b : Nat) (l : List UInt8) (w : World) (h : RdAt b l false w) :
    Calls Tryd.prog 84 #[.pointer (some ⟨b, 0, none⟩), .func (.func 85) #[] #[]] w (okRdNum b l w) := by
  go_enter Tryd.func84, Tryd.ntmps84
  go_wp2_with (go_at_call 73; refine (ok_yes b l _ h).mono ?_; rintro e w' ⟨rfl, rfl⟩)
  go_wp2_with (go_at_call 85; refine (num_any b l false _ h).mono ?_)
  rintro e w1 ⟨hg, ⟨n, r, hn, rfl, hr⟩ | ⟨hn, rfl, m, hm⟩⟩
  · have Hn := Lib.hid hn
    have Hg := Lib.hid hg
    obtain ⟨hc, hf⟩ := hr.cell1
    have Hr := Lib.hid (hr.flag false)
    clear hn hg hr
    go_wp2
    go_ret
    exact ⟨grown_trans Hg.out (RdAt.flagGrown _ _ _), .inl ⟨n, r, Hn.out, rfl, Hr.out⟩⟩
  · have Hn := Lib.hid hn
    have Hg := Lib.hid hg
    obtain ⟨hc, hf⟩ := hm.cell1
    have Hr := Lib.hid (hm.flag true)
    clear hn hg hm
    go_wp2
    go_ret
    exact ⟨grown_trans Hg.out (RdAt.flagGrown _ _ _), .inr ⟨Hn.out, rfl, m, Hr.out⟩⟩

theorem readNum_bad (b : Nat) (l : List UInt8) (w : World) (h : RdAt b l true w) :
    Calls Tryd.prog 84 #[.pointer (some ⟨b, 0, none⟩), .func (.func 85) #[] #[]] w fun e w' => e = .returned (.int .u64 0) ∧ w = w' := by
  go_enter Tryd.func84, Tryd.ntmps84
  go_wp2_with (go_at_call 73; refine (ok_no b l _ h).mono ?_; rintro e w' ⟨rfl, rfl⟩)
  go_ret
  exact ⟨rfl, rfl⟩

theorem readNum_nil (w : World) :
    Calls Tryd.prog 84 #[.pointer none, .func (.func 85) #[] #[]] w fun e w' => e = .returned (.int .u64 0) ∧ w = w' := by
  go_enter Tryd.func84, Tryd.ntmps84
  go_wp2_with (go_at_call 73; refine (ok_nil _).mono ?_; rintro e w' ⟨rfl, rfl⟩)
  go_ret
  exact ⟨rfl, rfl⟩

theorem num_good1 (b : Nat) (l : List UInt8) (w : World) (h : RdAt b l false w) : Calls Tryd.prog 79 #[.pointer (some ⟨b, 0, none⟩)] w (okRdNum b l w) := by
  go_enter Tryd.func79, Tryd.ntmps79
  go_wp2_with (go_at_call 84; refine (readNum_any b l _ h).mono ?_)
  rintro e w1 ⟨hg, ⟨n, r, hn, rfl, hr⟩ | ⟨hn, rfl, hm⟩⟩
  · have H : Hid (okRdNum b l w (.returned (.int .u64 (n : Int))) w1) := ⟨hg, .inl ⟨n, r, hn, rfl, hr⟩⟩
    clear hg hn hr
    go_wp2
    go_ret
    exact H.out
  · have H : Hid (okRdNum b l w (.returned (.int .u64 0)) w1) := ⟨hg, .inr ⟨hn, rfl, hm⟩⟩
    clear hg hn hm
    go_wp2
    go_ret
    exact H.out

theorem num_bad1 (b : Nat) (l : List UInt8) (w : World) (h : RdAt b l true w) : Calls Tryd.prog 79 #[.pointer (some ⟨b, 0, none⟩)] w fun e w' => e = .returned (.int .u64 0) ∧ w = w' := by
  go_enter Tryd.func79, Tryd.ntmps79
  go_wp2_with (go_at_call 84; refine (readNum_bad b l _ h).mono ?_; rintro e w' ⟨rfl, rfl⟩)
  go_ret
  exact ⟨rfl, rfl⟩

theorem num_nil1 (w : World) : Calls Tryd.prog 79 #[.pointer none] w fun e w' => e = .returned (.int .u64 0) ∧ w = w' := by
  go_enter Tryd.func79, Tryd.ntmps79
  go_wp2_with (go_at_call 84; refine (readNum_nil _).mono ?_; rintro e w' ⟨rfl, rfl⟩)
  go_ret
  exact ⟨rfl, rfl⟩

end Go.Proofs.YtchdamlnbmngbaaDoor.wi

/- What the document's own reader does: Num, Text, OK, End of package stemmaref01. -/
namespace Go.Proofs.YtchdamlnbmngbaaDoor.wi
open Go.RowKit
set_option maxRecDepth 100000

/-- Block c is the document's reader that has s left. -/
def QAt (c : Nat) (s : ByteArray) (bad : Bool) (w : World) : Prop := w.heap[c]? = some (.cells #[.string s, .bool bad] 85 (0, 0)) ∧ s.size ≤ 1000000

theorem QAt.cells {c : Nat} {s : ByteArray} {bad : Bool} {w : World} (h : QAt c s bad w) :
    w.cell? ⟨c, 0, none⟩ = some (.string s) ∧ w.cell? ⟨c, 1, none⟩ = some (.bool bad) ∧ w.frozen? ⟨c, 0, none⟩ = false ∧ w.frozen? ⟨c, 1, none⟩ = false := by
  obtain ⟨hb, _⟩ := h
  exact ⟨by simp [World.cell?, hb], by simp [World.cell?, hb], by simp [World.frozen?, hb], by simp [World.frozen?, hb]⟩

theorem QAt.set0 {c : Nat} {s : ByteArray} {bad : Bool} {w : World} (h : QAt c s bad w) (t : ByteArray) (ht : t.size ≤ 1000000) : QAt c t bad (w.setCell ⟨c, 0, none⟩ (.string t)) := by
  have := heap_setCell_same w c 0 _ 85 (.string t) h.1
  exact ⟨by rw [this]; simp, ht⟩

theorem QAt.set1 {c : Nat} {s : ByteArray} {bad : Bool} {w : World} (h : QAt c s bad w) (x : Bool) : QAt c s x (w.setCell ⟨c, 1, none⟩ (.bool x)) := by
  have := heap_setCell_same w c 1 _ 85 (.bool x) h.1
  exact ⟨by rw [this]; simp, h.2⟩

theorem grown_set (c o : Nat) (w : World) (v : Value) : w.grownBy (w.setCell ⟨c, o, none⟩ v) (some c) :=
  ⟨rfl, rfl, rfl, by simp [World.setCell], fun k _ hk => Below.heap_setCell _ _ _ _ (fun e => hk (by simp [e]))⟩

theorem grown_drewN {w w' : World} {r : Option Nat} (h : w.grownBy w' r) (n : Nat) : w.grownBy (w'.drewN n) r := ⟨h.os, h.tape, h.output, h.size, h.block⟩

theorem grown_past {w w' : World} {r : Option Nat} {n : Nat} (h : (w.drewN n).grownBy w' r) : w.grownBy w' r := ⟨h.os, h.tape, h.output, h.size, h.block⟩

theorem fail_any (c : Nat) (s : ByteArray) (bad : Bool) (w : World) (h : QAt c s bad w) :
    Calls Tryd.prog 74 #[.pointer (some ⟨c, 0, none⟩)] w fun e w' => e = .returned (.tuple #[]) ∧ QAt c ⟨#[]⟩ true w' ∧ w.grownBy w' (some c) := by
  obtain ⟨h1, h2, h3, h4⟩ := h.cells
  have H := Lib.hid ((h.set0 ⟨#[]⟩ (by decide)).set1 true)
  have G := Lib.hid (grown_trans (grown_set c 0 w (.string ⟨#[]⟩)) (grown_set c 1 _ (.bool true)))
  clear h
  go_enter Tryd.func74, Tryd.ntmps74
  go_wp2
  go_end0
  exact ⟨rfl, H.out, G.out⟩

end Go.Proofs.YtchdamlnbmngbaaDoor.wi

/- What reading a number off the document's own reader does: Num of package stemmaref01. -/
namespace Go.Proofs.YtchdamlnbmngbaaDoor.wi
open Go.RowKit
set_option maxRecDepth 100000

def okQNum (c : Nat) (s : ByteArray) (w : World) (e : Ending) (w' : World) : Prop :=
  w.grownBy w' (some c) ∧
    ((∃ n r s', rdNum (bl s) = some (n, r) ∧ e = .returned (.int .u64 (n : Int)) ∧ bl s' = r ∧ QAt c s' false w') ∨
     (rdNum (bl s) = none ∧ e = .returned (.int .u64 0) ∧ QAt c ⟨#[]⟩ true w'))

def okQNo (c : Nat) (w : World) (e : Ending) (w' : World) : Prop :=
  w.grownBy w' (some c) ∧ e = .returned (.int .u64 0) ∧ QAt c ⟨#[]⟩ true w'

theorem get_bl (s : ByteArray) (i : Nat) (h : i < s.size) : (bl s)[i]'(by rw [bl_len]; exact h) = s[i] := rfl

theorem bl_cons (s : ByteArray) (h : 0 < s.size) : bl s = s[0] :: (bl s).drop 1 := by
  have hl : 0 < (bl s).length := by rw [bl_len]; exact h
  have := List.drop_eq_getElem_cons hl
  rw [List.drop_zero] at this
  rw [this]
  rfl

set_option maxHeartbeats 800000 in
theorem q_bad (c : Nat) (s : ByteArray) (w : World) (h : QAt c s true w) :
    Calls Tryd.prog 56 #[.pointer (some ⟨c, 0, none⟩)] w (okQNo c w) := by
  obtain ⟨h1, h2, h3, h4⟩ := h.cells
  go_enter Tryd.func56, Tryd.ntmps56
  go_wp2
  go_quiet (fail)
  have hq : QAt c s true (w.drewN nq) := h
  go_wp2_with (go_at_call 74; refine (fail_any c s true _ hq).mono ?_)
  rintro e w2 ⟨rfl, hq2, hg2⟩
  have Hg := Lib.hid (grown_past hg2)
  clear hg2
  go_wp2
  go_ret
  exact ⟨Hg.out, rfl, hq2⟩

set_option maxHeartbeats 800000 in
theorem q_empty (c : Nat) (s : ByteArray) (w : World) (h : QAt c s false w) (hp : s.size = 0) :
    Calls Tryd.prog 56 #[.pointer (some ⟨c, 0, none⟩)] w (okQNo c w) := by
  obtain ⟨h1, h2, h3, h4⟩ := h.cells
  have e1 := Lib.hid (show ((s.size : Int) == 0) = true by rw [beq_iff_eq]; omega)
  clear hp
  go_enter Tryd.func56, Tryd.ntmps56
  go_wp2
  have f1 := e1.out
  go_quiet (fail)
  have hq : QAt c s false (w.drewN nq) := h
  go_wp2_with (go_at_call 74; refine (fail_any c s false _ hq).mono ?_)
  rintro e w2 ⟨rfl, hq2, hg2⟩
  have Hg := Lib.hid (grown_past hg2)
  clear hg2
  go_wp2
  go_ret
  exact ⟨Hg.out, rfl, hq2⟩

set_option maxHeartbeats 800000 in
theorem q_big (c : Nat) (s : ByteArray) (w : World) (h : QAt c s false w) (hp : 0 < s.size) (hk : 8 < s[0].toNat) :
    Calls Tryd.prog 56 #[.pointer (some ⟨c, 0, none⟩)] w (okQNo c w) := by
  obtain ⟨h1, h2, h3, h4⟩ := h.cells
  have hp0 : 0 < s.size := by omega
  have hpi : (0 : Int) < (s.size : Int) := by omega
  have e1 := Lib.hid (show ((s.size : Int) == 0) = false by rw [beq_eq_false_iff_ne]; omega)
  have e2 := Lib.hid (show decide ((8 : Int) < (s[0].toNat : Int)) = true by rw [decide_eq_true_iff]; omega)
  go_enter Tryd.func56, Tryd.ntmps56
  go_wp2
  have f1 := e1.out
  have f2 := e2.out
  go_quiet (fail)
  have hq : QAt c s false (w.drewN nq) := h
  go_wp2_with (go_at_call 74; refine (fail_any c s false _ hq).mono ?_)
  rintro e w2 ⟨rfl, hq2, hg2⟩
  have Hg := Lib.hid (grown_past hg2)
  clear hg2
  go_wp2
  go_ret
  exact ⟨Hg.out, rfl, hq2⟩

set_option maxHeartbeats 800000 in
theorem q_short (c : Nat) (s : ByteArray) (w : World) (h : QAt c s false w) (hp : 0 < s.size) (hk : s[0].toNat ≤ 8) (hl : s.size < 1 + s[0].toNat) :
    Calls Tryd.prog 56 #[.pointer (some ⟨c, 0, none⟩)] w (okQNo c w) := by
  obtain ⟨h1, h2, h3, h4⟩ := h.cells
  have hp0 : 0 < s.size := by omega
  have hpi : (0 : Int) < (s.size : Int) := by omega
  have e1 := Lib.hid (show ((s.size : Int) == 0) = false by rw [beq_eq_false_iff_ne]; omega)
  have e2 := Lib.hid (show decide ((8 : Int) < (s[0].toNat : Int)) = false by rw [decide_eq_false_iff_not]; omega)
  have e3 := Lib.hid (show decide ((s.size : Int) < (1 : Int) + (s[0].toNat : Int)) = true by rw [decide_eq_true_iff]; omega)
  go_enter Tryd.func56, Tryd.ntmps56
  go_wp2
  have f1 := e1.out
  have f2 := e2.out
  have f3 := e3.out
  go_quiet (fail)
  have hq : QAt c s false (w.drewN nq) := h
  go_wp2_with (go_at_call 74; refine (fail_any c s false _ hq).mono ?_)
  rintro e w2 ⟨rfl, hq2, hg2⟩
  have Hg := Lib.hid (grown_past hg2)
  clear hg2
  go_wp2
  go_ret
  exact ⟨Hg.out, rfl, hq2⟩

set_option maxHeartbeats 800000 in
theorem q_zero (c : Nat) (s : ByteArray) (w : World) (h : QAt c s false w) (hp : 1 < s.size) (hk : s[0].toNat ≤ 8) (hl : 1 + s[0].toNat ≤ s.size) (hk0 : 0 < s[0].toNat) (h0 : s[1].toNat = 0) :
    Calls Tryd.prog 56 #[.pointer (some ⟨c, 0, none⟩)] w (okQNo c w) := by
  obtain ⟨h1, h2, h3, h4⟩ := h.cells
  have hp0 : 0 < s.size := by omega
  have hpi : (0 : Int) < (s.size : Int) := by omega
  have e1 := Lib.hid (show ((s.size : Int) == 0) = false by rw [beq_eq_false_iff_ne]; omega)
  have hpi1 : (1 : Int) < (s.size : Int) := by omega
  have e2 := Lib.hid (show decide ((8 : Int) < (s[0].toNat : Int)) = false by rw [decide_eq_false_iff_not]; omega)
  have e3 := Lib.hid (show decide ((s.size : Int) < (1 : Int) + (s[0].toNat : Int)) = false by rw [decide_eq_false_iff_not]; omega)
  have e4 := Lib.hid (show decide ((0 : Int) < (s[0].toNat : Int)) = true by rw [decide_eq_true_iff]; omega)
  have e5 := Lib.hid (show ((s[1].toNat : Int) == 0) = true by rw [beq_iff_eq]; omega)
  clear h0
  go_enter Tryd.func56, Tryd.ntmps56
  go_wp2
  have f1 := e1.out
  have f2 := e2.out
  have f3 := e3.out
  have f4 := e4.out
  have f5 := e5.out
  go_quiet (fail)
  have hq : QAt c s false (w.drewN nq) := h
  go_wp2_with (go_at_call 74; refine (fail_any c s false _ hq).mono ?_)
  rintro e w2 ⟨rfl, hq2, hg2⟩
  have Hg := Lib.hid (grown_past hg2)
  clear hg2
  go_wp2
  go_ret
  exact ⟨Hg.out, rfl, hq2⟩

end Go.Proofs.YtchdamlnbmngbaaDoor.wi

/- What reading a good number off the document's own reader does: Num of package stemmaref01. -/
namespace Go.Proofs.YtchdamlnbmngbaaDoor.wi
open Go.RowKit
set_option maxRecDepth 100000

theorem bl_extract (s : ByteArray) (k : Nat) : bl (s.extract k s.size) = (bl s).drop k := by
  obtain ⟨⟨l⟩⟩ := s
  simp only [bl, ByteArray.size]
  simp
  exact List.take_of_length_le (by simp)

/-- What stands behind the first byte. -/
def restB (s : ByteArray) : List UInt8 := (bl s).drop 1
theorem restB_len (s : ByteArray) : (restB s).length = s.size - 1 := by unfold restB; rw [List.length_drop, bl_len]
theorem restB_get (s : ByteArray) (j : Nat) (h : j + 1 < s.size) : (restB s)[j]'(by rw [restB_len]; omega) = s[j + 1] := by
  unfold restB
  rw [List.getElem_drop]
  have := get_bl s (j + 1) h
  rw [← this]
  congr 1
  omega

def okQYes (c : Nat) (s : ByteArray) (k : Nat) (w : World) (e : Ending) (w' : World) : Prop :=
  w.grownBy w' (some c) ∧ e = .returned (.int .u64 ((val ((restB s).take k) : Nat) : Int)) ∧ QAt c (s.extract (1 + k) s.size) false w'

def QRel (d : List UInt8) (k : Nat) (n i : Value) : Prop := ∃ j : Nat, j ≤ k ∧ i = .int .i64 ((j : Int) + 1) ∧ n = .int .u64 ((val (d.take j) : Nat) : Int)

set_option maxHeartbeats 1600000 in
theorem q_good (c : Nat) (s : ByteArray) (w : World) (h : QAt c s false w) (hp : 1 < s.size) (hk : s[0].toNat ≤ 8) (hl : 1 + s[0].toNat ≤ s.size) (hk0 : 0 < s[0].toNat) (h0 : s[1].toNat ≠ 0) :
    Calls Tryd.prog 56 #[.pointer (some ⟨c, 0, none⟩)] w (okQYes c s s[0].toNat w) := by
  obtain ⟨h1, h2, h3, h4⟩ := h.cells
  have hp0 : 0 < s.size := by omega
  have hpi : (0 : Int) < (s.size : Int) := by omega
  have e1 := Lib.hid (show ((s.size : Int) == 0) = false by rw [beq_eq_false_iff_ne]; omega)
  have hpi1 : (1 : Int) < (s.size : Int) := by omega
  have e2 := Lib.hid (show decide ((8 : Int) < (s[0].toNat : Int)) = false by rw [decide_eq_false_iff_not]; omega)
  have e3 := Lib.hid (show decide ((s.size : Int) < (1 : Int) + (s[0].toNat : Int)) = false by rw [decide_eq_false_iff_not]; omega)
  have e4 := Lib.hid (show decide ((0 : Int) < (s[0].toNat : Int)) = true by rw [decide_eq_true_iff]; omega)
  have e5 := Lib.hid (show ((s[1].toNat : Int) == 0) = false by rw [beq_eq_false_iff_ne]; omega)
  clear h0
  go_enter Tryd.func56, Tryd.ntmps56
  go_wp2
  have f1 := e1.out
  have f2 := e2.out
  have f3 := e3.out
  have f4 := e4.out
  have f5 := e5.out
  go_quiet (fail)
  obtain ⟨W, hW⟩ : ∃ W, W = w.drewN nq := ⟨_, rfl⟩
  have hq : QAt c s false W := by rw [hW]; exact h
  have hgW := Lib.hid (show w.grownBy W (some c) from by rw [hW]; exact grown_drewN (grown_refl w _) nq)
  rw [← hW]
  clear hW h h1 h2 h3 h4
  obtain ⟨h1, h2, h3, h4⟩ := hq.cells
  have hx : (s.extract (1 + s[0].toNat) s.size).size ≤ 1000000 := by have := hq.2; simp; omega
  have HQ := Lib.hid (hq.set0 _ hx)
  have HG := Lib.hid (grown_set c 0 W (.string (s.extract (1 + s[0].toNat) s.size)))
  have hs1 : s.size ≤ 1000000 := hq.2
  have hdl := Lib.hid (restB_len s)
  have HL := Lib.hid hl
  clear hq
  go_wp2
  go_loop [3, 5] (fun n i => QRel (restB s) s[0].toNat n i) (fun _ i => s[0].toNat + 1 - (intOf i).toNat)
  case atStart => exact ⟨0, Nat.zero_le _, rfl, rfl⟩
  case round =>
    obtain ⟨j, hj, rfl, rfl⟩ := hrel
    have hl2 := HL.out
    by_cases hlt : j < s[0].toNat
    · have hd := hdl.out
      have hs := val_step (restB s) j (by omega)
      have hb : val ((restB s).take j) < 72057594037927936 := by
        have a := val_lt ((restB s).take j)
        have b : 256 ^ ((restB s).take j).length ≤ 256 ^ 7 := Nat.pow_le_pow_right (by omega) (by rw [List.length_take]; omega)
        have e : (256 : Nat) ^ 7 = 72057594037927936 := by decide
        omega
      have hji : j + 1 < s.size := by omega
      have hg := restB_get s j hji
      rw [hg] at hs
      have Hs := Lib.hid hs
      have hzb : s[j + 1].toNat < 256 := s[j + 1].toNat_lt
      have hji2 : (j : Int) + 1 < (s.size : Int) := by omega
      clear hs hg hd
      generalize val ((restB s).take j) = v at *
      go_wp2
      exact ⟨⟨j + 1, by omega, by go_num, by rw [Hs.out]; go_num⟩, by simp [intOf]; omega⟩
    · have hjk : s[0].toNat ≤ j := by omega
      have hjj : j = s[0].toNat := by omega
      have Hj := Lib.hid hjj
      clear hjj
      go_wp2
      go_ret
      exact ⟨grown_trans hgW.out HG.out, by rw [← Hj.out]; rfl, HQ.out⟩

end Go.Proofs.YtchdamlnbmngbaaDoor.wi

/- What reading a number whose count is 0, and any number, off the document's own reader does; and a text. -/
namespace Go.Proofs.YtchdamlnbmngbaaDoor.wi
open Go.RowKit
set_option maxRecDepth 100000

def okQZero (c : Nat) (s : ByteArray) (w : World) (e : Ending) (w' : World) : Prop :=
  w.grownBy w' (some c) ∧ e = .returned (.int .u64 0) ∧ QAt c (s.extract 1 s.size) false w'

set_option maxHeartbeats 1600000 in
theorem q_good0 (c : Nat) (s : ByteArray) (w : World) (h : QAt c s false w) (hp : 0 < s.size) (hk0 : s[0].toNat = 0) :
    Calls Tryd.prog 56 #[.pointer (some ⟨c, 0, none⟩)] w (okQZero c s w) := by
  obtain ⟨h1, h2, h3, h4⟩ := h.cells
  have hpi : (0 : Int) < (s.size : Int) := by omega
  have e1 := Lib.hid (show ((s.size : Int) == 0) = false by rw [beq_eq_false_iff_ne]; omega)
  have e3 := Lib.hid (show decide ((s.size : Int) < (1 : Int)) = false by rw [decide_eq_false_iff_not]; omega)
  go_enter Tryd.func56, Tryd.ntmps56
  go_wp2
  have f1 := e1.out
  have f3 := e3.out
  go_quiet (fail)
  obtain ⟨W, hW⟩ : ∃ W, W = w.drewN nq := ⟨_, rfl⟩
  have hq : QAt c s false W := by rw [hW]; exact h
  have hgW := Lib.hid (show w.grownBy W (some c) from by rw [hW]; exact grown_drewN (grown_refl w _) nq)
  rw [← hW]
  clear hW h h1 h2 h3 h4
  obtain ⟨h1, h2, h3, h4⟩ := hq.cells
  have hx : (s.extract 1 s.size).size ≤ 1000000 := by have := hq.2; simp; omega
  have HQ := Lib.hid (hq.set0 _ hx)
  have HG := Lib.hid (grown_set c 0 W (.string (s.extract 1 s.size)))
  have hs1 : s.size ≤ 1000000 := hq.2
  have hs2 : 1 ≤ s.size := hp
  clear hq
  go_wp2
  go_loop [3, 5] (fun n i => n = .int .u64 0 ∧ i = .int .i64 1) (fun _ i => 1 - (intOf i).toNat)
  case atStart => exact ⟨rfl, rfl⟩
  case round =>
    obtain ⟨rfl, rfl⟩ := hrel
    go_wp2
    go_ret
    exact ⟨grown_trans hgW.out HG.out, rfl, HQ.out⟩

theorem rdNum_cons (k : UInt8) (r : List UInt8) : rdNum (k :: r) =
    if 8 < k.toNat then none else if r.length < k.toNat then none else if (r.take k.toNat).head? = some 0 then none else some (val (r.take k.toNat), r.drop k.toNat) := rfl

theorem restB_drop (s : ByteArray) (k : Nat) : (bl s).drop (1 + k) = (restB s).drop k := by
  unfold restB; rw [List.drop_drop]

theorem q_num (c : Nat) (s : ByteArray) (w : World) (h : QAt c s false w) :
    Calls Tryd.prog 56 #[.pointer (some ⟨c, 0, none⟩)] w (okQNum c s w) := by
  have hno : ∀ e w', rdNum (bl s) = none → okQNo c w e w' → okQNum c s w e w' := fun e w' hn ⟨h1, h2, h3⟩ => ⟨h1, .inr ⟨hn, h2, h3⟩⟩
  by_cases hp : 0 < s.size
  · have hc := bl_cons s hp
    have hrl : (restB s).length = s.size - 1 := restB_len s
    have hyes : ∀ e w', ¬ 8 < s[0].toNat → ¬ (restB s).length < s[0].toNat → ¬ ((restB s).take s[0].toNat).head? = some 0 → okQYes c s s[0].toNat w e w' → okQNum c s w e w' := fun e w' g1 g2 g3 ⟨h1, h2, h3⟩ =>
      ⟨h1, .inl ⟨_, (restB s).drop s[0].toNat, _, by rw [hc]; show rdNum (s[0] :: restB s) = _; rw [rdNum_cons, if_neg g1, if_neg g2, if_neg g3], h2, by rw [bl_extract, restB_drop], h3⟩⟩
    by_cases hk : s[0].toNat ≤ 8
    · by_cases hl : 1 + s[0].toNat ≤ s.size
      · by_cases hk0 : s[0].toNat = 0
        · refine (q_good0 c s w h hp hk0).mono fun e w' ⟨h1, h2, h3⟩ => hyes e w' (by omega) (by omega) (by rw [hk0]; simp) ⟨h1, by rw [h2, hk0]; rfl, by rw [hk0]; exact h3⟩
        · have hp1 : 1 < s.size := by omega
          have hhead : ((restB s).take s[0].toNat).head? = some s[1] := by
            have := restB_get s 0 hp1
            cases hr : restB s with
            | nil => rw [hr] at hrl; simp at hrl; omega
            | cons y q =>
              obtain ⟨k, hk1⟩ : ∃ k, s[0].toNat = k + 1 := ⟨s[0].toNat - 1, by omega⟩
              simp only [hr, List.getElem_cons_zero, Nat.zero_add] at this
              rw [hk1, List.take_succ_cons, List.head?_cons, this]
          by_cases h0 : s[1].toNat = 0
          · refine (q_zero c s w h hp1 hk hl (by omega) h0).mono fun e w' => hno e w' ?_
            rw [hc]
            show rdNum (s[0] :: restB s) = none
            have hz : s[1] = 0 := by apply UInt8.toNat_inj.1; simpa using h0
            rw [rdNum_cons, if_neg (by omega), if_neg (by omega), if_pos (by rw [hhead, hz])]
          · refine (q_good c s w h hp1 hk hl (by omega) h0).mono fun e w' => hyes e w' (by omega) (by omega) ?_
            rw [hhead]
            intro hz
            simp only [Option.some.injEq] at hz
            exact h0 (by rw [hz]; rfl)
      · refine (q_short c s w h hp hk (by omega)).mono fun e w' => hno e w' ?_
        rw [hc]
        show rdNum (s[0] :: restB s) = none
        rw [rdNum_cons, if_neg (by omega), if_pos (by omega)]
    · refine (q_big c s w h hp (by omega)).mono fun e w' => hno e w' ?_
      rw [hc]
      show rdNum (s[0] :: restB s) = none
      rw [rdNum_cons, if_pos (by omega)]
  · refine (q_empty c s w h (by omega)).mono fun e w' => hno e w' ?_
    have : bl s = [] := List.length_eq_zero_iff.1 (by rw [bl_len]; omega)
    rw [this]
    rfl

end Go.Proofs.YtchdamlnbmngbaaDoor.wi

/- The document's own reader of a table: a number that is not too great, an image, a guid. -/
namespace Go.Proofs.YtchdamlnbmngbaaDoor.mt
open Go Go.RowKit Go.Proofs.YtchdamlnbmngbaaDoor.ib Go.Proofs.YtchdamlnbmngbaaDoor.wi
set_option maxRecDepth 100000

/-- What the inner reader has left. -/
def QS (w : World) (c : Nat) (s : St) : Prop := match s with
  | none => ∃ q, QAt c q true w
  | some l => ∃ q, bl q = l ∧ QAt c q false w
def Tc (c : Nat) (j : Nat) : Prop := j = c
theorem but_grown {w w' : World} {c : Nat} (h : w.grownBy w' (some c)) : But (Tc c) w w' := ⟨h.os, h.tape, h.output, h.size, fun k hk hn => h.block k hk (fun e => hn (by simpa [Tc] using e))⟩
theorem QS.lt {w : World} {c : Nat} {s : St} (h : QS w c s) : c < w.heap.size := by
  unfold QS at h
  split at h
  · obtain ⟨q, h1, _⟩ := h
    exact (Array.getElem?_eq_some_iff.1 h1).1
  · obtain ⟨q, _, h1, _⟩ := h
    exact (Array.getElem?_eq_some_iff.1 h1).1
theorem QS.block {w w' : World} {c : Nat} {s : St} (h : QS w c s) (hb : w'.heap[c]? = w.heap[c]?) : QS w' c s := by
  unfold QS at h ⊢
  split at h
  · obtain ⟨q, h1, h2⟩ := h
    exact ⟨q, hb.trans h1, h2⟩
  · obtain ⟨q, h0, h1, h2⟩ := h
    exact ⟨q, h0, hb.trans h1, h2⟩
def endN (c : Nat) (s : St) (w : World) (e : Ending) (w' : World) : Prop := e = .returned (.int .u64 ((numS s).1 : Int)) ∧ But (Tc c) w w' ∧ QS w' c (numS s).2
theorem num_any {w : World} {c : Nat} {s : St} (h : QS w c s) : Calls Tryd.prog 56 #[.pointer (some ⟨c, 0, none⟩)] w (endN c s w) := by
  unfold QS at h
  split at h
  · obtain ⟨q, h1⟩ := h
    refine (q_bad c q w h1).mono ?_
    rintro e w' ⟨hg, rfl, hq⟩
    exact ⟨rfl, but_grown hg, _, hq⟩
  · obtain ⟨q, rfl, h1⟩ := h
    refine (q_num c q w h1).mono ?_
    rintro e w' ⟨hg, ⟨n, r, s', h2, rfl, h3, hq⟩ | ⟨h2, rfl, hq⟩⟩
    · have hn : numS (some (bl q)) = (n, some r) := by unfold numS; simp only [h2]
      unfold endN
      rw [hn]
      exact ⟨rfl, but_grown hg, s', h3, hq⟩
    · have hn : numS (some (bl q)) = (0, none) := by unfold numS; simp only [h2]
      unfold endN
      rw [hn]
      exact ⟨rfl, but_grown hg, _, hq⟩

theorem intsS_len : ∀ (n : Nat) (s : St), (intsS n s).1.length = n
  | 0, _ => rfl
  | n + 1, s => by simp [intsS, intsS_len n]
theorem intsS_snoc : ∀ (n : Nat) (s : St), intsS (n + 1) s = ((intsS n s).1 ++ [((smallS (intsS n s).2).1 : Int)], (smallS (intsS n s).2).2)
  | 0, s => rfl
  | n + 1, s => by
    have ih := intsS_snoc n (smallS s).2
    show ((((smallS s).1 : Int) :: (intsS (n + 1) (smallS s).2).1, (intsS (n + 1) (smallS s).2).2) : List Int × St) = _
    rw [ih]
    rfl
theorem smallS_le (s : St) : (smallS s).1 ≤ 1048576 := by unfold smallS; dsimp only; omega
theorem intsS_ok : ∀ (n : Nat) (s : St), okInts (intsS n s).1
  | 0, _ => fun z hz => absurd hz (by simp [intsS])
  | n + 1, s => fun z hz => by
    have h := smallS_le s
    simp only [intsS, List.mem_cons] at hz
    rcases hz with rfl | hz
    · omega
    · exact intsS_ok n _ z hz
theorem but_own {S : Nat → Prop} {a w w' : World} {r : Option Nat} (h : But S a w) (hg : w.grownBy w' r) (hr : ∀ j, r = some j → a.heap.size ≤ j) : But S a w' :=
  h.trans (S' := fun j => r = some j) ⟨hg.os, hg.tape, hg.output, hg.size, fun k hk hn => hg.block k hk (fun e => hn e.symm)⟩ fun i hi => .inr (hr i hi)
theorem oints_but {w w' : World} {B c : Nat} {v : Value} {zs : List Int} (h : OInts w B v zs) (hc : c < B) (hb : But (Tc c) w w') : OInts w' B v zs := by
  refine ⟨h.1, h.2.imp id ?_⟩
  rintro ⟨g, cap, cur, h1, h2, h3, h4⟩
  exact ⟨g, cap, cur, h1, h2, (hb.block g (Array.getElem?_eq_some_iff.1 h3).1 (fun e => by unfold Tc at e; omega)).trans h3, h4⟩

end Go.Proofs.YtchdamlnbmngbaaDoor.mt


/- StSeq, CSum, CSeal, StEnc, WiEnd, COpen, StDec. -/
import Derived.Test.YtchdamlnbmngbaaDoorQ0
import Derived.Test.YtchdamlnbmngbaaDoorQ3
import Derived.Test.YtchdamlnbmngbaaDoorQ6
import Derived.Test.YtchdamlnbmngbaaDoorQ8
import Derived.Test.YtchdamlnbmngbaaDoorQ9
import Derived.Test.YtchdamlnbmngbaaDoorProg
import Derived.WalkKit
import Derived.WalkSpells
import Derived.WalkLawsBesides
import Derived.BigCall
import Derived.Lib.Hide
import Derived.Deep.DeepCutAuto
import Derived.Lib.QuietBelow
import Derived.BigQuiet
set_option linter.unusedVariables false
set_option linter.unusedSimpArgs false
/- All pieces of a part; what the program's pieces answers. -/
namespace Go.Proofs.YtchdamlnbmngbaaDoor.st
open Go Go.RowKit Go.Shelf Go.Proofs.YtchdamlnbmngbaaDoor.ib Go.Proofs.YtchdamlnbmngbaaDoor.wi Go.Proofs.YtchdamlnbmngbaaDoor.mt
open Go.Proofs.YtchdamlnbmngbaaDoor.ch (ChL OChs chVals infoCh)
set_option maxRecDepth 100000

attribute [local go_sem] Oper.semAt_some

def twoB (c : Ch) : List (List UInt8) := [intB c.1, textB c.2]
def tokL (p : Pa) : List (List UInt8) := numB p.base.1 :: numB p.base.2 :: numB p.target.1 :: numB p.target.2 :: intB p.fr :: intB p.all :: numB p.chs.length :: p.chs.flatMap twoB
theorem tokL_flat (p : Pa) : (tokL p).flatten = pBytes p := by
  have h : ∀ l : List Ch, (l.flatMap twoB).flatten = chsB l := fun l => by
    induction l with
    | nil => rfl
    | cons c r ih =>
      show (twoB c ++ r.flatMap twoB).flatten = chB c ++ chsB r
      rw [List.flatten_append, ih]
      simp [twoB, chB]
  unfold tokL pBytes headB gdBs
  simp only [List.flatten_cons, h, List.append_assoc]
theorem tokL_len (p : Pa) : (tokL p).length = 7 + 2 * p.chs.length := by
  have h : ∀ l : List Ch, (l.flatMap twoB).length = 2 * l.length := fun l => by
    induction l with
    | nil => rfl
    | cons c r ih =>
      show (twoB c ++ r.flatMap twoB).length = 2 * (r.length + 1)
      rw [List.length_append, ih]
      show 2 + _ = _
      omega
  unfold tokL
  simp only [List.length_cons, h]
  omega
theorem two_at : ∀ (l : List Ch) (i : Nat) (h : i < l.length), (l.flatMap twoB).getD (2 * i) [] = intB l[i].1 ∧ (l.flatMap twoB).getD (2 * i + 1) [] = textB l[i].2
  | [], i, h => absurd h (by simp)
  | c :: r, 0, h => ⟨rfl, rfl⟩
  | c :: r, i + 1, h => two_at r i (by simpa using h)
def tkF (p : Pa) (i : Nat) : List UInt8 := (tokL p).getD i []
theorem tks (p : Pa) : Tks p (tkF p) := by
  refine ⟨rfl, rfl, rfl, rfl, rfl, rfl, rfl, fun i h => ?_, fun i h => ?_⟩
  · rw [Nat.add_comm]
    exact (two_at p.chs i h).1
  · rw [show 8 + 2 * i = (2 * i + 1) + 7 by omega]
    exact (two_at p.chs i h).2
abbrev Tk := { x : List UInt8 // x.length ≤ 1000 }
theorem lift_tk : ∀ (l : List (List UInt8)), (∀ x ∈ l, x.length ≤ 1000) → ∃ T : List Tk, T.map (fun x => x.1) = l
  | [], _ => ⟨[], rfl⟩
  | x :: r, h => by
    obtain ⟨T, hT⟩ := lift_tk r (fun y hy => h y (List.mem_cons_of_mem _ hy))
    exact ⟨⟨x, h x (by simp)⟩ :: T, by rw [List.map_cons, hT]⟩
theorem tok_thin (p : Pa) (h : Ok p) : ∀ x ∈ tokL p, x.length ≤ 1000 := by
  have h9 : ∀ n, (numB n).length ≤ 9 := fun n => by
    have := digs_len n
    simp [numB]
    omega
  have hn : ∀ n, (numB n).length ≤ 1000 := fun n => by have := h9 n; omega
  intro x hx
  simp only [tokL, List.mem_cons, List.mem_flatMap] at hx
  rcases hx with rfl | rfl | rfl | rfl | rfl | rfl | rfl | ⟨c, hc, hx⟩
  · exact hn _
  · exact hn _
  · exact hn _
  · exact hn _
  · exact hn _
  · exact hn _
  · exact hn _
  · simp only [twoB, List.mem_cons, List.not_mem_nil, or_false] at hx
    rcases hx with rfl | rfl
    · exact hn _
    · have := (h.chs c hc).2.2
      have h3 := h9 c.2.length
      unfold textB
      rw [List.length_append]
      omega

theorem grown_of {w w' : World} (h : Below w.heap.size w w') : w.grownBy w' none := ⟨h.os, h.tape, h.output, h.size, fun k hk _ => h.block k hk⟩

theorem pieces_stops {w0 w : World} {nB Bs : Nat} {p : Pa} {A : Option Addr} {c : Nat} {T : List Tk} (nn : Nat) (hA : ChL w0 A p.chs) (hok : Ok p) (hgb : gdB p.base) (hgt : gdB p.target)
    (hb : Below w0.heap.size w0 w) (hp : Blk w Bs 30 (paC p A c)) (hns : Bs ≠ nB) (hnl : nB < w.heap.size) (hT : T.map (fun x => x.1) = tokL p) :
    SeqStopsK Fence.wide nn Tryd.prog 64 #[.pointer (some ⟨Bs, 0, none⟩)] (fun x : Tk => #[.string (str x.1)]) (KE w0.heap.size nB) (fun ys => ys = T) (fun _ => True) T.length w := by
  intro l J Jx W hW hJ hJx hY h0
  have hlen : T.length = 7 + 2 * p.chs.length := by rw [← tokL_len, ← hT, List.length_map]
  have hsz := hb.size
  have hbW : Below w0.heap.size w0 W := below_step hb hW
  refine CallsIn.mono (pieces1_in (w0 := w0) (nB := nB) (Jn := fun i W => J (T.take i) W) (Jx := fun i W => Jx (T.take i) W) (tk := tkF p) nn hA hok hgb hgt hbW (hp.below hW) hns (Nat.lt_of_lt_of_le hnl hW.size) (tks p) (fun i W1 W2 h1 h2 => hJ _ _ _ none h1 (grown_of h2) (fun r e => by cases e)) (fun i hi W1 h1 => ?_) (by show J (T.take 0) W; rw [List.take_zero]; exact h0)) ?_
  · have hi' : i < T.length := by omega
    have hx : tkF p i = (T[i]).1 := by
      unfold tkF
      rw [← hT, List.getD_eq_getElem?_getD, List.getElem?_map, List.getElem?_eq_getElem hi']
      rfl
    obtain ⟨fn, tmps, assign, body, hy, hR⟩ := yieldAny 0 (hY (T.take i) T[i] W1 h1 (by rw [List.length_take]; omega))
    dsimp only at hy
    rw [hx]
    refine ⟨fn, tmps, assign, body, hy, hR.mono ?_⟩
    rintro e W2 (⟨rfl, h2, h3⟩ | ⟨rfl, h2⟩)
    · exact ⟨true, rfl, .inl ⟨rfl, by rw [List.take_succ_eq_append_getElem hi']; exact h2, h3⟩⟩
    · exact ⟨false, rfl, .inr ⟨rfl, by rw [List.take_succ_eq_append_getElem hi']; exact h2⟩⟩
  · rintro e W2 ⟨h1, h2 | ⟨i, h2⟩⟩
    · refine ⟨h1, .inl ⟨T, rfl, ?_⟩⟩
      rw [List.take_of_length_le (by omega)] at h2
      exact h2
    · exact ⟨h1, .inr ⟨_, trivial, h2⟩⟩

theorem pieces_any (p : Pa) (A : Option Addr) (c : Nat) (w : World) :
    Calls Tryd.prog 44 #[.agg (paC p A c)] w fun e w' => e = .returned (.func (.func 64) #[] #[.pointer (some ⟨w.heap.size, 0, none⟩)]) ∧ w' = w.alloc (.cells (paC p A c) 30) := by
  unfold paC
  go_enter Tryd.func44, Tryd.ntmps44
  go_wp2_with fail
  go_ret
  exact ⟨rfl, rfl⟩
end Go.Proofs.YtchdamlnbmngbaaDoor.st

/- What the calls that sum bytes up do: the closure of Sum, Sum, tail and Seal of package crc. -/
namespace Go.Proofs.YtchdamlnbmngbaaDoor
open Go.RowKit
set_option maxRecDepth 100000

/-- The sums of four bits each stand in their variable. -/
def CTab (w : World) : Prop := 0 < w.heap.size ∧ ∀ i, i < 16 → w.cell? ⟨0, i, none⟩ = some (.int .u32 ((tabL.getD i 0 : Nat) : Int))

theorem CTab.below {w w' : World} {B : Nat} (h : CTab w) (hb : Below B w w') (hB : 0 < B) : CTab w' :=
  ⟨Nat.lt_of_lt_of_le h.1 hb.size, fun i hi => by rw [hb.cell (p := ⟨0, i, none⟩) hB]; exact h.2 i hi⟩

def okCput (b m : Nat) (w : World) (e : Ending) (w' : World) : Prop :=
  e = .returned (.tuple #[]) ∧ Below b w w' ∧ w'.cell? ⟨b, 0, none⟩ = some (.int .u32 (m : Int)) ∧ w'.frozen? ⟨b, 0, none⟩ = false

theorem tabL_lt (i : Nat) (h : i < 16) : tabL.getD i 0 < 4294967296 := by
  have : ∀ i : Nat, i < 16 → tabL.getD i 0 < 4294967296 := by decide
  exact this i h

theorem cput_index (n f : Nat) (hf : f < 256) : bits .and .u8 (bits .xor .u8 ((n : Int) % 256) (f : Int)) 15 = (((n % 256 ^^^ f) % 16 : Nat) : Int) := by
  have e : (n : Int) % 256 = ((n % 256 : Nat) : Int) := by omega
  have hx : n % 256 ^^^ f < 256 := Nat.xor_lt_two_pow (n := 8) (by omega) (by omega)
  rw [e, u8_xor_nat _ _ (by omega) hf, show (15 : Int) = ((15 : Nat) : Int) from rfl, u8_and_nat _ _ hx (by omega), nat_mask4]

theorem cput_sum (n f : Nat) (hn : n < 4294967296) : bits .xor .u32 ((n : Int) / 16) ((tabL.getD ((n % 256 ^^^ f) % 16) 0 : Nat) : Int) = ((halfStep n f : Nat) : Int) := by
  have e : (n : Int) / 16 = ((n / 16 : Nat) : Int) := by omega
  rw [e, u32_xor_nat _ _ (by omega) (tabL_lt _ (Nat.mod_lt _ (by omega)))]
  rfl

set_option maxHeartbeats 400000 in
theorem cput_any (b n f : Nat) (w : World) (hn : n < 4294967296) (hf : f < 256) (ht : CTab w)
    (hc : w.cell? ⟨b, 0, none⟩ = some (.int .u32 (n : Int))) (hz : w.frozen? ⟨b, 0, none⟩ = false) :
    Calls Tryd.prog 83 #[.int .u8 (f : Int), .pointer (some ⟨b, 0, none⟩)] w (okCput b (halfStep n f) w) := by
  have hi := cput_index n f hf
  have hx := cput_sum n f hn
  have hl : (n % 256 ^^^ f) % 16 < 16 := Nat.mod_lt _ (by omega)
  have hg := ht.2 _ hl
  generalize halfStep n f = m at *
  generalize (n % 256 ^^^ f) % 16 = i at *
  generalize tabL.getD i 0 = t at *
  have hli : (i : Int) < 16 := by omega
  have HT := Lib.hid ht
  clear ht
  go_enter Tryd.func83, Tryd.ntmps83
  go_wp2
  go_region
  all_goals
    go_end0
    exact ⟨rfl, ((Below.refl b w).setCell (p := ⟨b, 0, none⟩) (Nat.le_refl b) _).drew, by go_simp, by go_simp⟩

theorem cput_hi (b n f : Nat) (w : World) (hn : n < 4294967296) (hf : f < 256) (ht : CTab w)
    (hc : w.cell? ⟨b, 0, none⟩ = some (.int .u32 (n : Int))) (hz : w.frozen? ⟨b, 0, none⟩ = false) :
    Calls Tryd.prog 83 #[.int .u8 ((f : Int) / 16), .pointer (some ⟨b, 0, none⟩)] w (okCput b (halfStep n (f / 16)) w) := by
  have h := cput_any b n (f / 16) w hn (by omega) ht hc hz
  rwa [show ((f / 16 : Nat) : Int) = (f : Int) / 16 from by omega] at h

/-- In a round of Sum: what is summed up of the first k bytes lies in the call's own block. -/
def CSumRel (s : ByteArray) (w : World) (i : Value) (wr : World) : Prop :=
  ∃ k : Nat, k ≤ s.size ∧ i = .int .i64 (k : Int) ∧ Below w.heap.size w wr ∧ w.heap.size < wr.heap.size ∧ wr.cell? ⟨w.heap.size, 0, none⟩ = some (.int .u32 (crcF 4294967295 ((bl s).take k) : Int)) ∧ wr.frozen? ⟨w.heap.size, 0, none⟩ = false

theorem ctake_snoc (s : ByteArray) (k : Nat) (h : k < s.size) : (bl s).take (k + 1) = (bl s).take k ++ [s[k]] := by
  unfold bl
  rw [List.take_succ_eq_append_getElem (by simpa using h)]; rfl

def okCSum (n : Nat) (w : World) (e : Ending) (w' : World) : Prop := e = .returned (.int .u32 (n : Int)) ∧ Below w.heap.size w w'

set_option maxHeartbeats 400000 in
theorem csum_any (s : ByteArray) (w : World) (hs : s.size ≤ 9223372036854775807) (ht : CTab w) :
    Calls Tryd.prog 76 #[.string s] w (okCSum (crcSum (bl s)) w) := by
  have HT := Lib.hid ht
  have hgw := ht.1
  clear ht
  go_enter Tryd.func76, Tryd.ntmps76
  go_wp2
  have b0 : Below w.heap.size w (w.alloc (.cells #[.int .u32 4294967295] 96)) := (Below.refl _ _).alloc (Nat.le_refl _) _
  go_loopw [9] (fun i wr => CSumRel s w i wr) (fun i _ => s.size - (intOf i).toNat)
  case atStart => exact ⟨0, Nat.zero_le _, rfl, b0, by simp, by go_simp; rfl, by go_simp⟩
  case round =>
    obtain ⟨k, hk, rfl, hB, hS, hC, hF⟩ := hrel
    have hn := crcF_lt ((bl s).take k) 4294967295 (by omega)
    by_cases hlt : k < s.size
    · have hT1 := HT.out.below hB hgw
      have hb := s[k].toNat_lt
      have hsn := ctake_snoc s k hlt
      have hst : byteStep (crcF 4294967295 ((bl s).take k)) s[k] = crcF 4294967295 ((bl s).take (k + 1)) := by rw [hsn, crcF_snoc]
      rw [← halves] at hst
      have hn1 := halfStep_lt (crcF 4294967295 ((bl s).take k)) s[k].toNat hn
      have Hst := Lib.hid hst
      clear hsn hst
      go_wp2_with (go_at_call 83; refine (cput_any w.heap.size _ s[k].toNat _ hn (by omega) hT1 hC hF).mono ?_)
      rintro e W1 ⟨rfl, b1, c1, f1⟩
      have hT2 := hT1.below b1 hgw
      have hB1 := hB.trans b1
      have hS1 := b1.size
      clear hB b1 hC hF hT1
      go_wp2_with (go_at_call 83; refine (cput_hi w.heap.size _ s[k].toNat _ hn1 (by omega) hT2 c1 f1).mono ?_)
      rintro e W2 ⟨rfl, b2, c2, f2⟩
      have hB2 := hB1.trans b2
      have hS2 := b2.size
      rw [Hst.out] at c2
      clear hB1 b2 c1 f1 hT2
      go_wp2
      go_roundw
      case rel => exact ⟨k + 1, by omega, by go_num, hB2, by omega, c2, f2⟩
      case measure => simp [intOf]; omega
    · have hk' : k = s.size := by omega
      subst hk'
      rw [List.take_of_length_le (by rw [bl_len]; omega)] at hC hn
      have hx : bits .xor .u32 IntKind.u32.max (crcF 4294967295 (bl s) : Int) = (crcSum (bl s) : Int) := by
        rw [show IntKind.u32.max = ((4294967295 : Nat) : Int) from rfl, u32_xor_nat _ _ (by omega) hn, Nat.xor_comm]; rfl
      go_wp2
      go_ret
      exact ⟨rfl, hB⟩

end Go.Proofs.YtchdamlnbmngbaaDoor

/- What tail and Seal of package crc do. -/
namespace Go.Proofs.YtchdamlnbmngbaaDoor
open Go.RowKit
set_option maxRecDepth 100000

theorem conv4 (n : Nat) (hn : n < 4294967296) (w : World) :
    (convert 61 9 (.slice (some ⟨w.heap.size, 0, none⟩) 4 4)).run Tryd.prog (w.alloc (.cells #[.int .u8 ((n : Int) / 16777216), .int .u8 ((n : Int) / 65536 % 256), .int .u8 ((n : Int) / 256 % 256), .int .u8 ((n : Int) % 256)] 5)) =
      .ok (.string (str (be4 n))) (w.alloc (.cells #[.int .u8 ((n : Int) / 16777216), .int .u8 ((n : Int) / 65536 % 256), .int .u8 ((n : Int) / 256 % 256), .int .u8 ((n : Int) % 256)] 5)) := by
  refine run_convert_bytes_back (P := Tryd.prog) _ 61 9 5 ⟨w.heap.size, 0, none⟩ 4 (be4 n) Tryd.underlying61 Tryd.underlying5 Tryd.underlying9 ?_
  intro j hj
  rw [be4_length] at hj
  have e0 : (UInt8.ofNat (n / 16777216 % 256)).toNat = n / 16777216 := by rw [ofNat_small _ (by omega)]; omega
  have e1 := ofNat_small (n / 65536 % 256) (by omega)
  have e2 := ofNat_small (n / 256 % 256) (by omega)
  have e3 := ofNat_small (n % 256) (by omega)
  have h : j = 0 ∨ j = 1 ∨ j = 2 ∨ j = 3 := by omega
  rcases h with rfl | rfl | rfl | rfl <;> simp only [be4, addr_add, List.getElem_cons_zero, List.getElem_cons_succ, e0, e1, e2, e3] <;> simp [World.cell?, World.alloc, -World.alloc_eq]

set_option maxHeartbeats 400000 in
theorem ctail_any (s : ByteArray) (w : World) (hs : s.size ≤ 9223372036854775807) (ht : CTab w) :
    Calls Tryd.prog 61 #[.string s] w (okStr (str (tailB (bl s))) w) := by
  have HT := Lib.hid ht
  clear ht
  go_enter Tryd.func61, Tryd.ntmps61
  go_wp2_with (go_at_call 76; refine (csum_any s _ hs HT.out).mono ?_)
  rintro e W1 ⟨rfl, b1⟩
  have hn := crcSum_lt (bl s)
  have ht : tailB (bl s) = be4 (crcSum (bl s)) := rfl
  have Ht := Lib.hid ht
  clear ht
  generalize crcSum (bl s) = n at *
  have hcv := conv4 n hn W1
  go_wp2
  go_ret
  exact ⟨by rw [Ht.out]; rfl, below_new b1 _⟩

theorem str_append (s : ByteArray) (l : List UInt8) : s ++ str l = str (bl s ++ l) := by
  apply ByteArray.ext
  apply Array.ext'
  simp [str, bl]

set_option maxHeartbeats 400000 in
theorem seal_any (s : ByteArray) (w : World) (hs : s.size ≤ 9223372036854775000) (ht : CTab w) :
    Calls Tryd.prog 38 #[.string s] w (okStr (str (sealB (bl s))) w) := by
  have HT := Lib.hid ht
  have hz : (str (tailB (bl s))).size = 4 := rfl
  have Hz := Lib.hid hz
  have hap : s ++ str (tailB (bl s)) = str (sealB (bl s)) := str_append _ _
  have Hap := Lib.hid hap
  clear ht hz hap
  go_enter Tryd.func38, Tryd.ntmps38
  go_wp2_with (go_at_call 61; refine (ctail_any s _ (by omega) HT.out).mono ?_)
  rintro e W1 ⟨rfl, b1⟩
  generalize str (tailB (bl s)) = t at *
  have hz := Hz.out
  go_wp2
  go_ret
  exact ⟨by rw [← Hap.out]; rfl, b1⟩

end Go.Proofs.YtchdamlnbmngbaaDoor

/- A part's bytes: the program's Encode. -/
namespace Go.Proofs.YtchdamlnbmngbaaDoor.st
open Go Go.RowKit Go.Shelf Go.Proofs.YtchdamlnbmngbaaDoor.ib Go.Proofs.YtchdamlnbmngbaaDoor.wi Go.Proofs.YtchdamlnbmngbaaDoor.mt
open Go.Proofs.YtchdamlnbmngbaaDoor.ch (ChL OChs chVals infoCh)
set_option maxRecDepth 100000

attribute [local go_sem] Oper.semAt_some

abbrev BF (B b : Nat) (l : List UInt8) (W : World) : Prop := Lib.IsBuilderF 67 5 B b (Lib.byteCells l) W
theorem bat_kept {B b : Nat} {p : Value} {bs : List Value} {W W' : World} {row : Option Nat} (h : Lib.BuilderAtF 67 5 B b p bs W) (hg : W.grownBy W' row) (hr : ∀ r, row = some r → ∃ o : Obj, W.heap[r]? = some o ∧ o.isCells = false) : Lib.BuilderAtF 67 5 B b p bs W' := by
  have hk : ∀ (k : Nat) (cs : Array Value) (t : TypeId) (fz : Nat × Nat), W.heap[k]? = some (.cells cs t fz) → W'.heap[k]? = some (.cells cs t fz) := fun k cs t fz h => by
    rw [hg.block k (Array.getElem?_eq_some_iff.1 h).1 (fun e => ?_)]
    · exact h
    · obtain ⟨o, ho, hc⟩ := hr k e.symm
      rw [h] at ho
      cases ho
      cases hc
  obtain ⟨hB, v, hb, hown, hne⟩ := h
  refine ⟨hB, v, hk _ _ _ _ hb, ⟨hown.1, ?_⟩, hne⟩
  rcases hown.2 with hn | ⟨g, cap, cur, fz, hv, hbg, hgg, rest⟩
  · exact .inl hn
  · exact .inr ⟨g, cap, cur, fz, hv, hbg, hk _ _ _ _ hgg, rest⟩
theorem bf_kept {B b : Nat} {l : List UInt8} {W W' : World} {row : Option Nat} (h : BF B b l W) (hg : W.grownBy W' row) (hr : ∀ r, row = some r → ∃ o : Obj, W.heap[r]? = some o ∧ o.isCells = false) : BF B b l W' :=
  h.elim (fun x => .inl (bat_kept x hg hr)) (fun x => .inr (bat_kept x hg hr))
theorem write_any {B b : Nat} {l : List UInt8} (t : List UInt8) {W : World} (h : BF B b l W) (hl : l.length + t.length ≤ 1000000) (hB : B ≤ W.heap.size) :
    Calls Tryd.prog 45 #[.pointer (some ⟨b, 0, none⟩), .string (str t)] W fun e W' => (∃ v, e = .returned v) ∧ BF B b (l ++ t) W' ∧ Below B W W' ∧ Lib.OthersKept 5 (some b) W W' := by
  have hz := str_size t
  refine (Any.Builder_WriteString_k Tryd.lays166 Tryd.Builder_Extra_166 B b (Lib.byteCells l) (str t) W h (by rw [Lib.byteCells_length, hz]; omega) hB).mono ?_
  rintro e W' ⟨rfl, h1, h2, h3⟩
  refine ⟨⟨_, rfl⟩, .inr ?_, h2, h3⟩
  have e1 : Lib.byteCells (l ++ t) = Lib.byteCells l ++ Lib.strCells (str t) := by
    rw [Lib.strCells_eq]
    simp [Lib.byteCells, str]
  rw [e1]
  exact h1
theorem told_any {B b : Nat} {l : List UInt8} {W : World} (h : BF B b l W) (hB : B ≤ W.heap.size) : Calls Tryd.prog 46 #[.pointer (some ⟨b, 0, none⟩)] W fun e W' => e = .returned (.string (str l)) ∧ Below B W W' ∧ Lib.OthersKept 5 (some b) W W' := by
  refine (Any.Builder_String_any_k Tryd.lays169 Tryd.Builder_Extra_169 B b l W h hB).mono ?_
  rintro e W' ⟨rfl, _, h2, h3⟩
  exact ⟨rfl, h2, h3⟩
theorem bf_blk {B b : Nat} {l : List UInt8} {W : World} (h : BF B b l W) : ∃ (cs : Array Value) (t : TypeId) (fz : Nat × Nat), W.heap[b]? = some (.cells cs t fz) := by
  rcases h with ⟨_, v, hb, _⟩ | ⟨_, v, hb, _⟩
  · exact ⟨_, _, _, hb⟩
  · exact ⟨_, _, _, hb⟩
theorem bf_lt {B b : Nat} {l : List UInt8} {W : World} (h : BF B b l W) : b < W.heap.size := by
  obtain ⟨_, _, _, hb⟩ := bf_blk h
  exact (Array.getElem?_eq_some_iff.1 hb).1
/-- What the rounds keep. -/
def EI (w : World) (g : Nat) (pre : List Tk) (W : World) : Prop := BF g g (pre.map fun x => x.1).flatten W ∧ Below w.heap.size w W
theorem ei_from {w : World} {g B : Nat} (hB : w.heap.size ≤ B) : OwnFrom B (EI w g) := by
  intro s W W' row ⟨h1, h2⟩ hg hr
  exact ⟨bf_kept h1 hg (fun r e => (hr r e).2), h2.grown hg h2.size (fun k e => by have := (hr k e).1; omega)⟩
theorem keeps_of {b : Nat} {W W' : World} (hb : ∃ (cs : Array Value) (t : TypeId) (fz : Nat × Nat), W.heap[b]? = some (.cells cs t fz)) (h : Below 0 W W') (h2 : Lib.OthersKept 5 (some b) W W') : KeepsOthers W W' := by
  refine ⟨h.size, fun k o ho hc => h2 k o ho (fun e => ?_) (fun c fz e => ?_)⟩
  · obtain ⟨cs, t, fz, hv⟩ := hb
    cases e
    rw [hv] at ho
    cases ho
    cases hc
  · subst e
    cases hc

set_option maxHeartbeats 6400000 in
theorem enc_any (A : Option Addr) (cp : Nat) (p : Pa) (w : World) (h : PaL w A cp p) (hs : p.chs.length ≤ 1000) (ht : CTab w) : Calls Tryd.prog 15 #[.agg (paC p A cp)] w (endS (pEnc p) w) := by
  have hb := (Below.refl w.heap.size w).alloc (Nat.le_refl _) (.cells (paC p A cp) 30)
  have ha := Blk.new w 30 (paC p A cp)
  obtain ⟨W, hW⟩ : ∃ z, w.alloc (.cells (paC p A cp) 30) = z := ⟨_, rfl⟩
  rw [hW] at hb ha
  obtain ⟨gp, hgp⟩ : ∃ z, w.heap.size = z := ⟨_, rfl⟩
  rw [hgp] at ha
  have HGE : Hid (w.heap.size ≤ gp) := Nat.le_of_eq hgp
  have HP := Lib.hid (h.below hb)
  have HB := Lib.hid hb
  have HA := Lib.hid ha
  have HT := Lib.hid (ht.below hb ht.1)
  have hl := ha.lt
  have a0 := ha.cell 0
  have a1 := ha.cell 1
  have a2 := ha.cell 2
  have a3 := ha.cell 3
  have a4 := ha.cell 4
  have a5 := ha.cell 5
  have a6 := ha.cell 6
  simp only [paC, List.getElem?_toArray, List.getElem?_cons_zero, List.getElem?_cons_succ] at a0 a1 a2 a3 a4 a5 a6
  have HCK := Lib.hid (check_any A cp p W HP.out hs)
  have HA0 := Lib.hid h.chs
  have HT0 := Lib.hid ht
  have HGB := Lib.hid h.base
  have HGT := Lib.hid h.target
  have HE : Hid (pEnc p = if pCheck p ≠ 0 then ([], 2) else (sealB (pBytes p), 0)) := rfl
  have h2 := check_two p
  have HOK := Lib.hid (fun e => check_ok (p := p) e)
  have HGP := Lib.hid hgp
  clear h hb ha ht hs hgp
  obtain ⟨E, hE⟩ : ∃ z, pEnc p = z := ⟨_, rfl⟩
  obtain ⟨K, hK⟩ : ∃ z, pCheck p = z := ⟨_, rfl⟩
  rw [hE] at HE ⊢
  rw [hK] at HE HCK h2 HOK
  clear hE hK
  unfold paC at hW HCK
  refine (callsIn_wide (n := 9)).1 (callsIn_of_wp_marks Tryd.func15 rfl trivial ?_ rfl)
  refine wpIn_wide.2 ?_
  unfold paC
  simp only [Tryd.ntmps15, List.size_toArray, List.length_cons, List.length_nil, Nat.reduceAdd, Nat.reduceSub, Array.replicate_succ, Array.replicate_zero, List.push_toArray, List.append_toArray, List.nil_append, List.cons_append]
  go_upto_region 1 with fail
  try rw [hW]
  clear hW
  rw [HGP.out]
  clear HGP
  go_wp2_with fail
  refine HCK.out.mono ?_
  rintro e W1 ⟨rfl, c1⟩
  have HB1 := Lib.hid (below_step HB.out c1)
  have HP1 := Lib.hid (HP.out.below c1)
  have HA1 := Lib.hid (HA.out.below c1)
  have HT1 := Lib.hid (HT.out.below c1 HT.out.1)
  clear c1 HP HB HA HT HCK a0 a1 a2 a3 a4 a5 a6 hl
  rcases h2 with rfl | rfl
  · have hok := HOK.out rfl
    have HE0 : Hid (E = (sealB (pBytes p), 0)) := HE.out
    have ha := HA1.out
    have hl := ha.lt
    have a0 := ha.cell 0
    have a1 := ha.cell 1
    have a2 := ha.cell 2
    have a3 := ha.cell 3
    have a4 := ha.cell 4
    have a5 := ha.cell 5
    have a6 := ha.cell 6
    simp only [paC, List.getElem?_toArray, List.getElem?_cons_zero, List.getElem?_cons_succ] at a0 a1 a2 a3 a4 a5 a6
    clear HE HOK ha
    have hok2 := hok.few
    have hB2 := (Below.refl W1.heap.size W1).alloc (Nat.le_refl _) (.cells #[.pointer none, .slice none 0 0] 67)
    have hF2 : BF W1.heap.size W1.heap.size [] (W1.alloc (.cells #[.pointer none, .slice none 0 0] 67)) := Lib.IsBuilderF.of (Lib.fresh_isBuilder 67 5 W1)
    have hS2 : (W1.alloc (.cells #[.pointer none, .slice none 0 0] 67)).heap.size = W1.heap.size + 1 := World.size_alloc _ _
    obtain ⟨W2, hW2⟩ : ∃ z, W1.alloc (.cells #[.pointer none, .slice none 0 0] 67) = z := ⟨_, rfl⟩
    rw [hW2] at hB2 hF2 hS2
    have HB2 := Lib.hid (below_step HB1.out hB2)
    have HP2 := Lib.hid (HP1.out.below hB2)
    have hA2 := HA1.out.below hB2
    have HT2 := Lib.hid (HT1.out.below hB2 HT1.out.1)
    have HF2 := Lib.hid hF2
    have HS2 := Lib.hid hS2
    have HW2 := Lib.hid hW2
    have HOK2 := Lib.hid hok
    have HNE : Hid (gp < W1.heap.size) := hl
    clear hB2 hF2 hS2 hW2 HB1 HP1 HA1 HT1 hok hok2
    go_upto_region 5 with fail
    try rw [HW2.out]
    clear HW2 a0 a1 a2 a3 a4 a5 a6 hl
    obtain ⟨n1, hn1⟩ : ∃ z, W1.heap.size = z := ⟨_, rfl⟩
    rw [hn1] at HF2 HS2 HNE ⊢
    clear hn1
    have hl := hA2.lt
    have a0 := hA2.cell 0
    have a1 := hA2.cell 1
    have a2 := hA2.cell 2
    have a3 := hA2.cell 3
    have a4 := hA2.cell 4
    have a5 := hA2.cell 5
    have a6 := hA2.cell 6
    simp only [paC, List.getElem?_toArray, List.getElem?_cons_zero, List.getElem?_cons_succ] at a0 a1 a2 a3 a4 a5 a6
    have HPI := Lib.hid (pieces_any p A cp W2)
    unfold paC at HPI
    clear hA2
    go_wp2_with fail
    refine HPI.out.mono ?_
    rintro e W3 ⟨rfl, hW3⟩
    clear a0 a1 a2 a3 a4 a5 a6 hl HPI
    have hB3 : Below W2.heap.size W2 W3 := by rw [hW3]; exact (Below.refl _ _).alloc (Nat.le_refl _) _
    have hP3 : Blk W3 W2.heap.size 30 (paC p A cp) := by rw [hW3]; exact Blk.new _ _ _
    obtain ⟨T, hT⟩ := lift_tk (tokL p) (tok_thin p HOK2.out)
    have hTl : T.length ≤ 11 := by
      have := tokL_len p
      rw [← hT, List.length_map] at this
      have := HOK2.out.few
      omega
    have HST := Lib.hid (pieces_stops (w0 := w) (w := W3) (nB := n1) 8 HA0.out HOK2.out HGB.out HGT.out (below_step HB2.out hB3) hP3 (by have := HS2.out; omega) (by have := HS2.out; have := hB3.size; omega) hT)
    have HB3 := Lib.hid (below_step HB2.out hB3)
    have HEI : Hid (EI w n1 [] W3) := ⟨bf_kept HF2.out (grown_of hB3) (fun r e => by cases e), HB3.out⟩
    have HTL := Lib.hid hTl
    have HTT := Lib.hid hT
    have hgn : w.heap.size ≤ n1 := by have := HGE.out; have := HNE.out; omega
    clear hW3 hB3 hP3 hTl hT HB2 HP2 HT2 HF2 HOK2 HA0 HGB HGT
    obtain ⟨q, hq⟩ : ∃ z, W2.heap.size = z := ⟨_, rfl⟩
    rw [hq] at HST ⊢
    clear hq
    generalize Value.agg #[.int .u64 (p.base.1 : Int), .int .u64 (p.base.2 : Int), .int .u64 (p.target.1 : Int), .int .u64 (p.target.2 : Int), .int .i64 p.fr, .int .i64 p.all, .slice A p.chs.length cp] = AG
    go_wp2_with fail
    refine wpIn_wide.1 (wpIn_rangeFunc_ownF (F := Fence.wide) (n := 9) rfl (by decide) (gf := 64) (lb := #[.pointer (some ⟨q, 0, none⟩)]) rfl trivial (enters_of Tryd.func64 (by kernel_rfl) rfl) HST.out
      (fun h k => h.trans k) (fun W l o o' h1 h2 h3 _ => KE.putObj (Nat.le_trans HB3.out.size h1) h2 h3) (Below.refl _ _) (fun _ => rfl)
      (EI w n1) (fun _ _ _ => False) (ei_from HB3.out.size) (fun _ _ _ _ _ hs _ _ => hs) HEI.out
      (fun x => { tmps := #[AG, .pointer (some ⟨gp, 0, none⟩), .string { data := #[] }, .int .i64 0, .int .i64 0, .pointer (some ⟨n1, 0, none⟩), .string (str x.1), AG, .int .i64 0, .int .i64 0, .bool false, undef, AG, .func (.func 64) #[] #[.pointer (some ⟨q, 0, none⟩)], .string (str x.1), undef, undef, undef, undef], defers := [] })
      ?assign ?body ?done ?stop)
    case assign =>
      intro l x W K hK
      gi_wp2
      exact hK
    case body =>
      rintro l pre x W ⟨h1, h2⟩ hpl
      have hlen : (pre.map fun x => x.1).flatten.length ≤ 1000 * pre.length := by
        clear h1 hpl
        induction pre with
        | nil => simp
        | cons y r ih =>
          have := y.2
          simp only [List.map_cons, List.flatten_cons, List.length_append, List.length_cons]
          omega
      have HWR := Lib.hid (write_any x.1 h1 (by have := x.2; have := HTL.out; omega) (Nat.le_of_lt (bf_lt h1)))
      have HX := Lib.hid h1
      have HX2 := Lib.hid h2
      clear h1 h2 hlen hpl
      gi_wp2_with (refine ⟨trivial, ?_⟩; gi_at_call 45; refine (CallsIn.inRound l (callsIn_wide.2 HWR.out)).mono ?_)
      rintro e W4 ⟨⟨v, rfl⟩, h1, h2, h3⟩
      have HK1 := Lib.hid (keeps_of (bf_blk HX.out) (h2.mono (Nat.zero_le _)) h3)
      have HK2 : Hid (KE w.heap.size n1 W W4) := KE.of_kept (h2.mono hgn) h3
      have HK3 : Hid (EI w n1 (pre ++ [x]) W4) := ⟨by rw [List.map_append, List.flatten_append]; simpa using h1, HX2.out.trans (h2.mono hgn)⟩
      clear h1 h2 h3 HX HX2 HWR
      gi_wp2
      exact ⟨HK1.out, HK2.out, HK3.out⟩
    case done =>
      rintro D ys W hD rfl ⟨h1, h2⟩ hK
      have hfl : (ys.map fun x => x.1).flatten = pBytes p := by rw [HTT.out, tokL_flat]
      have hlen : (pBytes p).length ≤ 11000 := by
        rw [← hfl]
        have hq : ∀ l : List Tk, (l.map fun x => x.1).flatten.length ≤ 1000 * l.length := fun l => by
          induction l with
          | nil => simp
          | cons y r ih =>
            have := y.2
            simp only [List.map_cons, List.flatten_cons, List.length_append, List.length_cons]
            omega
        have := hq ys
        have := HTL.out
        omega
      rw [hfl] at h1
      have HTO := Lib.hid (told_any h1 (Nat.le_of_lt (bf_lt h1)))
      have HX2 := Lib.hid h2
      have HKD := Lib.hid hK
      have HBK := Lib.hid (bf_blk h1)
      have HD := Lib.hid hD
      clear h1 h2 hK hfl hD HEI HST
      go_wp2_with fail
      refine HTO.out.mono ?_
      rintro e W4 ⟨rfl, h2, h3⟩
      have HB4 := Lib.hid (HX2.out.trans (h2.mono hgn))
      have HT4 := Lib.hid (HT0.out.below HB4.out HT0.out.1)
      have HKD4 := Lib.hid ((keeps_of HBK.out (h2.mono (Nat.zero_le _)) h3).same D _ HKD.out rfl)
      clear h2 h3 HTO HX2 HKD HBK
      have HSE := Lib.hid (seal_any (str (pBytes p)) W4 (by rw [str_size]; omega) HT4.out)
      go_wp2_with fail
      refine HSE.out.mono ?_
      rintro e W5 ⟨rfl, c5⟩
      have HB5 := Lib.hid (below_step HB4.out c5)
      have hKD5 := (c5.block D (Array.getElem?_eq_some_iff.1 HKD4.out).1).trans HKD4.out
      have HKD5 := Lib.hid hKD5
      clear c5 hKD5 HSE HB4 HT4 HKD4
      go_wp2_with fail
      refine ⟨by simp, .inl ⟨_, _, rfl, run_takeDeferred HKD5.out, ?_⟩⟩
      refine ⟨_, results_tmp2 rfl _ _ _, ?_⟩
      rw [HE0.out]
      refine ⟨by rw [bl_str]; rfl, HB5.out.grown (grownBy_putObj' W5 D _) HB5.out.size (fun k e => by cases e; have := HD.out; have := HB3.out.size; omega)⟩
    case stop =>
      rintro D cc pre W hD hpre hx hK
      exact hx.elim
  · have HE2 : Hid (E = ([], 2)) := HE.out
    clear HE HOK
    go_wp2_with fail
    refine ⟨_, results_tmp2 rfl _ _ _, ?_⟩
    rw [HE2.out]
    exact ⟨rfl, HB1.out⟩
end Go.Proofs.YtchdamlnbmngbaaDoor.st

/- What End of a reader of package wire answers. -/
namespace Go.Proofs.YtchdamlnbmngbaaDoor.wi
open Go.RowKit
set_option maxRecDepth 100000

theorem end_nil (w : World) :
    Calls Tryd.prog 54 #[.pointer none] w fun e w' => e = .returned (.bool false) ∧ w = w' := by
  go_enter Tryd.func54, Tryd.ntmps54
  go_wp2_with (go_at_call 73; refine (ok_nil _).mono ?_; rintro e w' ⟨rfl, rfl⟩)
  go_ret
  exact ⟨rfl, rfl⟩

theorem end_bad (b : Nat) (l : List UInt8) (w : World) (h : RdAt b l true w) :
    Calls Tryd.prog 54 #[.pointer (some ⟨b, 0, none⟩)] w fun e w' => e = .returned (.bool false) ∧ w = w' := by
  go_enter Tryd.func54, Tryd.ntmps54
  go_wp2_with (go_at_call 73; refine (ok_no b l _ h).mono ?_; rintro e w' ⟨rfl, rfl⟩)
  go_ret
  exact ⟨rfl, rfl⟩

theorem end_good (b : Nat) (l : List UInt8) (w : World) (h : RdAt b l false w) :
    Calls Tryd.prog 54 #[.pointer (some ⟨b, 0, none⟩)] w fun e w' => e = .returned (.bool l.isEmpty) ∧ w = w' := by
  obtain ⟨g, o, cap, hb, hr⟩ := h
  have h1 : w.cell? ⟨b, 0, none⟩ = some (.slice (some ⟨g, o, none⟩) l.length cap) := by simp [World.cell?, hb]
  have he : ((l.length : Int) == 0) = l.isEmpty := by cases l <;> simp; omega
  have hR : RdAt b l false w := ⟨g, o, cap, hb, hr⟩
  have hlen : l.length ≤ 140737488355328 := hr.2.2
  clear hb hr
  go_enter Tryd.func54, Tryd.ntmps54
  go_wp2_with (go_at_call 73; refine (ok_yes b l _ hR).mono ?_; rintro e w' ⟨rfl, rfl⟩)
  go_ret
  exact ⟨rfl, rfl⟩

end Go.Proofs.YtchdamlnbmngbaaDoor.wi

/- What Open of package crc does. -/
namespace Go.Proofs.YtchdamlnbmngbaaDoor
open Go.RowKit Go.Sort
set_option maxRecDepth 100000

theorem cmixed : Tryd.prog.follows .mixedOrders = true := by kernel_rfl

theorem clone_any (s : ByteArray) (w : World) (hs : s.size ≤ 281474976710656) : Calls Tryd.prog 63 #[.string s] w (okStr s w) := by
  go_enter Tryd.func63, Tryd.ntmps63
  go_wp2_with (go_at_call 77; refine (Tryd.stringslite_Clone s _ hs).mono ?_)
  rintro e W1 ⟨rfl, b1⟩
  go_wp2
  go_ret
  exact ⟨rfl, b1⟩

/-- What Open answers. -/
def OpenIs (l : List UInt8) (w : World) (e : Ending) (w' : World) : Prop :=
  (match openB l with
    | some m => e = .returned (.tuple #[.string (str m), .bool true])
    | none => e = .returned (.tuple #[.string ⟨#[]⟩, .bool false])) ∧ Below w.heap.size w w'

set_option maxHeartbeats 400000 in
theorem open_short (s : ByteArray) (w : World) (hs : s.size < 4) : Calls Tryd.prog 51 #[.string s] w (OpenIs (bl s) w) := by
  have ho : openB (bl s) = none := by unfold openB; rw [if_pos (by rw [bl_len]; exact hs)]
  have Ho := Lib.hid ho
  clear ho
  have hd : decide ((s.size : Int) - 4 < 0) = true := by simp; omega
  go_enter Tryd.func51, Tryd.ntmps51
  go_wp2
  refine wp_region_quiet_below cmixed (by kernel_rfl) ?_
  repeat (any_goals (first | go_big_quiet_step (fail) | quiet_step (fail)))
  refine wpQuiet_nil ?_
  intro _ hw'
  obtain ⟨⟨dq, osq⟩, hw''⟩ := hw'
  subst hw''
  go_wp2
  go_ret2
  refine ⟨?_, below_regrown w dq osq⟩
  rw [Ho.out]
  rfl

set_option maxHeartbeats 400000 in
theorem open_4 (s : ByteArray) (w : World) (hs : 4 ≤ s.size) (hr : s.size ≤ 140737488355328) (ht : CTab w) : Calls Tryd.prog 51 #[.string s] w (OpenIs (bl s) w) := by
  have hd : decide ((s.size : Int) - 4 < 0) = false := by simp; omega
  have HT := Lib.hid ht
  have hz : (s.extract 0 (s.size - 4)).size ≤ s.size := by simp
  have cT : ∀ d os, Calls Tryd.prog 61 #[.string (s.extract 0 (s.size - 4))] (grow (redrawn w d) os) fun e w'' => e = .returned (.string (str (tailB (bl (s.extract 0 (s.size - 4)))))) ∧ ∃ p : Regrown, w'' = grow (redrawn w p.d) p.os :=
    fun d os => Calls.regrown_of (ctail_any _ _ (by omega) (HT.out.below (below_regrown w d os) HT.out.1))
  clear ht hz
  go_enter Tryd.func51, Tryd.ntmps51
  go_wp2
  refine wp_region_quiet_below cmixed (by kernel_rfl) ?_
  repeat (any_goals (first | go_big_quiet_step (exact cT _ _) | quiet_step (exact cT _ _)))
  refine wpQuiet_nil ?_
  intro _ hw'
  obtain ⟨⟨dq, osq⟩, hw''⟩ := hw'
  subst hw''
  cases hx : openB (bl s) with
  | none =>
    have hq : ((s.extract (s.size - 4) s.size).toList == (str (tailB (bl (s.extract 0 (s.size - 4))))).toList) = false := by
      rw [beq_bl, bl_from, bl_upto]
      simp only [openB, bl_len] at hx
      rw [if_neg (by omega)] at hx
      split at hx
      · cases hx
      · rename_i h; simpa using h
    have Hx := Lib.hid hx
    clear hx
    generalize ((s.extract (s.size - 4) s.size).toList == (str (tailB (bl (s.extract 0 (s.size - 4))))).toList) = q at *
    subst hq
    go_wp2
    go_ret2
    refine ⟨?_, below_regrown w dq osq⟩
    rw [Hx.out]
    rfl
  | some m =>
    have hq : ((s.extract (s.size - 4) s.size).toList == (str (tailB (bl (s.extract 0 (s.size - 4))))).toList) = true ∧ s.extract 0 (s.size - 4) = str m := by
      rw [beq_bl, bl_from, bl_upto]
      simp only [openB, bl_len] at hx
      rw [if_neg (by omega)] at hx
      split at hx
      · rename_i h
        refine ⟨by simpa using h, ?_⟩
        simp only [Option.some.injEq] at hx
        rw [← hx, ← bl_upto, str_bl]
      · cases hx
    obtain ⟨hq, hm⟩ := hq
    have Hx := Lib.hid hx
    have Hm := Lib.hid hm
    have hz : (s.extract 0 (s.size - 4)).size ≤ s.size := by simp
    clear hx hm
    generalize ((s.extract (s.size - 4) s.size).toList == (str (tailB (bl (s.extract 0 (s.size - 4))))).toList) = q at *
    subst hq
    go_wp2_with (go_at_call 63; refine (clone_any _ _ (by omega)).mono ?_)
    rintro e W2 ⟨rfl, b2⟩
    have b' := below_step (below_regrown w dq osq) b2
    clear b2
    go_wp2
    go_ret2
    refine ⟨?_, b'⟩
    rw [Hx.out]
    simp [Hm.out]

theorem copen_any (s : ByteArray) (w : World) (hr : s.size ≤ 140737488355328) (ht : CTab w) : Calls Tryd.prog 51 #[.string s] w (OpenIs (bl s) w) := by
  by_cases h : s.size < 4
  · exact open_short s w h
  · exact open_4 s w (by omega) hr ht

theorem copen_some (s : ByteArray) (m : List UInt8) (w : World) (hr : s.size ≤ 140737488355328) (ht : CTab w) (h : openB (bl s) = some m) :
    Calls Tryd.prog 51 #[.string s] w fun e w' => e = .returned (.tuple #[.string (str m), .bool true]) ∧ Below w.heap.size w w' :=
  (copen_any s w hr ht).mono fun e w' hh => by unfold OpenIs at hh; rw [h] at hh; exact hh

theorem copen_none (s : ByteArray) (w : World) (hr : s.size ≤ 140737488355328) (ht : CTab w) (h : openB (bl s) = none) :
    Calls Tryd.prog 51 #[.string s] w fun e w' => e = .returned (.tuple #[.string ⟨#[]⟩, .bool false]) ∧ Below w.heap.size w w' :=
  (copen_any s w hr ht).mono fun e w' hh => by unfold OpenIs at hh; rw [h] at hh; exact hh

end Go.Proofs.YtchdamlnbmngbaaDoor

/- What the program reads of bytes as a part. -/
namespace Go.Proofs.YtchdamlnbmngbaaDoor.st
open Go Go.RowKit Go.Sort Go.Proofs.YtchdamlnbmngbaaDoor.ib Go.Proofs.YtchdamlnbmngbaaDoor.wi Go.Proofs.YtchdamlnbmngbaaDoor.mt
open Go.Proofs.YtchdamlnbmngbaaDoor.mt.pg (PS Rd)
open Go.Proofs.YtchdamlnbmngbaaDoor.ch (ChL OChs chVals infoCh)
set_option maxRecDepth 100000

theorem pend_any {w : World} {c : Nat} {s : St} (h : PS w c s) : Calls Tryd.prog 54 #[pt c] w fun e w' => e = .returned (.bool (decide (s = some []))) ∧ w = w' := by
  unfold PS at h
  split at h
  · obtain ⟨l, h1⟩ := h
    exact (end_bad c l w h1).mono fun e w' hh => hh
  · rename_i l
    refine (end_good c l w h).mono ?_
    rintro e w' ⟨rfl, rfl⟩
    refine ⟨?_, rfl⟩
    cases l <;> rfl
theorem gCh_le (s : St) : 0 ≤ (gCh s).1.1 ∧ (gCh s).1.1 ≤ 9 := by
  have := uS_le 8 s
  unfold gCh
  dsimp only
  omega
theorem gChs_b64 : ∀ (n : Nat) (s : St), ∀ x ∈ (gChs n s).1, b64 x.1
  | 0, _, x, hx => absurd hx (by simp [gChs])
  | n + 1, s, x, hx => by
    unfold gChs at hx
    rcases List.mem_cons.1 hx with rfl | hx
    · have := gCh_le s
      unfold b64
      omega
    · exact gChs_b64 n _ x hx
theorem gP_ok (s : St) : b64 (gP s).1.fr ∧ b64 (gP s).1.all ∧ (gP s).1.chs.length ≤ 3 ∧ ∀ x ∈ (gP s).1.chs, b64 x.1 := by
  unfold gP
  dsimp only
  have h1 := uS_le 8 (gdS (gdS s).2).2
  have h2 := uS_le 8 (uS 8 (gdS (gdS s).2).2).2
  refine ⟨by unfold b64; omega, by unfold b64; omega, ?_, gChs_b64 _ _⟩
  rw [gChs_len]
  exact uS_le 2 _

set_option maxHeartbeats 6400000 in
theorem dec_any (s : ByteArray) (w : World) (hs : s.size ≤ 100000) (ht : CTab w) : Calls Tryd.prog 20 #[.string s] w (endP (pDec (bl s)) w) := by
  have HDI : Hid (pDec (bl s) = match openB (bl s) with
    | none => (pa0, 4)
    | some l => if (gP (some l)).2 = some [] ∧ pCheck (gP (some l)).1 = 0 then ((gP (some l)).1, 0) else (pa0, 4)) := (dec_is (bl s)).symm
  have c1 := (Below.refl w.heap.size w).alloc (Nat.le_refl _) (.cells pZ 30)
  have k1 := Blk.new w 30 pZ
  obtain ⟨W1, hW1⟩ : ∃ z, w.alloc (.cells pZ 30) = z := ⟨_, rfl⟩
  rw [hW1] at c1 k1
  have HB1 := Lib.hid c1
  have HT1 := Lib.hid (ht.below c1 ht.1)
  have HGE : Hid (w.heap.size ≤ w.heap.size) := Nat.le_refl _
  obtain ⟨gR, hgR⟩ : ∃ q, w.heap.size = q := ⟨_, rfl⟩
  have HGR := Lib.hid hgR
  rw [hgR] at k1
  have HR1 := Lib.hid k1
  have HGE : Hid (w.heap.size ≤ gR) := Nat.le_of_eq hgR
  obtain ⟨D, hD⟩ : ∃ z, pDec (bl s) = z := ⟨_, rfl⟩
  rw [hD] at HDI ⊢
  have HOP := Lib.hid (copen_any s W1 (by omega) HT1.out)
  have HOL : Hid (∀ m, openB (bl s) = some m → m.length ≤ 100000) := fun m h => by
    have := openB_is _ m h
    have h2 := congrArg List.length this
    rw [sealB_length, bl_len] at h2
    omega
  unfold pZ at hW1
  clear c1 k1 ht hD
  go_enter Tryd.func20, Tryd.ntmps20
  go_upto_region 1 with fail
  try rw [hW1]
  try rw [hgR]
  clear hW1 hgR
  go_wp2_with fail
  refine HOP.out.mono ?_
  rintro e W2 ⟨ho, c2⟩
  have HB2 := Lib.hid (below_step HB1.out c2)
  have HR2 := Lib.hid (HR1.out.below c2)
  clear c2 HOP HB1 HR1
  cases hop : openB (bl s) with
  | none =>
    rw [hop] at ho HDI
    dsimp only at ho HDI
    subst ho
    have HD4 : Hid (D = (pa0, 4)) := HDI.out
    clear hop HDI HOL
    have hr := HR2.out
    have a0 := hr.cell 0
    have a1 := hr.cell 1
    have a2 := hr.cell 2
    have a3 := hr.cell 3
    have a4 := hr.cell 4
    have a5 := hr.cell 5
    have a6 := hr.cell 6
    have f0 := hr.frozen 0
    have f1 := hr.frozen 1
    have f2 := hr.frozen 2
    have f3 := hr.frozen 3
    have f4 := hr.frozen 4
    have f5 := hr.frozen 5
    have f6 := hr.frozen 6
    have hrl := hr.lt
    simp only [pZ, List.getElem?_toArray, List.getElem?_cons_zero, List.getElem?_cons_succ] at a0 a1 a2 a3 a4 a5 a6
    clear hr
    go_wp2_with fail
    show bodyPost _ _ _ _ _ (setPa W2 gR (0, 0) (0, 0) 0 0 nlS)
    rw [HD4.out]
    exact pa_none (b := gR) Tryd.results20 _ rfl (by simp) (by simp) (by rw [pZ_is]; exact setPa_blk (by rw [← pZ_is]; exact HR2.out)) (setPa_below HB2.out HGE.out)
  | some m =>
    rw [hop] at ho HDI
    dsimp only at ho HDI
    subst ho
    have hml := HOL.out m hop
    have HND : Hid (¬ ((gP (some m)).2 = some [] ∧ pCheck (gP (some m)).1 = 0) → D = (pa0, 4)) := fun h => by rw [HDI.out, if_neg h]
    have HYD : Hid ((gP (some m)).2 = some [] ∧ pCheck (gP (some m)).1 = 0 → D = ((gP (some m)).1, 0)) := fun h => by rw [HDI.out, if_pos h]
    clear hop HDI HOL
    have HN := Lib.hid (new_any (str m) W2 (by rw [str_size]; omega))
    go_wp2_with fail
    refine HN.out.mono ?_
    rintro e W3 ⟨c, rfl, hc, hrd, c3⟩
    have hps : PS W3 c (some m) := by rw [bl_str] at hrd; exact hrd
    have HPS := Lib.hid hps
    have HB3 := Lib.hid (below_step HB2.out c3)
    have HR3 := Lib.hid (HR2.out.below c3)
    have HC : Hid (w.heap.size ≤ c) := Nat.le_trans HB2.out.size hc
    clear hc hrd c3 hps HB2 HR2 HN
    go_wp2_with fail
    refine (take_any HPS.out).mono ?_
    rintro e W4 ⟨A, d, rfl, ho, hq⟩
    have HB4 : Hid (Below w.heap.size w W4) := HB3.out.trans (hq.but.below (fun j hj => by unfold Tc at hj; rw [hj]; exact HC.out) HB3.out.size)
    have HR4 := Lib.hid (hq.blk HR3.out HPS.out.blk (by decide))
    have HP4 := Lib.hid hq.ps
    have HOK := Lib.hid (gP_ok (some m))
    have HGB := Lib.hid (gP_B (some m))
    obtain ⟨p, hp⟩ : ∃ z, (gP (some m)).1 = z := ⟨_, rfl⟩
    obtain ⟨sr, hsr⟩ : ∃ z, (gP (some m)).2 = z := ⟨_, rfl⟩
    rw [hp] at ho HOK HGB HND HYD ⊢
    rw [hsr] at HP4 HND HYD
    obtain ⟨A', d', hv', hc', hn'⟩ := ochs_chl ho HOK.out.2.2.2
    simp only [Value.slice.injEq, true_and] at hv'
    obtain ⟨rfl, rfl⟩ := hv'
    have HPA : Hid (PaL W4 A d p) := ⟨hc', HGB.out.1, HGB.out.2, HOK.out.1, HOK.out.2.1⟩
    have HNA : Hid (NewA w W4 A) := fun b o e => by have := hn' b o e; have := HB3.out.size; omega
    have HNE : Hid (∀ b o, A = some ⟨b, o, none⟩ → b ≠ gR) := fun b o e => by have := hn' b o e; have := HR3.out.lt; omega
    have HL3 : Hid (p.chs.length ≤ 3) := HOK.out.2.2.1
    clear ho hq hc' hn' hp hsr HOK HGB HB3 HR3 HPS HC
    unfold paC
    obtain ⟨W5, hW5⟩ : ∃ z, W4.alloc (.cells (pC p.base p.target p.fr p.all (.slice A p.chs.length d)) 30) = z := ⟨_, rfl⟩
    have c5 : Below W4.heap.size W4 W5 := by rw [← hW5]; exact (Below.refl _ _).alloc (Nat.le_refl _) _
    have hM : Blk W5 W4.heap.size 30 (pC p.base p.target p.fr p.all (.slice A p.chs.length d)) := by rw [← hW5]; exact Blk.new _ _ _
    have HB5 := Lib.hid (below_step HB4.out c5)
    have HR5 := Lib.hid (HR4.out.below c5)
    have HP5 := Lib.hid (HP4.out.below c5)
    have HPA5 := Lib.hid (HPA.out.below c5)
    have HNA5 : Hid (NewA w W5 A) := fun b o e => by have := HNA.out b o e; have := c5.size; omega
    have HM5 := Lib.hid hM
    unfold pC at hW5
    have HW5 := Lib.hid hW5
    clear c5 hM hW5 HB4 HR4 HP4 HPA HNA
    go_upto_region 6 with fail
    try rw [HW5.out]
    obtain ⟨gm, hgm⟩ : ∃ q, W4.heap.size = q := ⟨_, rfl⟩
    rw [hgm] at HM5
    try rw [hgm]
    clear HW5 hgm
    have HCK := Lib.hid (check_any A d p W5 HPA5.out (by have := HL3.out; omega))
    unfold paC at HCK
    have hm := HM5.out
    have m0 := hm.cell 0
    have m1 := hm.cell 1
    have m2 := hm.cell 2
    have m3 := hm.cell 3
    have m4 := hm.cell 4
    have m5 := hm.cell 5
    have m6 := hm.cell 6
    have hml := hm.lt
    simp only [pC, List.getElem?_toArray, List.getElem?_cons_zero, List.getElem?_cons_succ] at m0 m1 m2 m3 m4 m5 m6
    clear hm
    have HPE := Lib.hid (pend_any HP5.out)
    by_cases he : sr = some []
    · rw [decide_eq_true he] at HPE
      obtain ⟨K, hK⟩ : ∃ z, pCheck p = z := ⟨_, rfl⟩
      have h2 := check_two p
      rw [hK] at HCK HND HYD h2
      clear hK
      go_wp2_with fail
      refine HPE.out.mono ?_
      rintro e W6 ⟨rfl, rfl⟩
      go_wp2_with fail
      refine HCK.out.mono ?_
      rintro e W6 ⟨rfl, c6⟩
      have HB6 := Lib.hid (below_step HB5.out c6)
      have HR6 := Lib.hid (HR5.out.below c6)
      have HPA6 := Lib.hid (HPA5.out.below c6)
      have HNA6 : Hid (NewA w W6 A) := fun b o e => by have := HNA5.out b o e; have := c6.size; omega
      have hm6 := HM5.out.below c6
      clear c6 m0 m1 m2 m3 m4 m5 m6 hml HCK HPE
      rcases h2 with rfl | rfl
      · have HD0 : Hid (D = (p, 0)) := HYD.out ⟨he, rfl⟩
        clear HYD HND he
        have m0 := hm6.cell 0
        have m1 := hm6.cell 1
        have m2 := hm6.cell 2
        have m3 := hm6.cell 3
        have m4 := hm6.cell 4
        have m5 := hm6.cell 5
        have m6 := hm6.cell 6
        have hml := hm6.lt
        have hr := HR6.out
        have a0 := hr.cell 0
        have f0 := hr.frozen 0
        have a1 := hr.cell 1
        have f1 := hr.frozen 1
        have a2 := hr.cell 2
        have f2 := hr.frozen 2
        have a3 := hr.cell 3
        have f3 := hr.frozen 3
        have a4 := hr.cell 4
        have f4 := hr.frozen 4
        have a5 := hr.cell 5
        have f5 := hr.frozen 5
        have a6 := hr.cell 6
        have f6 := hr.frozen 6
        have hrl := hr.lt
        simp only [pC, pZ, List.getElem?_toArray, List.getElem?_cons_zero, List.getElem?_cons_succ] at m0 m1 m2 m3 m4 m5 m6 a0 a1 a2 a3 a4 a5 a6
        clear hr hm6
        go_wp2_with fail
        show bodyPost _ _ _ _ _ (setPa W6 gR p.base p.target p.fr p.all (.slice A p.chs.length d))
        have hres : Blk W6 gR 30 (pC (0, 0) (0, 0) 0 0 nlS) := by rw [← pZ_is]; exact HR6.out
        have HF : PaL (setPa W6 gR p.base p.target p.fr p.all (.slice A p.chs.length d)) A d p := pal_set HPA6.out HNE.out
        rw [HD0.out]
        exact pa_end (r := (p, 0)) (b := gR) Tryd.results20 _ rfl (by simp) (by simp) (setPa_blk hres) HF (fun b o e => by have := HNA6.out b o e; rw [setPa_size]; exact this) (setPa_below HB6.out HGE.out)
      · have HD4 : Hid (D = (pa0, 4)) := HND.out (fun h => by cases h.2)
        clear HYD HND he hm6
        have hr := HR6.out
        have a0 := hr.cell 0
        have a1 := hr.cell 1
        have a2 := hr.cell 2
        have a3 := hr.cell 3
        have a4 := hr.cell 4
        have a5 := hr.cell 5
        have a6 := hr.cell 6
        have f0 := hr.frozen 0
        have f1 := hr.frozen 1
        have f2 := hr.frozen 2
        have f3 := hr.frozen 3
        have f4 := hr.frozen 4
        have f5 := hr.frozen 5
        have f6 := hr.frozen 6
        have hrl := hr.lt
        simp only [pZ, List.getElem?_toArray, List.getElem?_cons_zero, List.getElem?_cons_succ] at a0 a1 a2 a3 a4 a5 a6
        clear hr
        go_wp2_with fail
        show bodyPost _ _ _ _ _ (setPa W6 gR (0, 0) (0, 0) 0 0 nlS)
        rw [HD4.out]
        exact pa_none (b := gR) Tryd.results20 _ rfl (by simp) (by simp) (by rw [pZ_is]; exact setPa_blk (by rw [← pZ_is]; exact HR6.out)) (setPa_below HB6.out HGE.out)
    · rw [decide_eq_false he] at HPE
      have HD4 : Hid (D = (pa0, 4)) := HND.out (fun h => he h.1)
      clear HYD HND he
      go_wp2_with fail
      refine HPE.out.mono ?_
      rintro e W6 ⟨rfl, rfl⟩
      clear m0 m1 m2 m3 m4 m5 m6 hml
      have hr := HR5.out
      have a0 := hr.cell 0
      have a1 := hr.cell 1
      have a2 := hr.cell 2
      have a3 := hr.cell 3
      have a4 := hr.cell 4
      have a5 := hr.cell 5
      have a6 := hr.cell 6
      have f0 := hr.frozen 0
      have f1 := hr.frozen 1
      have f2 := hr.frozen 2
      have f3 := hr.frozen 3
      have f4 := hr.frozen 4
      have f5 := hr.frozen 5
      have f6 := hr.frozen 6
      have hrl := hr.lt
      simp only [pZ, List.getElem?_toArray, List.getElem?_cons_zero, List.getElem?_cons_succ] at a0 a1 a2 a3 a4 a5 a6
      clear hr
      go_wp2_with fail
      show bodyPost _ _ _ _ _ (setPa W5 gR (0, 0) (0, 0) 0 0 nlS)
      rw [HD4.out]
      exact pa_none (b := gR) Tryd.results20 _ rfl (by simp) (by simp) (by rw [pZ_is]; exact setPa_blk (by rw [← pZ_is]; exact HR5.out)) (setPa_below HB5.out HGE.out)
end Go.Proofs.YtchdamlnbmngbaaDoor.st


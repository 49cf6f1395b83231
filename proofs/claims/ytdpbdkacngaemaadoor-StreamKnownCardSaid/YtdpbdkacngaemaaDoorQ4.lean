/- CSum, CShelf, CSeal, StEnc, StEq, StSame. -/
import Derived.Test.YtdpbdkacngaemaaDoorQ0
import Derived.Test.YtdpbdkacngaemaaDoorQ2
import Derived.Test.YtdpbdkacngaemaaDoorQ3
import Derived.Test.YtdpbdkacngaemaaDoorProg
import Derived.WalkKit
import Derived.WalkSpells
import Derived.WalkLawsBesides
import Derived.BigCall
import Derived.Lib.Hide
import Derived.Shelf.LaysM
import Derived.Shelf.Strconv.Clone
import Derived.Deep.DeepCutAuto
set_option linter.unusedVariables false
set_option linter.unusedSimpArgs false
/- What the calls that sum bytes up do: the closure of Sum, Sum, tail and Seal of package crc. -/
namespace Go.Proofs.YtdpbdkacngaemaaDoor
open Go.RowKit
set_option maxRecDepth 100000

/-- The sums of four bits each stand in their variable. -/
def CTab (w : World) : Prop := 0 < w.heap.size ∧ ∀ i, i < 16 → w.cell? ⟨0, i, none⟩ = some (.int .u32 ((tabL.getD i 0 : Nat) : Int))

theorem CTab.below {w w' : World} {B : Nat} (h : CTab w) (hb : Below B w w') (hB : 0 < B) : CTab w' :=
  ⟨Nat.lt_of_lt_of_le h.1 hb.size, fun i hi => by rw [hb.cell (p := ⟨0, i, none⟩) hB]; exact h.2 i hi⟩

def okCput (b m : Nat) (w : World) (e : Ending) (w' : World) : Prop :=
  e = .returned (.tuple #[]) ∧ Below b w w' ∧ w'.cell? ⟨b, 0, none⟩ = some (.int .u32 (m : Int)) ∧ w'.frozen? ⟨b, 0, none⟩ = false

theorem tabL_lt (i : Nat) (h : i < 16) : tabL.getD i 0 < 4294967296 := by
  have : ∀ i : Nat, i < 16 → tabL.getD i 0 < 4294967296 := by decide
  exact this i h

theorem cput_index (n f : Nat) (hf : f < 256) : bits .and .u8 (bits .xor .u8 ((n : Int) % 256) (f : Int)) 15 = (((n % 256 ^^^ f) % 16 : Nat) : Int) := by
  have e : (n : Int) % 256 = ((n % 256 : Nat) : Int) := by omega
  have hx : n % 256 ^^^ f < 256 := Nat.xor_lt_two_pow (n := 8) (by omega) (by omega)
  rw [e, u8_xor_nat _ _ (by omega) hf, show (15 : Int) = ((15 : Nat) : Int) from rfl, u8_and_nat _ _ hx (by omega), nat_mask4]

theorem cput_sum (n f : Nat) (hn : n < 4294967296) : bits .xor .u32 ((n : Int) / 16) ((tabL.getD ((n % 256 ^^^ f) % 16) 0 : Nat) : Int) = ((halfStep n f : Nat) : Int) := by
  have e : (n : Int) / 16 = ((n / 16 : Nat) : Int) := by omega
  rw [e, u32_xor_nat _ _ (by omega) (tabL_lt _ (Nat.mod_lt _ (by omega)))]
  rfl

set_option maxHeartbeats 400000 in
theorem cput_any (b n f : Nat) (w : World) (hn : n < 4294967296) (hf : f < 256) (ht : CTab w)
    (hc : w.cell? ⟨b, 0, none⟩ = some (.int .u32 (n : Int))) (hz : w.frozen? ⟨b, 0, none⟩ = false) :
    Calls Tryd.prog 58 #[.int .u8 (f : Int), .pointer (some ⟨b, 0, none⟩)] w (okCput b (halfStep n f) w) := by
  have hi := cput_index n f hf
  have hx := cput_sum n f hn
  have hl : (n % 256 ^^^ f) % 16 < 16 := Nat.mod_lt _ (by omega)
  have hg := ht.2 _ hl
  generalize halfStep n f = m at *
  generalize (n % 256 ^^^ f) % 16 = i at *
  generalize tabL.getD i 0 = t at *
  have hli : (i : Int) < 16 := by omega
  have HT := Lib.hid ht
  clear ht
  go_enter Tryd.func58, Tryd.ntmps58
  go_wp2
  go_region
  all_goals
    go_end0
    exact ⟨rfl, ((Below.refl b w).setCell (p := ⟨b, 0, none⟩) (Nat.le_refl b) _).drew, by go_simp, by go_simp⟩

theorem cput_hi (b n f : Nat) (w : World) (hn : n < 4294967296) (hf : f < 256) (ht : CTab w)
    (hc : w.cell? ⟨b, 0, none⟩ = some (.int .u32 (n : Int))) (hz : w.frozen? ⟨b, 0, none⟩ = false) :
    Calls Tryd.prog 58 #[.int .u8 ((f : Int) / 16), .pointer (some ⟨b, 0, none⟩)] w (okCput b (halfStep n (f / 16)) w) := by
  have h := cput_any b n (f / 16) w hn (by omega) ht hc hz
  rwa [show ((f / 16 : Nat) : Int) = (f : Int) / 16 from by omega] at h

/-- In a round of Sum: what is summed up of the first k bytes lies in the call's own block. -/
def CSumRel (s : ByteArray) (w : World) (i : Value) (wr : World) : Prop :=
  ∃ k : Nat, k ≤ s.size ∧ i = .int .i64 (k : Int) ∧ Below w.heap.size w wr ∧ w.heap.size < wr.heap.size ∧ wr.cell? ⟨w.heap.size, 0, none⟩ = some (.int .u32 (crcF 4294967295 ((bl s).take k) : Int)) ∧ wr.frozen? ⟨w.heap.size, 0, none⟩ = false

theorem ctake_snoc (s : ByteArray) (k : Nat) (h : k < s.size) : (bl s).take (k + 1) = (bl s).take k ++ [s[k]] := by
  unfold bl
  rw [List.take_succ_eq_append_getElem (by simpa using h)]; rfl

def okCSum (n : Nat) (w : World) (e : Ending) (w' : World) : Prop := e = .returned (.int .u32 (n : Int)) ∧ Below w.heap.size w w'

set_option maxHeartbeats 400000 in
theorem csum_any (s : ByteArray) (w : World) (hs : s.size ≤ 9223372036854775807) (ht : CTab w) :
    Calls Tryd.prog 50 #[.string s] w (okCSum (crcSum (bl s)) w) := by
  have HT := Lib.hid ht
  have hgw := ht.1
  clear ht
  go_enter Tryd.func50, Tryd.ntmps50
  go_wp2
  have b0 : Below w.heap.size w (w.alloc (.cells #[.int .u32 4294967295] 88)) := (Below.refl _ _).alloc (Nat.le_refl _) _
  go_loopw [9] (fun i wr => CSumRel s w i wr) (fun i _ => s.size - (intOf i).toNat)
  case atStart => exact ⟨0, Nat.zero_le _, rfl, b0, by simp, by go_simp; rfl, by go_simp⟩
  case round =>
    obtain ⟨k, hk, rfl, hB, hS, hC, hF⟩ := hrel
    have hn := crcF_lt ((bl s).take k) 4294967295 (by omega)
    by_cases hlt : k < s.size
    · have hT1 := HT.out.below hB hgw
      have hb := s[k].toNat_lt
      have hsn := ctake_snoc s k hlt
      have hst : byteStep (crcF 4294967295 ((bl s).take k)) s[k] = crcF 4294967295 ((bl s).take (k + 1)) := by rw [hsn, crcF_snoc]
      rw [← halves] at hst
      have hn1 := halfStep_lt (crcF 4294967295 ((bl s).take k)) s[k].toNat hn
      have Hst := Lib.hid hst
      clear hsn hst
      go_wp2_with (go_at_call 58; refine (cput_any w.heap.size _ s[k].toNat _ hn (by omega) hT1 hC hF).mono ?_)
      rintro e W1 ⟨rfl, b1, c1, f1⟩
      have hT2 := hT1.below b1 hgw
      have hB1 := hB.trans b1
      have hS1 := b1.size
      clear hB b1 hC hF hT1
      go_wp2_with (go_at_call 58; refine (cput_hi w.heap.size _ s[k].toNat _ hn1 (by omega) hT2 c1 f1).mono ?_)
      rintro e W2 ⟨rfl, b2, c2, f2⟩
      have hB2 := hB1.trans b2
      have hS2 := b2.size
      rw [Hst.out] at c2
      clear hB1 b2 c1 f1 hT2
      go_wp2
      go_roundw
      case rel => exact ⟨k + 1, by omega, by go_num, hB2, by omega, c2, f2⟩
      case measure => simp [intOf]; omega
    · have hk' : k = s.size := by omega
      subst hk'
      rw [List.take_of_length_le (by rw [bl_len]; omega)] at hC hn
      have hx : bits .xor .u32 IntKind.u32.max (crcF 4294967295 (bl s) : Int) = (crcSum (bl s) : Int) := by
        rw [show IntKind.u32.max = ((4294967295 : Nat) : Int) from rfl, u32_xor_nat _ _ (by omega) hn, Nat.xor_comm]; rfl
      go_wp2
      go_ret
      exact ⟨rfl, hB⟩

end Go.Proofs.YtdpbdkacngaemaaDoor

/- The library's contract for strings.Clone, laid at this program's numbers. -/
namespace Go.Proofs
open Go.Shelf
set_option maxRecDepth 100000
def Tryd.laysM316_ren : Go.Shelf.Ren := ⟨fun | 316 => 55 | n => n, fun | 9 => 9 | 3 => 3 | 4 => 4 | 37 => 60 | 0 => 0 | 127 => 85 | 5 => 5 | n => n, fun | n => n⟩
theorem Tryd.laysM316 : Go.Proofs.LaysM.n316 Tryd.prog Tryd.laysM316_ren := {
  mixed := by kernel_rfl
  f316 := Tryd.func55.trans (congrArg some (by kernel_rfl))
  t0 := Tryd.underlying0
  a0 := Tryd.isAgg0
  z0 := Tryd.sizeOf0
  v0 := Tryd.zeroValue0
  t3 := Tryd.underlying3
  a3 := Tryd.isAgg3
  z3 := Tryd.sizeOf3
  v3 := Tryd.zeroValue3
  t4 := Tryd.underlying4
  a4 := Tryd.isAgg4
  z4 := Tryd.sizeOf4
  v4 := Tryd.zeroValue4
  t9 := Tryd.underlying9
  a9 := Tryd.isAgg9
  z9 := Tryd.sizeOf9
  v9 := Tryd.zeroValue9
  t37 := Tryd.underlying60
  a37 := Tryd.isAgg60
  z37 := Tryd.sizeOf60
  v37 := Tryd.zeroValue60
  t127 := Tryd.underlying85
  a127 := Tryd.isAgg85
  z127 := Tryd.sizeOf85
  v127 := Tryd.zeroValue85
  t5 := Tryd.underlying5
  a5 := Tryd.isAgg5
  z5 := Tryd.sizeOf5
  v5 := Tryd.zeroValue5
  i0 := by kernel_rfl
  i3 := by kernel_rfl
  i4 := by kernel_rfl
  i5 := by kernel_rfl
  i9 := by kernel_rfl
  i37 := by kernel_rfl
  i127 := by kernel_rfl }
open Go.RowKit in
theorem Tryd.stringslite_Clone (s : ByteArray) (w : World) (hlim : s.size ≤ 281474976710656) :
    Calls Tryd.prog 55 #[.string s] w fun e w' => e = .returned (.string s) ∧ Below w.heap.size w w' := Any.stringslite_Clone Tryd.laysM316 s w hlim
end Go.Proofs

/- What tail and Seal of package crc do. -/
namespace Go.Proofs.YtdpbdkacngaemaaDoor
open Go.RowKit
set_option maxRecDepth 100000

theorem conv4 (n : Nat) (hn : n < 4294967296) (w : World) :
    (convert 60 9 (.slice (some ⟨w.heap.size, 0, none⟩) 4 4)).run Tryd.prog (w.alloc (.cells #[.int .u8 ((n : Int) / 16777216), .int .u8 ((n : Int) / 65536 % 256), .int .u8 ((n : Int) / 256 % 256), .int .u8 ((n : Int) % 256)] 5)) =
      .ok (.string (str (be4 n))) (w.alloc (.cells #[.int .u8 ((n : Int) / 16777216), .int .u8 ((n : Int) / 65536 % 256), .int .u8 ((n : Int) / 256 % 256), .int .u8 ((n : Int) % 256)] 5)) := by
  refine run_convert_bytes_back (P := Tryd.prog) _ 60 9 5 ⟨w.heap.size, 0, none⟩ 4 (be4 n) Tryd.underlying60 Tryd.underlying5 Tryd.underlying9 ?_
  intro j hj
  rw [be4_length] at hj
  have e0 : (UInt8.ofNat (n / 16777216 % 256)).toNat = n / 16777216 := by rw [ofNat_small _ (by omega)]; omega
  have e1 := ofNat_small (n / 65536 % 256) (by omega)
  have e2 := ofNat_small (n / 256 % 256) (by omega)
  have e3 := ofNat_small (n % 256) (by omega)
  have h : j = 0 ∨ j = 1 ∨ j = 2 ∨ j = 3 := by omega
  rcases h with rfl | rfl | rfl | rfl <;> simp only [be4, addr_add, List.getElem_cons_zero, List.getElem_cons_succ, e0, e1, e2, e3] <;> simp [World.cell?, World.alloc, -World.alloc_eq]

set_option maxHeartbeats 400000 in
theorem ctail_any (s : ByteArray) (w : World) (hs : s.size ≤ 9223372036854775807) (ht : CTab w) :
    Calls Tryd.prog 37 #[.string s] w (okStr (str (tailB (bl s))) w) := by
  have HT := Lib.hid ht
  clear ht
  go_enter Tryd.func37, Tryd.ntmps37
  go_wp2_with (go_at_call 50; refine (csum_any s _ hs HT.out).mono ?_)
  rintro e W1 ⟨rfl, b1⟩
  have hn := crcSum_lt (bl s)
  have ht : tailB (bl s) = be4 (crcSum (bl s)) := rfl
  have Ht := Lib.hid ht
  clear ht
  generalize crcSum (bl s) = n at *
  have hcv := conv4 n hn W1
  go_wp2
  go_ret
  exact ⟨by rw [Ht.out]; rfl, below_new b1 _⟩

theorem str_append (s : ByteArray) (l : List UInt8) : s ++ str l = str (bl s ++ l) := by
  apply ByteArray.ext
  apply Array.ext'
  simp [str, bl]

set_option maxHeartbeats 400000 in
theorem seal_any (s : ByteArray) (w : World) (hs : s.size ≤ 9223372036854775000) (ht : CTab w) :
    Calls Tryd.prog 24 #[.string s] w (okStr (str (sealB (bl s))) w) := by
  have HT := Lib.hid ht
  have hz : (str (tailB (bl s))).size = 4 := rfl
  have Hz := Lib.hid hz
  have hap : s ++ str (tailB (bl s)) = str (sealB (bl s)) := str_append _ _
  have Hap := Lib.hid hap
  clear ht hz hap
  go_enter Tryd.func24, Tryd.ntmps24
  go_wp2_with (go_at_call 37; refine (ctail_any s _ (by omega) HT.out).mono ?_)
  rintro e W1 ⟨rfl, b1⟩
  generalize str (tailB (bl s)) = t at *
  have hz := Hz.out
  go_wp2
  go_ret
  exact ⟨by rw [← Hap.out]; rfl, b1⟩

end Go.Proofs.YtdpbdkacngaemaaDoor

/- A part's bytes: the program's Encode. -/
namespace Go.Proofs.YtdpbdkacngaemaaDoor.st
open Go Go.RowKit Go.Shelf Go.Proofs.YtdpbdkacngaemaaDoor.ib Go.Proofs.YtdpbdkacngaemaaDoor.wi Go.Proofs.YtdpbdkacngaemaaDoor.mt
open Go.Proofs.YtdpbdkacngaemaaDoor.ch (ChL OChs chVals infoCh)
set_option maxRecDepth 100000

attribute [local go_sem] Oper.semAt_some

abbrev BF (B b : Nat) (l : List UInt8) (W : World) : Prop := Lib.IsBuilderF 62 5 B b (Lib.byteCells l) W
theorem bat_kept {B b : Nat} {p : Value} {bs : List Value} {W W' : World} {row : Option Nat} (h : Lib.BuilderAtF 62 5 B b p bs W) (hg : W.grownBy W' row) (hr : ∀ r, row = some r → ∃ o : Obj, W.heap[r]? = some o ∧ o.isCells = false) : Lib.BuilderAtF 62 5 B b p bs W' := by
  have hk : ∀ (k : Nat) (cs : Array Value) (t : TypeId) (fz : Nat × Nat), W.heap[k]? = some (.cells cs t fz) → W'.heap[k]? = some (.cells cs t fz) := fun k cs t fz h => by
    rw [hg.block k (Array.getElem?_eq_some_iff.1 h).1 (fun e => ?_)]
    · exact h
    · obtain ⟨o, ho, hc⟩ := hr k e.symm
      rw [h] at ho
      cases ho
      cases hc
  obtain ⟨hB, v, hb, hown, hne⟩ := h
  refine ⟨hB, v, hk _ _ _ _ hb, ⟨hown.1, ?_⟩, hne⟩
  rcases hown.2 with hn | ⟨g, cap, cur, fz, hv, hbg, hgg, rest⟩
  · exact .inl hn
  · exact .inr ⟨g, cap, cur, fz, hv, hbg, hk _ _ _ _ hgg, rest⟩
theorem bf_kept {B b : Nat} {l : List UInt8} {W W' : World} {row : Option Nat} (h : BF B b l W) (hg : W.grownBy W' row) (hr : ∀ r, row = some r → ∃ o : Obj, W.heap[r]? = some o ∧ o.isCells = false) : BF B b l W' :=
  h.elim (fun x => .inl (bat_kept x hg hr)) (fun x => .inr (bat_kept x hg hr))
theorem write_any {B b : Nat} {l : List UInt8} (t : List UInt8) {W : World} (h : BF B b l W) (hl : l.length + t.length ≤ 1000000) (hB : B ≤ W.heap.size) :
    Calls Tryd.prog 32 #[.pointer (some ⟨b, 0, none⟩), .string (str t)] W fun e W' => (∃ v, e = .returned v) ∧ BF B b (l ++ t) W' ∧ Below B W W' ∧ Lib.OthersKept 5 (some b) W W' := by
  have hz := str_size t
  refine (Any.Builder_WriteString_k Tryd.lays166 Tryd.Builder_Extra_166 B b (Lib.byteCells l) (str t) W h (by rw [Lib.byteCells_length, hz]; omega) hB).mono ?_
  rintro e W' ⟨rfl, h1, h2, h3⟩
  refine ⟨⟨_, rfl⟩, .inr ?_, h2, h3⟩
  have e1 : Lib.byteCells (l ++ t) = Lib.byteCells l ++ Lib.strCells (str t) := by
    rw [Lib.strCells_eq]
    simp [Lib.byteCells, str]
  rw [e1]
  exact h1
theorem told_any {B b : Nat} {l : List UInt8} {W : World} (h : BF B b l W) (hB : B ≤ W.heap.size) : Calls Tryd.prog 33 #[.pointer (some ⟨b, 0, none⟩)] W fun e W' => e = .returned (.string (str l)) ∧ Below B W W' ∧ Lib.OthersKept 5 (some b) W W' := by
  refine (Any.Builder_String_any_k Tryd.lays169 Tryd.Builder_Extra_169 B b l W h hB).mono ?_
  rintro e W' ⟨rfl, _, h2, h3⟩
  exact ⟨rfl, h2, h3⟩
theorem bf_blk {B b : Nat} {l : List UInt8} {W : World} (h : BF B b l W) : ∃ (cs : Array Value) (t : TypeId) (fz : Nat × Nat), W.heap[b]? = some (.cells cs t fz) := by
  rcases h with ⟨_, v, hb, _⟩ | ⟨_, v, hb, _⟩
  · exact ⟨_, _, _, hb⟩
  · exact ⟨_, _, _, hb⟩
theorem bf_lt {B b : Nat} {l : List UInt8} {W : World} (h : BF B b l W) : b < W.heap.size := by
  obtain ⟨_, _, _, hb⟩ := bf_blk h
  exact (Array.getElem?_eq_some_iff.1 hb).1
/-- What the rounds keep. -/
def EI (w : World) (g : Nat) (pre : List Tk) (W : World) : Prop := BF g g (pre.map fun x => x.1).flatten W ∧ Below w.heap.size w W
theorem ei_from {w : World} {g B : Nat} (hB : w.heap.size ≤ B) : OwnFrom B (EI w g) := by
  intro s W W' row ⟨h1, h2⟩ hg hr
  exact ⟨bf_kept h1 hg (fun r e => (hr r e).2), h2.grown hg h2.size (fun k e => by have := (hr k e).1; omega)⟩
theorem keeps_of {b : Nat} {W W' : World} (hb : ∃ (cs : Array Value) (t : TypeId) (fz : Nat × Nat), W.heap[b]? = some (.cells cs t fz)) (h : Below 0 W W') (h2 : Lib.OthersKept 5 (some b) W W') : KeepsOthers W W' := by
  refine ⟨h.size, fun k o ho hc => h2 k o ho (fun e => ?_) (fun c fz e => ?_)⟩
  · obtain ⟨cs, t, fz, hv⟩ := hb
    cases e
    rw [hv] at ho
    cases ho
    cases hc
  · subst e
    cases hc

set_option maxHeartbeats 6400000 in
theorem enc_any (A : Option Addr) (cp : Nat) (p : Pa) (w : World) (h : PaL w A cp p) (hs : p.chs.length ≤ 1000) (ht : CTab w) : Calls Tryd.prog 6 #[.agg (paC p A cp)] w (endS (pEnc p) w) := by
  have hb := (Below.refl w.heap.size w).alloc (Nat.le_refl _) (.cells (paC p A cp) 27)
  have ha := Blk.new w 27 (paC p A cp)
  obtain ⟨W, hW⟩ : ∃ z, w.alloc (.cells (paC p A cp) 27) = z := ⟨_, rfl⟩
  rw [hW] at hb ha
  obtain ⟨gp, hgp⟩ : ∃ z, w.heap.size = z := ⟨_, rfl⟩
  rw [hgp] at ha
  have HGE : Hid (w.heap.size ≤ gp) := Nat.le_of_eq hgp
  have HP := Lib.hid (h.below hb)
  have HB := Lib.hid hb
  have HA := Lib.hid ha
  have HT := Lib.hid (ht.below hb ht.1)
  have hl := ha.lt
  have a0 := ha.cell 0
  have a1 := ha.cell 1
  have a2 := ha.cell 2
  have a3 := ha.cell 3
  have a4 := ha.cell 4
  have a5 := ha.cell 5
  have a6 := ha.cell 6
  simp only [paC, List.getElem?_toArray, List.getElem?_cons_zero, List.getElem?_cons_succ] at a0 a1 a2 a3 a4 a5 a6
  have HCK := Lib.hid (check_any A cp p W HP.out hs)
  have HA0 := Lib.hid h.chs
  have HT0 := Lib.hid ht
  have HGB := Lib.hid h.base
  have HGT := Lib.hid h.target
  have HE : Hid (pEnc p = if pCheck p ≠ 0 then ([], 2) else (sealB (pBytes p), 0)) := rfl
  have h2 := check_two p
  have HOK := Lib.hid (fun e => check_ok (p := p) e)
  have HGP := Lib.hid hgp
  clear h hb ha ht hs hgp
  obtain ⟨E, hE⟩ : ∃ z, pEnc p = z := ⟨_, rfl⟩
  obtain ⟨K, hK⟩ : ∃ z, pCheck p = z := ⟨_, rfl⟩
  rw [hE] at HE ⊢
  rw [hK] at HE HCK h2 HOK
  clear hE hK
  unfold paC at hW HCK
  refine (callsIn_wide (n := 9)).1 (callsIn_of_wp_marks Tryd.func6 rfl trivial ?_ rfl)
  refine wpIn_wide.2 ?_
  unfold paC
  simp only [Tryd.ntmps6, List.size_toArray, List.length_cons, List.length_nil, Nat.reduceAdd, Nat.reduceSub, Array.replicate_succ, Array.replicate_zero, List.push_toArray, List.append_toArray, List.nil_append, List.cons_append]
  go_upto_region 1 with fail
  try rw [hW]
  clear hW
  rw [HGP.out]
  clear HGP
  go_wp2_with fail
  refine HCK.out.mono ?_
  rintro e W1 ⟨rfl, c1⟩
  have HB1 := Lib.hid (below_step HB.out c1)
  have HP1 := Lib.hid (HP.out.below c1)
  have HA1 := Lib.hid (HA.out.below c1)
  have HT1 := Lib.hid (HT.out.below c1 HT.out.1)
  clear c1 HP HB HA HT HCK a0 a1 a2 a3 a4 a5 a6 hl
  rcases h2 with rfl | rfl
  · have hok := HOK.out rfl
    have HE0 : Hid (E = (sealB (pBytes p), 0)) := HE.out
    have ha := HA1.out
    have hl := ha.lt
    have a0 := ha.cell 0
    have a1 := ha.cell 1
    have a2 := ha.cell 2
    have a3 := ha.cell 3
    have a4 := ha.cell 4
    have a5 := ha.cell 5
    have a6 := ha.cell 6
    simp only [paC, List.getElem?_toArray, List.getElem?_cons_zero, List.getElem?_cons_succ] at a0 a1 a2 a3 a4 a5 a6
    clear HE HOK ha
    have hok2 := hok.few
    have hB2 := (Below.refl W1.heap.size W1).alloc (Nat.le_refl _) (.cells #[.pointer none, .slice none 0 0] 62)
    have hF2 : BF W1.heap.size W1.heap.size [] (W1.alloc (.cells #[.pointer none, .slice none 0 0] 62)) := Lib.IsBuilderF.of (Lib.fresh_isBuilder 62 5 W1)
    have hS2 : (W1.alloc (.cells #[.pointer none, .slice none 0 0] 62)).heap.size = W1.heap.size + 1 := World.size_alloc _ _
    obtain ⟨W2, hW2⟩ : ∃ z, W1.alloc (.cells #[.pointer none, .slice none 0 0] 62) = z := ⟨_, rfl⟩
    rw [hW2] at hB2 hF2 hS2
    have HB2 := Lib.hid (below_step HB1.out hB2)
    have HP2 := Lib.hid (HP1.out.below hB2)
    have hA2 := HA1.out.below hB2
    have HT2 := Lib.hid (HT1.out.below hB2 HT1.out.1)
    have HF2 := Lib.hid hF2
    have HS2 := Lib.hid hS2
    have HW2 := Lib.hid hW2
    have HOK2 := Lib.hid hok
    have HNE : Hid (gp < W1.heap.size) := hl
    clear hB2 hF2 hS2 hW2 HB1 HP1 HA1 HT1 hok hok2
    go_upto_region 5 with fail
    try rw [HW2.out]
    clear HW2 a0 a1 a2 a3 a4 a5 a6 hl
    obtain ⟨n1, hn1⟩ : ∃ z, W1.heap.size = z := ⟨_, rfl⟩
    rw [hn1] at HF2 HS2 HNE ⊢
    clear hn1
    have hl := hA2.lt
    have a0 := hA2.cell 0
    have a1 := hA2.cell 1
    have a2 := hA2.cell 2
    have a3 := hA2.cell 3
    have a4 := hA2.cell 4
    have a5 := hA2.cell 5
    have a6 := hA2.cell 6
    simp only [paC, List.getElem?_toArray, List.getElem?_cons_zero, List.getElem?_cons_succ] at a0 a1 a2 a3 a4 a5 a6
    have HPI := Lib.hid (pieces_any p A cp W2)
    unfold paC at HPI
    clear hA2
    go_wp2_with fail
    refine HPI.out.mono ?_
    rintro e W3 ⟨rfl, hW3⟩
    clear a0 a1 a2 a3 a4 a5 a6 hl HPI
    have hB3 : Below W2.heap.size W2 W3 := by rw [hW3]; exact (Below.refl _ _).alloc (Nat.le_refl _) _
    have hP3 : Blk W3 W2.heap.size 27 (paC p A cp) := by rw [hW3]; exact Blk.new _ _ _
    obtain ⟨T, hT⟩ := lift_tk (tokL p) (tok_thin p HOK2.out)
    have hTl : T.length ≤ 11 := by
      have := tokL_len p
      rw [← hT, List.length_map] at this
      have := HOK2.out.few
      omega
    have HST := Lib.hid (pieces_stops (w0 := w) (w := W3) (nB := n1) 8 HA0.out HOK2.out HGB.out HGT.out (below_step HB2.out hB3) hP3 (by have := HS2.out; omega) (by have := HS2.out; have := hB3.size; omega) hT)
    have HB3 := Lib.hid (below_step HB2.out hB3)
    have HEI : Hid (EI w n1 [] W3) := ⟨bf_kept HF2.out (grown_of hB3) (fun r e => by cases e), HB3.out⟩
    have HTL := Lib.hid hTl
    have HTT := Lib.hid hT
    have hgn : w.heap.size ≤ n1 := by have := HGE.out; have := HNE.out; omega
    clear hW3 hB3 hP3 hTl hT HB2 HP2 HT2 HF2 HOK2 HA0 HGB HGT
    obtain ⟨q, hq⟩ : ∃ z, W2.heap.size = z := ⟨_, rfl⟩
    rw [hq] at HST ⊢
    clear hq
    generalize Value.agg #[.int .u64 (p.base.1 : Int), .int .u64 (p.base.2 : Int), .int .u64 (p.target.1 : Int), .int .u64 (p.target.2 : Int), .int .i64 p.fr, .int .i64 p.all, .slice A p.chs.length cp] = AG
    go_wp2_with fail
    refine wpIn_wide.1 (wpIn_rangeFunc_ownF (F := Fence.wide) (n := 9) rfl (by decide) (gf := 45) (lb := #[.pointer (some ⟨q, 0, none⟩)]) rfl trivial (enters_of Tryd.func45 (by kernel_rfl) rfl) HST.out
      (fun h k => h.trans k) (fun W l o o' h1 h2 h3 _ => KE.putObj (Nat.le_trans HB3.out.size h1) h2 h3) (Below.refl _ _) (fun _ => rfl)
      (EI w n1) (fun _ _ _ => False) (ei_from HB3.out.size) (fun _ _ _ _ _ hs _ _ => hs) HEI.out
      (fun x => { tmps := #[AG, .pointer (some ⟨gp, 0, none⟩), .string { data := #[] }, .int .i64 0, .int .i64 0, .pointer (some ⟨n1, 0, none⟩), .string (str x.1), AG, .int .i64 0, .int .i64 0, .bool false, undef, AG, .func (.func 45) #[] #[.pointer (some ⟨q, 0, none⟩)], .string (str x.1), undef, undef, undef, undef], defers := [] })
      ?assign ?body ?done ?stop)
    case assign =>
      intro l x W K hK
      gi_wp2
      exact hK
    case body =>
      rintro l pre x W ⟨h1, h2⟩ hpl
      have hlen : (pre.map fun x => x.1).flatten.length ≤ 1000 * pre.length := by
        clear h1 hpl
        induction pre with
        | nil => simp
        | cons y r ih =>
          have := y.2
          simp only [List.map_cons, List.flatten_cons, List.length_append, List.length_cons]
          omega
      have HWR := Lib.hid (write_any x.1 h1 (by have := x.2; have := HTL.out; omega) (Nat.le_of_lt (bf_lt h1)))
      have HX := Lib.hid h1
      have HX2 := Lib.hid h2
      clear h1 h2 hlen hpl
      gi_wp2_with (refine ⟨trivial, ?_⟩; gi_at_call 32; refine (CallsIn.inRound l (callsIn_wide.2 HWR.out)).mono ?_)
      rintro e W4 ⟨⟨v, rfl⟩, h1, h2, h3⟩
      have HK1 := Lib.hid (keeps_of (bf_blk HX.out) (h2.mono (Nat.zero_le _)) h3)
      have HK2 : Hid (KE w.heap.size n1 W W4) := KE.of_kept (h2.mono hgn) h3
      have HK3 : Hid (EI w n1 (pre ++ [x]) W4) := ⟨by rw [List.map_append, List.flatten_append]; simpa using h1, HX2.out.trans (h2.mono hgn)⟩
      clear h1 h2 h3 HX HX2 HWR
      gi_wp2
      exact ⟨HK1.out, HK2.out, HK3.out⟩
    case done =>
      rintro D ys W hD rfl ⟨h1, h2⟩ hK
      have hfl : (ys.map fun x => x.1).flatten = pBytes p := by rw [HTT.out, tokL_flat]
      have hlen : (pBytes p).length ≤ 11000 := by
        rw [← hfl]
        have hq : ∀ l : List Tk, (l.map fun x => x.1).flatten.length ≤ 1000 * l.length := fun l => by
          induction l with
          | nil => simp
          | cons y r ih =>
            have := y.2
            simp only [List.map_cons, List.flatten_cons, List.length_append, List.length_cons]
            omega
        have := hq ys
        have := HTL.out
        omega
      rw [hfl] at h1
      have HTO := Lib.hid (told_any h1 (Nat.le_of_lt (bf_lt h1)))
      have HX2 := Lib.hid h2
      have HKD := Lib.hid hK
      have HBK := Lib.hid (bf_blk h1)
      have HD := Lib.hid hD
      clear h1 h2 hK hfl hD HEI HST
      go_wp2_with fail
      refine HTO.out.mono ?_
      rintro e W4 ⟨rfl, h2, h3⟩
      have HB4 := Lib.hid (HX2.out.trans (h2.mono hgn))
      have HT4 := Lib.hid (HT0.out.below HB4.out HT0.out.1)
      have HKD4 := Lib.hid ((keeps_of HBK.out (h2.mono (Nat.zero_le _)) h3).same D _ HKD.out rfl)
      clear h2 h3 HTO HX2 HKD HBK
      have HSE := Lib.hid (seal_any (str (pBytes p)) W4 (by rw [str_size]; omega) HT4.out)
      go_wp2_with fail
      refine HSE.out.mono ?_
      rintro e W5 ⟨rfl, c5⟩
      have HB5 := Lib.hid (below_step HB4.out c5)
      have hKD5 := (c5.block D (Array.getElem?_eq_some_iff.1 HKD4.out).1).trans HKD4.out
      have HKD5 := Lib.hid hKD5
      clear c5 hKD5 HSE HB4 HT4 HKD4
      go_wp2_with fail
      refine ⟨by simp, .inl ⟨_, _, rfl, run_takeDeferred HKD5.out, ?_⟩⟩
      refine ⟨_, results_tmp2 rfl _ _ _, ?_⟩
      rw [HE0.out]
      refine ⟨by rw [bl_str]; rfl, HB5.out.grown (grownBy_putObj' W5 D _) HB5.out.size (fun k e => by cases e; have := HD.out; have := HB3.out.size; omega)⟩
    case stop =>
      rintro D cc pre W hD hpre hx hK
      exact hx.elim
  · have HE2 : Hid (E = ([], 2)) := HE.out
    clear HE HOK
    go_wp2_with fail
    refine ⟨_, results_tmp2 rfl _ _ _, ?_⟩
    rw [HE2.out]
    exact ⟨rfl, HB1.out⟩
end Go.Proofs.YtdpbdkacngaemaaDoor.st

/- Are two lists of changes alike. -/
namespace Go.Proofs.YtdpbdkacngaemaaDoor.st
open Go Go.RowKit Go.Sort Go.Proofs.YtdpbdkacngaemaaDoor.ib Go.Proofs.YtdpbdkacngaemaaDoor.wi Go.Proofs.YtdpbdkacngaemaaDoor.mt
open Go.Proofs.YtdpbdkacngaemaaDoor.ch (ChL OChs chVals infoCh)
set_option maxRecDepth 100000

/-- As far as k both lists are alike. -/
def SaRel (l m : List Ch) (w : World) (i : Value) (wr : World) : Prop :=
  ∃ k : Nat, k ≤ l.length ∧ i = .int .i64 (k : Int) ∧ l.take k = m.take k ∧ Below w.heap.size w wr
theorem take_snoc {l m : List Ch} {k : Nat} (h1 : k < l.length) (h2 : k < m.length) (h : l.take k = m.take k) (he : l[k] = m[k]) : l.take (k + 1) = m.take (k + 1) := by
  rw [List.take_succ_eq_append_getElem h1, List.take_succ_eq_append_getElem h2, h, he]

set_option maxHeartbeats 6400000 in
theorem equal_any (A B : Option Addr) (c d : Nat) (l m : List Ch) (w : World) (hA : ChL w A l) (hB : ChL w B m) (hl : l.length ≤ 1000000) (hm : m.length ≤ 1000000) :
    Calls Tryd.prog 42 #[.slice A l.length c, .slice B m.length d] w (endB (decide (l = m)) w) := by
  have HA := Lib.hid hA
  have HB := Lib.hid hB
  clear hA hB
  by_cases hlen : l.length = m.length
  · obtain ⟨len, hln⟩ : ∃ k, l.length = k := ⟨_, rfl⟩
    have HLL := Lib.hid hln
    have HLM : Hid (m.length = len) := by unfold Hid; rw [← hln, hlen]
    rw [hln] at hl
    rw [← hlen, hln]
    have hne : ((len : Int) != (len : Int)) = false := by simp
    clear hln hlen hm
    go_enter Tryd.func42, Tryd.ntmps42
    go_wp2_with fail
    go_loopw [5, 13] (fun _ i wr => SaRel l m w i wr) (fun _ i _ => len - (intOf i).toNat)
    case atStart => exact ⟨0, Nat.zero_le _, rfl, by rw [List.take_zero, List.take_zero], Below.refl _ _⟩
    case round =>
      obtain ⟨k, hk, rfl, ht, hB⟩ := hrel
      have HT := Lib.hid ht
      have HBW := Lib.hid hB
      rw [HLL.out] at hk
      clear ht hB
      by_cases hlt : k < len
      · have hki : (k : Int) < (len : Int) := by omega
        have hkl : k < l.length := by rw [HLL.out]; exact hlt
        have hkm : k < m.length := by rw [HLM.out]; exact hlt
        obtain ⟨b1, o1, rfl, hb1, c0, c1, -⟩ := HA.out k hkl
        obtain ⟨b2, o2, rfl, hb2, d0, d1, -⟩ := HB.out k hkm
        have HNE : Hid (l[k] ≠ m[k] → l ≠ m) := fun h e => h (by subst e; rfl)
        have HTS : Hid (l[k] = m[k] → l.take (k + 1) = m.take (k + 1)) := fun e => take_snoc hkl hkm HT.out e
        obtain ⟨x, hx⟩ : ∃ x, l[k] = x := ⟨_, rfl⟩
        obtain ⟨y, hy⟩ : ∃ y, m[k] = y := ⟨_, rfl⟩
        rw [hx] at c0 c1 HNE HTS
        rw [hy] at d0 d1 HNE HTS
        have e0 : wr.cell? ⟨b1, o1 + k * 2, none⟩ = some (.int .i64 x.1) := by rw [HBW.out.cell (p := ⟨b1, o1 + k * 2, none⟩) hb1]; exact c0
        have e1 : wr.cell? ⟨b1, o1 + k * 2 + 1, none⟩ = some (.string (str x.2)) := by rw [HBW.out.cell (p := ⟨b1, o1 + k * 2 + 1, none⟩) hb1]; exact c1
        have f0 : wr.cell? ⟨b2, o2 + k * 2, none⟩ = some (.int .i64 y.1) := by rw [HBW.out.cell (p := ⟨b2, o2 + k * 2, none⟩) hb2]; exact d0
        have f1 : wr.cell? ⟨b2, o2 + k * 2 + 1, none⟩ = some (.string (str y.2)) := by rw [HBW.out.cell (p := ⟨b2, o2 + k * 2 + 1, none⟩) hb2]; exact d1
        have l1 : b1 < wr.heap.size := Nat.lt_of_lt_of_le hb1 HBW.out.size
        have l2 : b2 < wr.heap.size := Nat.lt_of_lt_of_le hb2 HBW.out.size
        have HXY := Lib.hid (chg_eq x y)
        clear c0 c1 d0 d1 hx hy hb1 hb2
        generalize x.1 = x1 at *
        generalize str x.2 = x2 at *
        generalize y.1 = y1 at *
        generalize str y.2 = y2 at *
        obtain ⟨q1, hq1⟩ : ∃ q, (x1 == y1) = q := ⟨_, rfl⟩
        obtain ⟨q2, hq2⟩ : ∃ q, (x2.toList == y2.toList) = q := ⟨_, rfl⟩
        have HQ1 : Hid (q1 = true → q2 = true → x = y) := fun h1 h2 => by
          have := HXY.out
          rw [hq1, hq2, h1, h2] at this
          simpa using this.symm
        have HQ2 : Hid ((q1 && q2) = false → x ≠ y) := fun h => by
          have := HXY.out
          rw [hq1, hq2, h] at this
          simpa using this.symm
        clear HXY
        have HQ : Hid (∀ n, Below w.heap.size w (wr.drewN n)) := fun n => ⟨HBW.out.os, HBW.out.tape, HBW.out.output, HBW.out.size, HBW.out.block⟩
        by_cases hqq : q1 = true ∧ q2 = true
        · obtain ⟨rfl, rfl⟩ := hqq
          have HTT := Lib.hid (HTS.out (HQ1.out rfl rfl))
          clear HTS HNE HQ1 HQ2
          go_wp2_with fail
          go_quiet (fail)
          go_wp2_with fail
          go_roundw
          case rel => exact ⟨k + 1, by rw [HLL.out]; omega, by go_num, HTT.out, HQ.out _⟩
          case measure => simp [intOf]; omega
        · have hqb : (q1 && q2) = false := by cases q1 <;> cases q2 <;> simp at hqq ⊢
          have HFL : Hid (decide (l = m) = false) := decide_eq_false (HNE.out (HQ2.out hqb))
          have hqs : (q1 = false) ∨ (q1 = true ∧ q2 = false) := by cases q1 <;> cases q2 <;> simp at hqq ⊢
          clear hqq hqb HQ1 HQ2 HTS HNE
          rcases hqs with rfl | ⟨rfl, rfl⟩
          all_goals
            go_wp2_with fail
            go_quiet (fail)
            go_wp2_with fail
            go_ret
            rw [HFL.out]
            exact ⟨rfl, HQ.out _⟩
      · have hki : ¬ (k : Int) < (len : Int) := by omega
        have HTR : Hid (decide (l = m) = true) := decide_eq_true (by
          have := HT.out
          rwa [List.take_of_length_le (by rw [HLL.out]; omega), List.take_of_length_le (by rw [HLM.out]; omega)] at this)
        go_wp2_with fail
        go_ret
        rw [HTR.out]
        exact ⟨rfl, HBW.out⟩
  · have HFL : Hid (decide (l = m) = false) := decide_eq_false (fun e => hlen (by rw [e]))
    have hne : ((l.length : Int) != (m.length : Int)) = true := by simp; omega
    obtain ⟨x, hx⟩ : ∃ k, l.length = k := ⟨_, rfl⟩
    obtain ⟨y, hy⟩ : ∃ k, m.length = k := ⟨_, rfl⟩
    rw [hx, hy] at hne
    rw [hx, hy]
    clear hlen hx hy hl hm
    go_enter Tryd.func42, Tryd.ntmps42
    go_wp2_with fail
    go_ret
    rw [HFL.out]
    exact ⟨rfl, Below.refl _ _⟩
end Go.Proofs.YtdpbdkacngaemaaDoor.st

/- Are two parts alike: the program's, and the document's. -/
namespace Go.Proofs.YtdpbdkacngaemaaDoor.st
open Go Go.RowKit Go.Sort Go.Proofs.YtdpbdkacngaemaaDoor.ib Go.Proofs.YtdpbdkacngaemaaDoor.wi Go.Proofs.YtdpbdkacngaemaaDoor.mt
open Go.Proofs.YtdpbdkacngaemaaDoor.ch (ChL OChs chVals infoCh)
set_option maxRecDepth 100000

set_option maxHeartbeats 6400000 in
theorem same_any (A B : Option Addr) (c d : Nat) (p q : Pa) (w : World) (h : PaL w A c p) (h' : PaL w B d q) (hs : p.chs.length ≤ 1000000) (hs' : q.chs.length ≤ 1000000) :
    Calls Tryd.prog 26 #[.agg (paC p A c), .agg (paC q B d)] w (endB (decide (p = q)) w) := by
  have hb1 := (Below.refl w.heap.size w).alloc (Nat.le_refl _) (.cells (paC p A c) 27)
  have ha1 := Blk.new w 27 (paC p A c)
  obtain ⟨W1, hW1⟩ : ∃ z, w.alloc (.cells (paC p A c) 27) = z := ⟨_, rfl⟩
  rw [hW1] at hb1 ha1
  have hbb := (Below.refl _ W1).alloc (Nat.le_refl _) (.cells (paC q B d) 27)
  have HB := Lib.hid (below_step hb1 hbb)
  have HA0 := Lib.hid (ha1.below hbb)
  have HB0 := Lib.hid (Blk.new W1 27 (paC q B d))
  have HCA := Lib.hid ((h.chs.below hb1).below hbb)
  have HCB := Lib.hid ((h'.chs.below hb1).below hbb)
  obtain ⟨w0, hw0⟩ : ∃ z, W1.alloc (.cells (paC q B d) 27) = z := ⟨_, rfl⟩
  rw [hw0] at HB HA0 HB0 HCA HCB
  obtain ⟨g0, hg0⟩ : ∃ g, w.heap.size = g := ⟨_, rfl⟩
  obtain ⟨g1, hg1⟩ : ∃ g, W1.heap.size = g := ⟨_, rfl⟩
  clear hb1 ha1 hbb
  have HEQ : Hid (decide (p = q) = true ↔ (p.base.1 : Int) = q.base.1 ∧ (p.base.2 : Int) = q.base.2 ∧ (p.target.1 : Int) = q.target.1 ∧ (p.target.2 : Int) = q.target.2 ∧ p.fr = q.fr ∧ p.all = q.all ∧ p.chs = q.chs) := by
    unfold Hid
    obtain ⟨⟨a1, a2⟩, ⟨a3, a4⟩, a5, a6, a7⟩ := p
    obtain ⟨⟨b1, b2⟩, ⟨b3, b4⟩, b5, b6, b7⟩ := q
    simp [Int.ofNat_inj, and_assoc]
  obtain ⟨R, hR⟩ : ∃ R, decide (p = q) = R := ⟨_, rfl⟩
  rw [hR] at HEQ ⊢
  clear hR h h'
  obtain ⟨⟨a1, a2⟩, ⟨a3, a4⟩, a5, a6, l⟩ := p
  obtain ⟨⟨b1, b2⟩, ⟨b3, b4⟩, b5, b6, m⟩ := q
  unfold paC at *
  dsimp only at *
  generalize (a1 : Int) = x1 at *
  generalize (a2 : Int) = x2 at *
  generalize (a3 : Int) = x3 at *
  generalize (a4 : Int) = x4 at *
  generalize (b1 : Int) = y1 at *
  generalize (b2 : Int) = y2 at *
  generalize (b3 : Int) = y3 at *
  generalize (b4 : Int) = y4 at *
  rw [hg0] at HA0
  rw [hg1] at HB0
  have hA := HA0.out
  have hB := HB0.out
  have p0 := hA.cell 0
  have p1 := hA.cell 1
  have p2 := hA.cell 2
  have p3 := hA.cell 3
  have p4 := hA.cell 4
  have p5 := hA.cell 5
  have p6 := hA.cell 6
  have q0 := hB.cell 0
  have q1 := hB.cell 1
  have q2 := hB.cell 2
  have q3 := hB.cell 3
  have q4 := hB.cell 4
  have q5 := hB.cell 5
  have q6 := hB.cell 6
  have hla := hA.lt
  have hlb := hB.lt
  simp only [List.getElem?_toArray, List.getElem?_cons_zero, List.getElem?_cons_succ] at p0 p1 p2 p3 p4 p5 p6 q0 q1 q2 q3 q4 q5 q6
  clear hA hB
  have HFL : Hid (¬ (x1 = y1 ∧ x2 = y2 ∧ x3 = y3 ∧ x4 = y4 ∧ a5 = b5 ∧ a6 = b6 ∧ l = m) → R = false) := fun h => by
    cases R with
    | false => rfl
    | true => exact absurd (HEQ.out.1 rfl) h
  have HTR : Hid (x1 = y1 ∧ x2 = y2 ∧ x3 = y3 ∧ x4 = y4 ∧ a5 = b5 ∧ a6 = b6 ∧ l = m → R = true) := fun h => HEQ.out.2 h
  have HHB : Hid (Below w.heap.size w w0) := HB.out
  clear HEQ HB
  go_enter Tryd.func26, Tryd.ntmps26
  go_upto_region 1 with fail
  try rw [hw0]
  try rw [hg0]
  try rw [hg1]
  clear hw0 hW1 hg0 hg1
  by_cases hx1 : x1 = y1
  case neg =>
    have HR : Hid (R = false) := HFL.out (fun h => hx1 (by have := h; simp_all))
    have hq : (x1 == y1) = false := by simpa using hx1
    have hq2 : (x1 != y1) = true := by simpa using hx1
    clear HFL HTR hx1
    go_wp2_with fail
    go_ret
    rw [HR.out]
    exact ⟨rfl, HHB.out⟩
  subst hx1
  by_cases hx2 : x2 = y2
  case neg =>
    have HR : Hid (R = false) := HFL.out (fun h => hx2 (by have := h; simp_all))
    have hq : (x2 == y2) = false := by simpa using hx2
    have hq2 : (x2 != y2) = true := by simpa using hx2
    clear HFL HTR hx2
    go_wp2_with fail
    go_ret
    rw [HR.out]
    exact ⟨rfl, HHB.out⟩
  subst hx2
  by_cases hx3 : x3 = y3
  case neg =>
    have HR : Hid (R = false) := HFL.out (fun h => hx3 (by have := h; simp_all))
    have hq : (x3 == y3) = false := by simpa using hx3
    have hq2 : (x3 != y3) = true := by simpa using hx3
    clear HFL HTR hx3
    go_wp2_with fail
    go_ret
    rw [HR.out]
    exact ⟨rfl, HHB.out⟩
  subst hx3
  by_cases hx4 : x4 = y4
  case neg =>
    have HR : Hid (R = false) := HFL.out (fun h => hx4 (by have := h; simp_all))
    have hq : (x4 == y4) = false := by simpa using hx4
    have hq2 : (x4 != y4) = true := by simpa using hx4
    clear HFL HTR hx4
    go_wp2_with fail
    go_ret
    rw [HR.out]
    exact ⟨rfl, HHB.out⟩
  subst hx4
  by_cases ha5 : a5 = b5
  case neg =>
    have HR : Hid (R = false) := HFL.out (fun h => ha5 (by have := h; simp_all))
    have hq : (a5 == b5) = false := by simpa using ha5
    have hq2 : (a5 != b5) = true := by simpa using ha5
    clear HFL HTR ha5
    go_wp2_with fail
    go_ret
    rw [HR.out]
    exact ⟨rfl, HHB.out⟩
  subst ha5
  by_cases ha6 : a6 = b6
  case neg =>
    have HR : Hid (R = false) := HFL.out (fun h => ha6 (by have := h; simp_all))
    have hq : (a6 == b6) = false := by simpa using ha6
    have hq2 : (a6 != b6) = true := by simpa using ha6
    clear HFL HTR ha6
    go_wp2_with fail
    go_ret
    rw [HR.out]
    exact ⟨rfl, HHB.out⟩
  subst ha6
  have HE := Lib.hid (equal_any A B c d l m w0 HCA.out HCB.out hs hs')
  have HRR : Hid (decide (l = m) = R) := by
    by_cases h : l = m
    · rw [decide_eq_true h]; exact (HTR.out ⟨rfl, rfl, rfl, rfl, rfl, rfl, h⟩).symm
    · rw [decide_eq_false h]; exact (HFL.out (fun k => h k.2.2.2.2.2.2)).symm
  rw [HRR.out] at HE
  clear HFL HTR HRR HCA HCB
  go_wp2_with fail
  refine HE.out.mono ?_
  rintro e W2 ⟨rfl, hb2⟩
  have HB2 : Hid (Below w.heap.size w W2) := HHB.out.trans (hb2.mono HHB.out.size)
  clear hb2 p0 p1 p2 p3 p4 p5 p6 q0 q1 q2 q3 q4 q5 q6 HE
  go_wp2_with fail
  go_ret
  exact ⟨rfl, HB2.out⟩

end Go.Proofs.YtdpbdkacngaemaaDoor.st


/- MtRd, OwnKit, MtSns, MgRd, MgList. -/
import Derived.Test.YtklmgdiaianlbaaQ1
import Derived.Test.YtklmgdiaianlbaaQ2
import Derived.Test.YtklmgdiaianlbaaQ3
import Derived.LoopTactic
import Derived.Laws.AppendOwn
import Derived.Tactics
set_option linter.unusedVariables false
set_option linter.unusedSimpArgs false
/- The document's own reader of a table: a number that is not too great, an image, a guid. -/
namespace Go.Proofs.Ytklmgdiaianlbaa.mt
open Go Go.RowKit Go.Proofs.Ytklmgdiaianlbaa.ib Go.Proofs.Ytklmgdiaianlbaa.wi
set_option maxRecDepth 100000

/-- What the inner reader has left. -/
def QS (w : World) (c : Nat) (s : St) : Prop := match s with
  | none => ∃ q, QAt c q true w
  | some l => ∃ q, bl q = l ∧ QAt c q false w
/-- The reader: its block, how many blocks an image has, what is left. -/
structure RS (w : World) (p c b : Nat) (s : St) : Prop where
  blk : Blk w p 77 #[.pointer (some ⟨c, 0, none⟩), .int .i64 (b : Int)]
  ne : c ≠ p
  left : QS w c s
def Tc (c : Nat) (j : Nat) : Prop := j = c
theorem but_grown {w w' : World} {c : Nat} (h : w.grownBy w' (some c)) : But (Tc c) w w' := ⟨h.os, h.tape, h.output, h.size, fun k hk hn => h.block k hk (fun e => hn (by simpa [Tc] using e))⟩
theorem QS.lt {w : World} {c : Nat} {s : St} (h : QS w c s) : c < w.heap.size := by
  unfold QS at h
  split at h
  · obtain ⟨q, h1, _⟩ := h
    exact (Array.getElem?_eq_some_iff.1 h1).1
  · obtain ⟨q, _, h1, _⟩ := h
    exact (Array.getElem?_eq_some_iff.1 h1).1
theorem QS.block {w w' : World} {c : Nat} {s : St} (h : QS w c s) (hb : w'.heap[c]? = w.heap[c]?) : QS w' c s := by
  unfold QS at h ⊢
  split at h
  · obtain ⟨q, h1, h2⟩ := h
    exact ⟨q, hb.trans h1, h2⟩
  · obtain ⟨q, h0, h1, h2⟩ := h
    exact ⟨q, h0, hb.trans h1, h2⟩
theorem RS.below {w w' : World} {p c b : Nat} {s : St} (h : RS w p c b s) (hb : Below w.heap.size w w') : RS w' p c b s := ⟨h.blk.below hb, h.ne, h.left.block (hb.block _ h.left.lt)⟩
theorem RS.turn {w w' : World} {p c b : Nat} {s s' : St} (h : RS w p c b s) (hb : But (Tc c) w w') (hq : QS w' c s') : RS w' p c b s' := ⟨h.blk.of_block (hb.block _ h.blk.lt (fun e => h.ne e.symm)), h.ne, hq⟩

def endN (c : Nat) (s : St) (w : World) (e : Ending) (w' : World) : Prop := e = .returned (.int .u64 ((numS s).1 : Int)) ∧ But (Tc c) w w' ∧ QS w' c (numS s).2
theorem num_any {w : World} {c : Nat} {s : St} (h : QS w c s) : Calls Try.prog 82 #[.pointer (some ⟨c, 0, none⟩)] w (endN c s w) := by
  unfold QS at h
  split at h
  · obtain ⟨q, h1⟩ := h
    refine (q_bad c q w h1).mono ?_
    rintro e w' ⟨hg, rfl, hq⟩
    exact ⟨rfl, but_grown hg, _, hq⟩
  · obtain ⟨q, rfl, h1⟩ := h
    refine (q_num c q w h1).mono ?_
    rintro e w' ⟨hg, ⟨n, r, s', h2, rfl, h3, hq⟩ | ⟨h2, rfl, hq⟩⟩
    · have hn : numS (some (bl q)) = (n, some r) := by unfold numS; simp only [h2]
      unfold endN
      rw [hn]
      exact ⟨rfl, but_grown hg, s', h3, hq⟩
    · have hn : numS (some (bl q)) = (0, none) := by unfold numS; simp only [h2]
      unfold endN
      rw [hn]
      exact ⟨rfl, but_grown hg, _, hq⟩

def endSm (p c b : Nat) (s : St) (w : World) (e : Ending) (w' : World) : Prop := e = .returned (.int .i64 ((smallS s).1 : Int)) ∧ But (Tc c) w w' ∧ RS w' p c b (smallS s).2
set_option maxHeartbeats 1600000 in
theorem small_any {w : World} {p c b : Nat} {s : St} (h : RS w p c b s) : Calls Try.prog 58 #[.pointer (some ⟨p, 0, none⟩)] w (endSm p c b s w) := by
  have HR := Lib.hid h
  have c0 := h.blk.cell 0
  simp only [List.getElem?_toArray, List.getElem?_cons_zero, List.getElem?_cons_succ] at c0
  have hlt := h.blk.lt
  have hm : (if (1048576 : Int) < ((numS s).1 : Int) then (1048576 : Int) else ((numS s).1 : Int)) = ((smallS s).1 : Int) := by
    unfold smallS
    dsimp only
    split <;> omega
  have hm2 : min ((numS s).1 : Int) 1048576 = ((smallS s).1 : Int) := by
    unfold smallS
    dsimp only
    omega
  have hsm : (smallS s).1 ≤ 1048576 := by unfold smallS; dsimp only; omega
  have HN := Lib.hid (num_any h.left)
  obtain ⟨n, hn⟩ : ∃ n, (numS s).1 = n := ⟨_, rfl⟩
  have hl := numS_lt s
  rw [hn] at hm hm2 hl
  have HNN := Lib.hid hn
  obtain ⟨r, hr⟩ : ∃ r, (smallS s).1 = r := ⟨_, rfl⟩
  rw [hr] at hm hm2 hsm
  have HRR := Lib.hid hr
  clear hn hr h
  go_enter Try.func58, Try.ntmps58
  go_wp2_with fail
  refine HN.out.mono ?_
  rintro e W ⟨rfl, hb, hq⟩
  rw [HNN.out]
  have HB := Lib.hid hb
  have HQ := Lib.hid hq
  clear hb hq
  go_wp2_with fail
  go_ret
  refine ⟨by rw [HRR.out]; rfl, HB.out, HR.out.turn HB.out ?_⟩
  exact HQ.out

/-- An image that was read: how many places so far. -/
def RiRel (p c b : Nat) (s : St) (w : World) (v i : Value) (wr : World) : Prop :=
  ∃ k : Nat, k ≤ b ∧ i = .int .i64 (k : Int) ∧ OInts wr w.heap.size v (intsS k s).1 ∧ RS wr p c b (intsS k s).2 ∧ But (Tc c) w wr
theorem intsS_len : ∀ (n : Nat) (s : St), (intsS n s).1.length = n
  | 0, _ => rfl
  | n + 1, s => by simp [intsS, intsS_len n]
theorem intsS_snoc : ∀ (n : Nat) (s : St), intsS (n + 1) s = ((intsS n s).1 ++ [((smallS (intsS n s).2).1 : Int)], (smallS (intsS n s).2).2)
  | 0, s => rfl
  | n + 1, s => by
    have ih := intsS_snoc n (smallS s).2
    show ((((smallS s).1 : Int) :: (intsS (n + 1) (smallS s).2).1, (intsS (n + 1) (smallS s).2).2) : List Int × St) = _
    rw [ih]
    rfl
theorem smallS_le (s : St) : (smallS s).1 ≤ 1048576 := by unfold smallS; dsimp only; omega
theorem intsS_ok : ∀ (n : Nat) (s : St), okInts (intsS n s).1
  | 0, _ => fun z hz => absurd hz (by simp [intsS])
  | n + 1, s => fun z hz => by
    have h := smallS_le s
    simp only [intsS, List.mem_cons] at hz
    rcases hz with rfl | hz
    · omega
    · exact intsS_ok n _ z hz
def endOI (p c b : Nat) (s : St) (w : World) (e : Ending) (w' : World) : Prop := ∃ v, e = .returned v ∧ OInts w' w.heap.size v (intsS b s).1 ∧ RS w' p c b (intsS b s).2 ∧ But (Tc c) w w'

theorem but_own {S : Nat → Prop} {a w w' : World} {r : Option Nat} (h : But S a w) (hg : w.grownBy w' r) (hr : ∀ j, r = some j → a.heap.size ≤ j) : But S a w' :=
  h.trans (S' := fun j => r = some j) ⟨hg.os, hg.tape, hg.output, hg.size, fun k hk hn => hg.block k hk (fun e => hn e.symm)⟩ fun i hi => .inr (hr i hi)
theorem oints_but {w w' : World} {B c : Nat} {v : Value} {zs : List Int} (h : OInts w B v zs) (hc : c < B) (hb : But (Tc c) w w') : OInts w' B v zs := by
  refine ⟨h.1, h.2.imp id ?_⟩
  rintro ⟨g, cap, cur, h1, h2, h3, h4⟩
  exact ⟨g, cap, cur, h1, h2, (hb.block g (Array.getElem?_eq_some_iff.1 h3).1 (fun e => by unfold Tc at e; omega)).trans h3, h4⟩

set_option maxHeartbeats 3200000 in
theorem image_any {w : World} {p c b : Nat} {s : St} (h : RS w p c b s) (hb : b ≤ 100) : Calls Try.prog 59 #[.pointer (some ⟨p, 0, none⟩)] w (endOI p c b s w) := by
  obtain ⟨i0, hi, hz0, hz1, hz2⟩ := info_parts infoInt
  have HR := Lib.hid h
  clear h
  go_enter Try.func59, Try.ntmps59
  go_wp2_with fail
  go_loopw [3, 4] (fun v i wr => RiRel p c b s w v i wr) (fun _ i _ => b - (intOf i).toNat)
  case atStart => exact ⟨0, Nat.zero_le _, rfl, World.ownsRow_nil _ _ _ _, HR.out, But.refl _ _⟩
  case round =>
    obtain ⟨k, hk, rfl, ho, hr, hbu⟩ := hrel
    have HO := Lib.hid ho
    have HRK := Lib.hid hr
    have HB := Lib.hid hbu
    have c1 := hr.blk.cell 1
    simp only [List.getElem?_toArray, List.getElem?_cons_zero, List.getElem?_cons_succ] at c1
    have hltp := hr.blk.lt
    clear ho hr hbu
    by_cases hlt : k < b
    · have hki : (k : Int) < (b : Int) := by omega
      go_wp2_with fail
      refine (small_any HRK.out).mono ?_
      rintro e W ⟨rfl, hb1, hr1⟩
      have HSN := Lib.hid (intsS_snoc k s)
      have hln := intsS_len k s
      have hsm := smallS_le (intsS k s).2
      have ho1 := oints_but HO.out HR.out.left.lt hb1
      have HBW := Lib.hid (HB.out.trans hb1 (fun i hi => .inl hi))
      have hbl := HBW.out.size
      have HRW := Lib.hid hr1
      clear hb1 hr1
      obtain ⟨x, hx⟩ : ∃ x : Nat, (smallS (intsS k s).2).1 = x := ⟨_, rfl⟩
      rw [hx] at hsm
      have HX := Lib.hid hx
      unfold OInts at ho1
      rw [hln] at ho1
      rw [hx]
      have HO2 := Lib.hid (World.ownsRow.alloc ho1 (.cells #[.int .i64 (x : Int)] 3))
      have HLN := Lib.hid hln
      have HNW : Hid (∀ (j : Nat) (u : Value), ([.int .i64 (x : Int)] : List Value)[j]? = some u → (W.alloc (.cells #[.int .i64 (x : Int)] 3)).cell? ((⟨W.heap.size, 0, none⟩ : Addr).add j) = some u) := by
        intro j u hj
        match j, hj with
        | 0, hj =>
          simp at hj
          subst hj
          rw [addr_add]
          exact (Blk.new W 3 #[.int .i64 (x : Int)]).cell 0
      have HB2 := Lib.hid (HBW.out.alloc (.cells #[.int .i64 (x : Int)] 3))
      have HR2 := Lib.hid (HRW.out.below ((Below.refl _ W).alloc (Nat.le_refl _) (.cells #[.int .i64 (x : Int)] 3)))
      clear hx hln ho1 HO HRW HBW HRK HB c1 hltp
      dsimp only
      go_wp2_with (at_builtin; refine wpList_append_own _ rfl (.tmp 13) (.tmp 16) 22 rfl w.heap.size 3 i0 (.int .i64 0) 1 8 Try.underlying22 hi hz0 hz1 hz2 rfl (by decide) _ k _ rfl HO2.out ⟨W.heap.size, 0, none⟩ 1 1 [.int .i64 (x : Int)] rfl rfl HNW.out (int_one _) ?_ ?_ HB2.out.size ?_)
      · unfold maxLen; omega
      · omega
      · intro v' w1 hown hgrow _
        have HB3 := Lib.hid (but_own HB2.out hgrow (fun j hj => (HO2.out.lt j hj).1))
        have HR3 : Hid (RS w1 p c b (smallS (intsS k s).2).2) := by
          have hr := HR2.out
          have hp := HR.out.blk.lt
          have hq := HR.out.left.lt
          have hlo : ∀ j, u3.ownBlock = some j → w.heap.size ≤ j := fun j hj => (HO2.out.lt j hj).1
          exact ⟨hr.blk.of_block (hgrow.block p hr.blk.lt (fun e => by have := hlo p e.symm; omega)), hr.ne, hr.left.block (hgrow.block c hr.left.lt (fun e => by have := hlo c e.symm; omega))⟩
        have HOS : Hid (OInts w1 w.heap.size v' (intsS (k + 1) s).1) := by
          unfold Hid OInts
          rw [HSN.out]
          dsimp only
          rw [HX.out, List.length_append, HLN.out, List.map_append]
          exact hown
        clear hown hgrow HO2 HNW HB2 HR2
        go_wp2_with fail
        go_roundw
        case rel => exact ⟨k + 1, by omega, by go_num, HOS.out, by rw [HSN.out]; exact HR3.out, HB3.out⟩
        case measure => simp [intOf]; omega
    · have hki : ¬ (k : Int) < (b : Int) := by omega
      obtain rfl : k = b := by omega
      go_wp2_with fail
      go_ret
      exact ⟨_, rfl, HO.out, HRK.out, HB.out⟩

def endG (p c b : Nat) (s : St) (w : World) (e : Ending) (w' : World) : Prop := e = .returned (gv (gdS s).1) ∧ But (Tc c) w w' ∧ RS w' p c b (gdS s).2
set_option maxHeartbeats 3200000 in
theorem guid_any {w : World} {p c b : Nat} {s : St} (h : RS w p c b s) : Calls Try.prog 60 #[.pointer (some ⟨p, 0, none⟩)] w (endG p c b s w) := by
  have hb0 := (Below.refl w.heap.size w).alloc (Nat.le_refl _) (.cells #[.int .u64 0, .int .u64 0] 26)
  have HR0 := Lib.hid (h.below hb0)
  have HA0 := Lib.hid (Blk.new w 26 #[.int .u64 0, .int .u64 0])
  have HB0 := Lib.hid (But.of_below (S := Tc c) hb0)
  have HCL := Lib.hid h.left.lt
  have HPL := Lib.hid h.blk.lt
  obtain ⟨w0, hw0⟩ : ∃ x, w.alloc (.cells #[.int .u64 0, .int .u64 0] 26) = x := ⟨_, rfl⟩
  rw [hw0] at HR0 HA0 HB0
  have c0 := HR0.out.blk.cell 0
  simp only [List.getElem?_toArray, List.getElem?_cons_zero, List.getElem?_cons_succ] at c0
  have hlt := HR0.out.blk.lt
  clear h hb0
  go_enter Try.func60, Try.ntmps60
  go_wp2_with fail
  try rw [hw0]
  clear hw0 c0
  refine (num_any HR0.out.left).mono ?_
  rintro e W1 ⟨rfl, hb1, hq1⟩
  have HR1 := Lib.hid (HR0.out.turn hb1 hq1)
  have HA1 := Lib.hid (HA0.out.of_block (hb1.block _ HA0.out.lt (fun e => by have := HCL.out; unfold Tc at e; omega)))
  have HB1 := Lib.hid (HB0.out.trans hb1 (fun i hi => .inl hi))
  clear hb1 hq1 HB0 HA0
  have c0 := HR1.out.blk.cell 0
  simp only [List.getElem?_toArray, List.getElem?_cons_zero, List.getElem?_cons_succ] at c0
  have hlt := HR1.out.blk.lt
  obtain ⟨x, hx⟩ : ∃ x : Nat, (numS s).1 = x := ⟨_, rfl⟩
  rw [hx]
  have HX := Lib.hid hx
  clear hx
  dsimp only
  go_wp2_with fail
  refine (num_any HR1.out.left).mono ?_
  rintro e W2 ⟨rfl, hb2, hq2⟩
  have HR2 := Lib.hid (HR1.out.turn hb2 hq2)
  have HA2 := Lib.hid (HA1.out.of_block (hb2.block _ HA1.out.lt (fun e => by have := HCL.out; unfold Tc at e; omega)))
  have HB2 := Lib.hid (HB1.out.trans hb2 (fun i hi => .inl hi))
  obtain ⟨y, hy⟩ : ∃ y : Nat, (numS (numS s).2).1 = y := ⟨_, rfl⟩
  rw [hy]
  have HY := Lib.hid hy
  have q0 := HA2.out.cell 0
  have q1 := HA2.out.cell 1
  simp only [List.getElem?_toArray, List.getElem?_cons_zero, List.getElem?_cons_succ] at q0 q1
  have f0 := HA2.out.frozen 0
  have f1 := HA2.out.frozen 1
  have hlA := HA2.out.lt
  clear hy hb2 hq2 HB1 HA1 c0
  dsimp only
  go_wp2_with fail
  have HA3 := Lib.hid ((HA2.out.set_ 0 (.int .u64 (x : Int))).set_ 1 (.int .u64 (y : Int)))
  have q0 := HA3.out.cell 0
  have q1 := HA3.out.cell 1
  simp at q0 q1
  have HG : Hid (gv (gdS s).1 = .agg #[.int .u64 (x : Int), .int .u64 (y : Int)]) := by unfold Hid gv gdS; dsimp only; rw [HX.out, HY.out]
  refine bodyPost_ret (v := .agg #[.int .u64 (x : Int), .int .u64 (y : Int)]) (by simp [results, Try.results60, go_sem, q0, q1]) rfl ?_
  have hnew : ∀ (k : Nat) (u : Value) (W : World), But (Tc c) w W → But (Tc c) w (W.setCell ⟨w.heap.size, k, none⟩ u) := fun k u W h => h.setCell _ _ (.inr (Nat.le_refl _))
  refine ⟨by rw [HG.out], hnew _ _ _ (hnew _ _ _ HB2.out), ?_⟩
  have hr := HR2.out
  have hp := HPL.out
  have hc := HCL.out
  have hbb : ∀ (k : Nat) (u : Value) (W : World), RS W p c b (gdS s).2 → RS (W.setCell ⟨w.heap.size, k, none⟩ u) p c b (gdS s).2 := fun k u W h =>
    ⟨h.blk.of_block (Below.heap_setCell _ _ _ _ (fun e => by simp at e; omega)), h.ne, h.left.block (Below.heap_setCell _ _ _ _ (fun e => by simp at e; omega))⟩
  exact hbb _ _ _ (hbb _ _ _ hr)
end Go.Proofs.Ytklmgdiaianlbaa.mt

/- Rows that a call owns: which blocks they are not, when they stay; append in a region that draws its order, and where the row then lies. Nothing here speaks of the program. -/
namespace Go.Proofs.Ytklmgdiaianlbaa.ib
open Go Go.RowKit
set_option maxRecDepth 100000

theorem blk_type {w : World} {a b : Nat} {t u : TypeId} {x y : Array Value} (h : Blk w a t x) (k : Blk w b u y) (hn : t ≠ u) : a ≠ b := by
  rintro rfl
  unfold Blk at h k
  rw [h] at k
  simp only [Option.some.injEq, Obj.cells.injEq] at k
  exact hn k.2.1
theorem own_type {w : World} {base e size n a : Nat} {v : Value} {xs : List Value} {t : TypeId} {x : Array Value} (h : w.ownsRow base e size v n xs) (k : Blk w a t x) (hn : t ≠ e) : ∀ j, v.ownBlock = some j → j ≠ a := by
  intro j hj
  rcases h.2 with ⟨rfl, _⟩ | ⟨g, cap, cur, rfl, _, hg, _⟩
  · cases hj
  · simp [Value.ownBlock] at hj
    subst hj
    exact (blk_type k hg hn).symm
theorem row_of_block {w w' : World} {base e size n : Nat} {v : Value} {zs : List Value} (h : w.ownsRow base e size v n zs) (hb : ∀ k, v.ownBlock = some k → w'.heap[k]? = w.heap[k]?) : w'.ownsRow base e size v n zs := by
  refine ⟨h.1, ?_⟩
  rcases h.2 with h2 | ⟨g', cap, cur, h1, h2, h3, h4⟩
  · exact .inl h2
  · refine .inr ⟨g', cap, cur, h1, h2, (hb g' ?_).trans h3, h4⟩
    rw [h1]
    rfl
theorem row_base {w : World} {B B' e size n : Nat} {v : Value} {zs : List Value} (h : w.ownsRow B e size v n zs) (hB : B' ≤ B) : w.ownsRow B' e size v n zs := by
  refine ⟨h.1, ?_⟩
  rcases h.2 with h2 | ⟨g', cap, cur, h1, h2, h3⟩
  · exact .inl h2
  · exact .inr ⟨g', cap, cur, h1, Nat.le_trans hB h2, h3⟩
theorem own_form {w : World} {base e size n : Nat} {v : Value} {xs : List Value} (h : w.ownsRow base e size v n xs) : ∃ A c, v = .slice A n c := by
  rcases h.2 with ⟨rfl, rfl⟩ | ⟨g, cap, cur, rfl, _⟩
  · exact ⟨none, 0, rfl⟩
  · exact ⟨_, cap, rfl⟩
theorem set_oth (w : World) (g i : Nat) (u : Value) (k : Nat) (h : k ≠ g) : (w.setCell ⟨g, i, none⟩ u).heap[k]? = w.heap[k]? := Below.heap_setCell _ _ _ _ h
theorem but_grow {S : Nat → Prop} {a w w' : World} {row : Option Nat} (h : But S a w) (hg : w.grownBy w' row) (hr : ∀ k, row = some k → S k ∨ a.heap.size ≤ k) : But S a w' :=
  h.trans (S' := fun k => row = some k) ⟨hg.os, hg.tape, hg.output, hg.size, fun k hk hn => hg.block k hk (fun e => hn e.symm)⟩ hr

theorem wp_append_any {P : Program} {o : Oper} {a : Act} {w : World} {K : Act → World → Prop} {Q : Exit → Act → World → Prop} (s x : Operand) (t : TypeId)
    (ho : o.op = .call { callee := .builtin .append, args := #[s, x], argTypes := #[t, t] })
    (base : Nat) (e : TypeId) (i : TypeInfo) (z : Value) (size bytes : Nat) (ht : P.underlying t = some (.slice e)) (hi : P.info? e = some i) (hz : i.zero = some z)
    (hsize : i.size = size) (hby : i.bytes = bytes) (hzs : z.cells.size = size) (hsz : 0 < size)
    (v : Value) (n : Nat) (xs : List Value) (hs : a.eval s = v) (hown : w.ownsRow base e size v n xs)
    (ad : Addr) (m c : Nat) (news : List Value) (hx : a.eval x = .slice (some ad) m c) (hl : news.length = m * size) (hnews : ∀ j u, news[j]? = some u → w.cell? (ad.add j) = some u) (h1 : ∀ u ∈ news, u.oneCell' = true)
    (h63 : n + m ≤ maxLen) (hbytes : (n + m) * bytes ≤ 140737488355328) (hbase : base ≤ w.heap.size)
    (h : ∀ v' w', w'.ownsRow base e size v' (n + m) (xs ++ news) → w.grownBy w' v.ownBlock → (v'.ownBlock = v.ownBlock ∨ v'.ownBlock = some w.heap.size) → K (a.put o.dst v') w') : o.wp P a w K Q := by
  obtain ⟨v', w', hrun, h2, h3, _, h5⟩ := run_append_own_at (P := P) w base t o.type e i z size bytes ht hi hz hsize hby hzs hsz v n xs hown ad m c news hl hnews h1 h63 hbytes hbase
  unfold Oper.wp
  simp [execOp, ho, resolve, invoke, builtin, hs, hx, hrun, Result.andThen]
  exact h v' w' h2 h3 h5

/-- All blocks that are of another type than r are as they were. -/
def Kp (r : TypeId) (w w' : World) : Prop := ∀ j t cs, t ≠ r → Blk w j t cs → Blk w' j t cs
theorem Kp.refl (r : TypeId) (w : World) : Kp r w w := fun _ _ _ _ h => h
theorem Kp.trans {r : TypeId} {a b c : World} (h : Kp r a b) (k : Kp r b c) : Kp r a c := fun j t cs hn hb => k j t cs hn (h j t cs hn hb)
theorem Kp.of_below {r : TypeId} {w w' : World} (h : Below w.heap.size w w') : Kp r w w' := fun _ _ _ _ hb => hb.below h
theorem Kp.of_but {r : TypeId} {w w' : World} {c : Nat} {x : Array Value} (h : But (fun j => j = c) w w') (hc : Blk w c r x) : Kp r w w' := fun j t cs hn hb =>
  hb.of_block (h.block j hb.lt (blk_type hb hc hn))
theorem Kp.of_grown {r : TypeId} {base size n : Nat} {v : Value} {xs : List Value} {w w' : World} (h : w.grownBy w' v.ownBlock) (ho : w.ownsRow base r size v n xs) : Kp r w w' := fun j t cs hn hb =>
  hb.of_block (h.block j hb.lt (fun e => own_type ho hb hn j e.symm rfl))
theorem Kp.of_set {r : TypeId} {w : World} {g : Nat} {x : Array Value} (i : Nat) (u : Value) (hg : Blk w g r x) : Kp r w (w.setCell ⟨g, i, none⟩ u) := fun j t cs hn hb =>
  hb.of_block (set_oth _ _ _ _ _ (blk_type hb hg hn))
theorem Kp.row {r : TypeId} {w w' : World} {base e size n : Nat} {v : Value} {zs : List Value} (h : Kp r w w') (hn : e ≠ r) (ho : w.ownsRow base e size v n zs) : w'.ownsRow base e size v n zs := by
  refine ⟨ho.1, ?_⟩
  rcases ho.2 with h2 | ⟨g', cap, cur, h1, h2, h3, h4⟩
  · exact .inl h2
  · exact .inr ⟨g', cap, cur, h1, h2, h g' e cur hn h3, h4⟩
end Go.Proofs.Ytklmgdiaianlbaa.ib

/- Snapshots of a table in a row that the call owns. -/
namespace Go.Proofs.Ytklmgdiaianlbaa.mt
open Go Go.RowKit Go.Proofs.Ytklmgdiaianlbaa.ib Go.Proofs.Ytklmgdiaianlbaa.wi
set_option maxRecDepth 100000

theorem infoSp : (Try.prog.info? 48).map (fun i => (i.zero, i.size, i.bytes)) = some (some (.agg #[.int .u64 0, .int .u64 0, .slice none 0 0, .bool false]), 4, 48) := by kernel_rfl
abbrev OSn := Sp × Value
def spV (x : OSn) : List Value := [.int .u64 (x.1.g.1 : Int), .int .u64 (x.1.g.2 : Int), x.2, .bool x.1.hid]
def spRow : List OSn → List Value
  | [] => []
  | x :: r => spV x ++ spRow r
theorem spRow_append : ∀ (l r : List OSn), spRow (l ++ r) = spRow l ++ spRow r
  | [], _ => rfl
  | x :: l, r => by
    show spV x ++ spRow (l ++ r) = spV x ++ spRow l ++ spRow r
    rw [spRow_append l r, List.append_assoc]
theorem spRow_one (x : OSn) : spRow [x] = spV x := by simp [spRow]
theorem spRow_len : ∀ l : List OSn, (spRow l).length = l.length * 4
  | [] => rfl
  | x :: l => by simp [spRow, spV, spRow_len l]; omega
theorem spRow_get : ∀ (l : List OSn) (i : Nat) (h : i < l.length) (j : Nat), j < 4 → (spRow l)[i * 4 + j]? = (spV l[i])[j]?
  | x :: l, 0, _, j, hj => by
    show (spV x ++ spRow l)[0 * 4 + j]? = _
    rw [List.getElem?_append_left (by simp [spV]; omega), Nat.zero_mul, Nat.zero_add]
    rfl
  | x :: l, i + 1, h, j, hj => by
    have := spRow_get l i (by simpa using h) j hj
    show (spV x ++ spRow l)[(i + 1) * 4 + j]? = _
    rw [List.getElem?_append_right (by simp [spV]; omega)]
    rw [show (i + 1) * 4 + j - (spV x).length = i * 4 + j from by simp [spV]; omega]
    exact this
theorem spV_ones {x : OSn} {w : World} {B : Nat} {zs : List Int} (h : OInts w B x.2 zs) : ∀ u ∈ spV x, u.oneCell' = true := by
  intro u hu
  obtain ⟨A, c, hv⟩ := own_form h
  simp only [spV, List.mem_cons, List.not_mem_nil, or_false] at hu
  rcases hu with rfl | rfl | rfl | rfl
  · rfl
  · rfl
  · rw [hv]; rfl
  · rfl
theorem news4 {w : World} {b : Nat} {t : TypeId} {x y z u : Value} (h : Blk w b t #[x, y, z, u]) : ∀ (j : Nat) (v : Value), ([x, y, z, u] : List Value)[j]? = some v → w.cell? ((⟨b, 0, none⟩ : Addr).add j) = some v := by
  intro j v hj
  rw [addr_add, Nat.zero_add, h.cell j]
  simpa using hj
theorem oi_nil (w : World) (B : Nat) : OInts w B (.slice none 0 0) [] := World.ownsRow_nil _ _ _ _

/-- A row of snapshots that the call owns, with their places. -/
def OSns (w : World) (B : Nat) (v : Value) (xs : List OSn) : Prop := w.ownsRow B 48 4 v xs.length (spRow xs) ∧ ∀ x ∈ xs, OInts w B x.2 x.1.img
theorem OSns.nil (w : World) (B : Nat) : OSns w B (.slice none 0 0) [] := ⟨World.ownsRow_nil _ _ _ _, fun x hx => absurd hx (by simp)⟩
section
variable {w w' : World} {B : Nat} {v : Value} {xs : List OSn} {r : TypeId}
theorem OSns.kp (h : OSns w B v xs) (hk : Kp r w w') (h1 : 48 ≠ r) (h2 : 3 ≠ r) : OSns w' B v xs :=
  ⟨hk.row h1 h.1, fun x hx => hk.row h2 (h.2 x hx)⟩
theorem OSns.below (h : OSns w B v xs) (hb : Below w.heap.size w w') : OSns w' B v xs := h.kp (r := 1000000) (Kp.of_below hb) (by decide) (by decide)
theorem oi_kp {zs : List Int} (h : OInts w B v zs) (hk : Kp r w w') (h1 : 3 ≠ r) : OInts w' B v zs := hk.row h1 h
theorem oi_below {zs : List Int} (h : OInts w B v zs) (hb : Below w.heap.size w w') : OInts w' B v zs := oi_kp (r := 1000000) h (Kp.of_below hb) (by decide)
theorem oi_sl {zs : List Int} (h : OInts w B v zs) (hz : ∀ z ∈ zs, i64B z) : ∃ A c, v = .slice A zs.length c ∧ SlAt w A zs c := by
  rcases h.2 with ⟨rfl, h0⟩ | ⟨g, cap, cur, rfl, hg, hh, hcc, hm, hcs, hcur⟩
  · obtain rfl : zs = [] := List.length_eq_zero_iff.1 h0
    exact ⟨none, 0, rfl, SlAt.none _⟩
  · obtain ⟨A, cc, hv, hi, hb⟩ := OInts.view h hz
    simp only [Value.slice.injEq] at hv
    obtain ⟨rfl, _, rfl⟩ := hv
    exact ⟨_, _, rfl, hi, by omega, fun h => by cases h⟩
theorem OSns.view (h : OSns w B v xs) (hz : ∀ x ∈ xs, ∀ z ∈ x.1.img, i64B z) (hg : ∀ x ∈ xs, gdB x.1.g) :
    ∃ A c, v = .slice A (xs.map (·.1)).length c ∧ SnsAt w A (xs.map (·.1)) ∧ ((xs.map (·.1)).length ≤ c ∧ (A = none → (xs.map (·.1)).length = 0 ∧ c = 0)) := by
  obtain ⟨h1, h2⟩ := h
  rcases h1.2 with ⟨rfl, h0⟩ | ⟨g, cap, cur, rfl, hgB, hh, hcc, hm, hcs, hcur⟩
  · obtain rfl : xs = [] := List.length_eq_zero_iff.1 h0
    exact ⟨none, 0, rfl, SnsAt.nil _ _, Nat.le_refl _, fun _ => ⟨rfl, rfl⟩⟩
  · refine ⟨some ⟨g, 0, none⟩, cap, by simp, fun i hi => ?_, by simpa using hcc, fun h => by cases h⟩
    have hix : i < xs.length := by simpa using hi
    have hgl : g < w.heap.size := (Array.getElem?_eq_some_iff.1 hh).1
    have key : ∀ (j : Nat) (u : Value), (spRow xs)[j]? = some u → w.cell? ⟨g, j, none⟩ = some u := by
      intro j u hu
      rw [cell_of_row w g j cur 48 (0, 0) hh]
      rw [← hcur, List.getElem?_take] at hu
      split at hu
      · simpa using hu
      · cases hu
    obtain ⟨A', c', hv, hsl⟩ := oi_sl (h2 _ (List.getElem_mem hix)) (hz _ (List.getElem_mem hix))
    have e : (xs.map (·.1))[i] = xs[i].1 := by simp
    rw [e]
    refine ⟨g, 0, A', c', rfl, hgl, ?_, ?_, ?_, ?_, hsl, hg _ (List.getElem_mem hix)⟩
    · rw [Nat.zero_add]
      have := key (i * 4 + 0) _ (spRow_get xs i hix 0 (by omega))
      exact this
    · rw [Nat.zero_add]
      exact key (i * 4 + 1) _ (spRow_get xs i hix 1 (by omega))
    · rw [Nat.zero_add]
      have := key (i * 4 + 2) _ (spRow_get xs i hix 2 (by omega))
      rw [← hv]
      exact this
    · rw [Nat.zero_add]
      exact key (i * 4 + 3) _ (spRow_get xs i hix 3 (by omega))
end
end Go.Proofs.Ytklmgdiaianlbaa.mt

/- The program's reader of a table: a number that is not too great, places, a guid. -/
namespace Go.Proofs.Ytklmgdiaianlbaa.mt.pg
open Go Go.RowKit Go.Proofs.Ytklmgdiaianlbaa.ib Go.Proofs.Ytklmgdiaianlbaa.wi Go.Proofs.Ytklmgdiaianlbaa.im Go.Proofs.Ytklmgdiaianlbaa.mt
set_option maxRecDepth 100000

/-- What the reader in block c has left. -/
def PS (w : World) (c : Nat) (s : St) : Prop := match s with
  | none => ∃ l, RdAt c l true w
  | some l => RdAt c l false w
theorem PS.blk {w : World} {c : Nat} {s : St} (h : PS w c s) : ∃ x, Blk w c 101 x := by
  unfold PS at h
  split at h
  · obtain ⟨l, g, o, cap, h1, _⟩ := h
    exact ⟨_, h1⟩
  · obtain ⟨g, o, cap, h1, _⟩ := h
    exact ⟨_, h1⟩
theorem PS.lt {w : World} {c : Nat} {s : St} (h : PS w c s) : c < w.heap.size := by
  obtain ⟨x, hx⟩ := h.blk
  exact hx.lt
theorem PS.below {w w' : World} {c : Nat} {s : St} (h : PS w c s) (hb : Below w.heap.size w w') : PS w' c s := by
  unfold PS at h ⊢
  split at h
  · obtain ⟨l, h⟩ := h
    exact ⟨l, h.below hb⟩
  · exact h.below hb
theorem rd_set {w : World} {c x : Nat} {l : List UInt8} {bad : Bool} {t : TypeId} {cs : Array Value} (h : RdAt c l bad w) (hx : Blk w x t cs) (h1 : t ≠ 101) (h2 : t ≠ 5) (k : Nat) (v : Value) : RdAt c l bad (w.setCell ⟨x, k, none⟩ v) := by
  obtain ⟨g, o, cap, hb, hr, h3, h4⟩ := h
  have hc : c ≠ x := fun e => by
    subst e
    unfold Blk at hx
    rw [hb] at hx
    simp only [Option.some.injEq, Obj.cells.injEq] at hx
    exact h1 hx.2.1.symm
  have hg : g ≠ x := fun e => by
    subst e
    obtain ⟨cs', fr, hg, _⟩ := hr
    unfold Blk at hx
    rw [hg] at hx
    simp only [Option.some.injEq, Obj.cells.injEq] at hx
    exact h2 hx.2.1.symm
  exact ⟨g, o, cap, (Below.heap_setCell _ _ _ _ hc).trans hb, hr.keep (Below.heap_setCell _ _ _ _ hg), h3, h4⟩
theorem PS.set {w : World} {c x : Nat} {s : St} {t : TypeId} {cs : Array Value} (h : PS w c s) (hx : Blk w x t cs) (h1 : t ≠ 101) (h2 : t ≠ 5) (k : Nat) (v : Value) : PS (w.setCell ⟨x, k, none⟩ v) c s := by
  unfold PS at h ⊢
  split at h
  · obtain ⟨l, h⟩ := h
    exact ⟨l, rd_set h hx h1 h2 k v⟩
  · exact rd_set h hx h1 h2 k v

/-- Of what was there block c alone has turned; the reader has that left. -/
structure Rd (w : World) (c : Nat) (s : St) (w' : World) : Prop where
  but : But (Tc c) w w'
  ps : PS w' c s
theorem Rd.kp {w w' : World} {c : Nat} {s s' : St} (h : PS w c s) (hr : Rd w c s' w') : Kp 101 w w' := by
  obtain ⟨x, hx⟩ := h.blk
  exact Kp.of_but hr.but hx
theorem Rd.trans {a w w' : World} {c : Nat} {s s' : St} (h : Rd a c s w) (k : Rd w c s' w') : Rd a c s' w' := ⟨h.but.trans k.but fun i hi => .inl hi, k.ps⟩
theorem Rd.new {a w w' : World} {c : Nat} {s : St} (h : Rd a c s w) (hb : Below w.heap.size w w') : Rd a c s w' := ⟨h.but.trans (But.of_below (S := Tc c) hb) fun i hi => .inl hi, h.ps.below hb⟩
theorem Rd.set {a w : World} {c x : Nat} {s : St} {t : TypeId} {cs : Array Value} (h : Rd a c s w) (hx : Blk w x t cs) (hn : a.heap.size ≤ x) (h1 : t ≠ 101) (h2 : t ≠ 5) (k : Nat) (v : Value) : Rd a c s (w.setCell ⟨x, k, none⟩ v) :=
  ⟨h.but.setCell _ _ (.inr hn), h.ps.set hx h1 h2 k v⟩
theorem Rd.blk {w w' : World} {c x : Nat} {s : St} {t : TypeId} {cs : Array Value} (h : Rd w c s w') (hx : Blk w x t cs) (hp : ∃ y, Blk w c 101 y) (hn : t ≠ 101) : Blk w' x t cs := by
  obtain ⟨y, hy⟩ := hp
  exact hx.of_block (h.but.block _ hx.lt (blk_type hx hy hn))

def endN (c : Nat) (s : St) (w : World) (e : Ending) (w' : World) : Prop := e = .returned (.int .u64 ((numS s).1 : Int)) ∧ Rd w c (numS s).2 w'
theorem pnum_any {w : World} {c : Nat} {s : St} (h : PS w c s) : Calls Try.prog 80 #[.pointer (some ⟨c, 0, none⟩)] w (endN c s w) := by
  unfold PS at h
  split at h
  · obtain ⟨l, h1⟩ := h
    refine (num_bad1 c l w h1).mono ?_
    rintro e w' ⟨rfl, rfl⟩
    exact ⟨rfl, But.refl _ _, l, h1⟩
  · rename_i l
    refine (num_good1 c l w h).mono ?_
    rintro e w' ⟨hg, ⟨n, r, hn, rfl, hr⟩ | ⟨hn, rfl, m, hm⟩⟩
    · have hq : numS (some l) = (n, some r) := by unfold numS; simp only [hn]
      unfold endN
      rw [hq]
      exact ⟨rfl, but_grown hg, hr⟩
    · have hq : numS (some l) = (0, none) := by unfold numS; simp only [hn]
      unfold endN
      rw [hq]
      exact ⟨rfl, but_grown hg, m, hm⟩

def endU (k c : Nat) (s : St) (w : World) (e : Ending) (w' : World) : Prop := e = .returned (.int .i64 ((upS k s).1 : Int)) ∧ Rd w c (upS k s).2 w'
set_option maxHeartbeats 1600000 in
theorem upTo_any {w : World} {c : Nat} {s : St} (h : PS w c s) (k : Nat) (K : Int) (hK : K = (k : Int)) (hk : k ≤ 2000) : Calls Try.prog 73 #[.pointer (some ⟨c, 0, none⟩), .int .i64 K] w (endU k c s w) := by
  subst hK
  have HN := Lib.hid (pnum_any h)
  have hm : min ((numS s).1 : Int) ((k : Int) + 1) = ((upS k s).1 : Int) := by
    unfold upS
    dsimp only
    omega
  have hm2 : (if ((k : Int) + 1 : Int) < ((numS s).1 : Int) then ((k : Int) + 1 : Int) else ((numS s).1 : Int)) = ((upS k s).1 : Int) := by
    unfold upS
    dsimp only
    split <;> omega
  have hsm := upS_le k s
  obtain ⟨n, hn⟩ : ∃ n, (numS s).1 = n := ⟨_, rfl⟩
  have hl := numS_lt s
  rw [hn] at hm hm2 hl
  have HNN := Lib.hid hn
  obtain ⟨r, hr⟩ : ∃ r, (upS k s).1 = r := ⟨_, rfl⟩
  rw [hr] at hm hm2 hsm
  have HRR := Lib.hid hr
  clear hn hr h
  go_enter Try.func73, Try.ntmps73
  go_wp2_with fail
  refine HN.out.mono ?_
  rintro e W ⟨rfl, hq⟩
  rw [HNN.out]
  have HQ := Lib.hid hq
  clear hq
  go_wp2_with fail
  go_ret
  exact ⟨by rw [HRR.out]; rfl, HQ.out⟩
end Go.Proofs.Ytklmgdiaianlbaa.mt.pg

/- Places that the program reads one by one through its closures; a guid that it reads. -/
namespace Go.Proofs.Ytklmgdiaianlbaa.mt.pg
open Go Go.RowKit Go.Proofs.Ytklmgdiaianlbaa.ib Go.Proofs.Ytklmgdiaianlbaa.wi Go.Proofs.Ytklmgdiaianlbaa.im Go.Proofs.Ytklmgdiaianlbaa.mt
set_option maxRecDepth 100000

abbrev ptr (b : Nat) : Value := .pointer (some ⟨b, 0, none⟩)
theorem one_any {w : World} {rb c : Nat} {s : St} (h : PS w c s) (hr : Blk w rb 70 #[ptr c]) : Calls Try.prog 76 #[ptr rb] w (endU 1024 c s w) := by
  have HU := Lib.hid (upTo_any h 1024 1024 rfl (by omega))
  have c0 := hr.cell 0
  simp only [List.getElem?_toArray, List.getElem?_cons_zero] at c0
  have hlt := hr.lt
  clear h hr
  go_enter Try.func76, Try.ntmps76
  go_wp2_with fail
  refine HU.out.mono ?_
  rintro e W ⟨rfl, hq⟩
  have HQ := Lib.hid hq
  clear hq c0
  go_wp2_with fail
  go_ret
  exact ⟨rfl, HQ.out⟩

theorem fill_set {l : List Int} {n k : Nat} (hl : l.length = k) (hk : k < n) (z : Int) : (l ++ List.replicate (n - k) 0).set k z = (l ++ [z]) ++ List.replicate (n - (k + 1)) 0 := by
  rw [List.set_append_right _ _ (by omega), hl, Nat.sub_self, show n - k = (n - (k + 1)) + 1 by omega, List.replicate_succ, List.set_cons_zero, List.append_assoc]
  rfl
def endPl (n c : Nat) (s : St) (w : World) (e : Ending) (w' : World) : Prop := ∃ g, e = .returned (.slice (some ⟨g, 0, none⟩) n n) ∧ w.heap.size ≤ g ∧ Blk w' g 3 (ncells (plS n s).1) ∧ Rd w c (plS n s).2 w'
def PlRel (n c g : Nat) (s : St) (w : World) (i : Value) (wr : World) : Prop :=
  ∃ k : Nat, k ≤ n ∧ i = .int .i64 (k : Int) ∧ Blk wr g 3 (ncells ((plS k s).1 ++ List.replicate (n - k) 0)) ∧ Rd w c (plS k s).2 wr
set_option maxHeartbeats 3200000 in
theorem list_any {w : World} {rb c : Nat} {s : St} (n : Nat) (hn : n ≤ 1000) (h : PS w c s) (hr : Blk w rb 70 #[ptr c]) :
    Calls Try.prog 75 #[.int .i64 (n : Int), .func (.func 76) #[] #[ptr rb]] w (endPl n c s w) := by
  have hmk : ∀ W, (Instr.makeSlice 22 (.int .i64 (n : Int)) (.int .i64 (n : Int))).run Try.prog W = .ok (.slice (some ⟨W.heap.size, 0, none⟩) n n) (W.alloc (.cells (ncells (List.replicate n 0)) 3)) := fun W => by
    have := make_nums (n : Int) (by omega) (by omega) W
    rwa [Int.toNat_natCast] at this
  have HP := Lib.hid h
  have HR := Lib.hid hr
  clear h hr
  go_enter Try.func75, Try.ntmps75
  go_wp2_with fail
  have hb := (Below.refl w.heap.size w).alloc (Nat.le_refl _) (.cells (ncells (List.replicate n 0)) 3)
  have HG := Lib.hid (Blk.new w 3 (ncells (List.replicate n 0)))
  have HRD : Hid (Rd w c s (w.alloc (.cells (ncells (List.replicate n 0)) 3))) := ⟨But.of_below hb, HP.out.below hb⟩
  obtain ⟨W0, hW0⟩ : ∃ z, w.alloc (.cells (ncells (List.replicate n 0)) 3) = z := ⟨_, rfl⟩
  rw [hW0] at HG HRD
  try rw [hW0]
  clear hb hW0 hmk
  obtain ⟨g, hg⟩ : ∃ g, w.heap.size = g := ⟨_, rfl⟩
  have HGE := Lib.hid (Nat.le_of_eq hg)
  rw [hg] at HG
  try rw [hg]
  clear hg
  go_loopw [6, 11] (fun _ i wr => PlRel n c g s w i wr) (fun _ i _ => n - (intOf i).toNat)
  case atStart => exact ⟨0, Nat.zero_le _, rfl, by simpa [plS] using HG.out, HRD.out⟩
  case round =>
    obtain ⟨k, hk, rfl, hG, hR⟩ := hrel
    have HGK := Lib.hid hG
    have HRK := Lib.hid hR
    clear hG hR
    by_cases hlt : k < n
    · have hki : (k : Int) < (n : Int) := by omega
      have HRB := Lib.hid (HRK.out.blk HR.out HP.out.blk (by decide))
      go_wp2_with fail
      refine (one_any HRK.out.ps HRB.out).mono ?_
      rintro e W ⟨rfl, hq⟩
      have hln := plS_len k s
      have HSN := Lib.hid (plS_snoc k s)
      have hGW := hq.blk HGK.out HRK.out.ps.blk (by decide)
      have HGW := Lib.hid hGW
      have HQ := Lib.hid (HRK.out.trans hq)
      have f0 := hGW.frozen k
      have hlg := hGW.lt
      obtain ⟨u, hu⟩ : ∃ u, W.cell? ⟨g, k, none⟩ = some u := by
        rw [hGW.cell k, ncells_at _ k (by rw [List.length_append, hln, List.length_replicate]; omega)]
        exact ⟨_, rfl⟩
      have HFS := Lib.hid (fun z => fill_set (n := n) hln hlt z)
      have HLN := Lib.hid hln
      obtain ⟨z, hz⟩ : ∃ z : Nat, (upS 1024 (plS k s).2).1 = z := ⟨_, rfl⟩
      rw [hz]
      have HZ := Lib.hid hz
      clear hq hGW hln hz HGK HRK HRB
      go_wp2_with fail
      go_roundw
      case rel =>
        have hset := HGW.out.set_ k (.int .i64 (z : Int))
        rw [ncells_set, HFS.out] at hset
        have hRd := HQ.out.set HGW.out HGE.out (by decide) (by decide) k (.int .i64 (z : Int))
        refine ⟨k + 1, by omega, by go_num, ?_, ?_⟩
        · rw [HSN.out, HZ.out]
          exact hset
        · rw [HSN.out]
          exact hRd
      case measure => simp [intOf]; omega
    · have hki : ¬ (k : Int) < (n : Int) := by omega
      obtain rfl : k = n := by omega
      have hG := HGK.out
      rw [Nat.sub_self, List.replicate_zero, List.append_nil] at hG
      have HG2 := Lib.hid hG
      clear hG
      go_wp2_with fail
      go_ret
      exact ⟨g, rfl, HGE.out, HG2.out, HRK.out⟩

set_option maxHeartbeats 1600000 in
theorem places_any {w : World} {kb rb c b : Nat} {s : St} (hb : b ≤ 100) (h : PS w c s) (hk : Blk w kb 3 #[.int .i64 (b : Int)]) (hr : Blk w rb 70 #[ptr c]) :
    Calls Try.prog 74 #[ptr kb, ptr rb] w (endPl b c s w) := by
  have HL := Lib.hid (list_any b (by omega) h hr)
  have c0 := hk.cell 0
  simp only [List.getElem?_toArray, List.getElem?_cons_zero] at c0
  have hlt := hk.lt
  clear h hr hk
  go_enter Try.func74, Try.ntmps74
  go_wp2_with fail
  refine HL.out.mono ?_
  rintro e W ⟨g, rfl, hq⟩
  have HQ := Lib.hid hq
  clear hq c0
  go_wp2_with fail
  go_ret
  exact ⟨g, rfl, HQ.out⟩

def endG (c : Nat) (s : St) (w : World) (e : Ending) (w' : World) : Prop := e = .returned (gv (gdS s).1) ∧ Rd w c (gdS s).2 w'
set_option maxHeartbeats 3200000 in
theorem guid_any {w : World} {c : Nat} {s : St} (h : PS w c s) : Calls Try.prog 79 #[ptr c] w (endG c s w) := by
  have hb0 := (Below.refl w.heap.size w).alloc (Nat.le_refl _) (.cells #[.int .u64 0, .int .u64 0] 26)
  have HR0 : Hid (Rd w c s (w.alloc (.cells #[.int .u64 0, .int .u64 0] 26))) := ⟨But.of_below hb0, h.below hb0⟩
  have HA0 := Lib.hid (Blk.new w 26 #[.int .u64 0, .int .u64 0])
  obtain ⟨w0, hw0⟩ : ∃ x, w.alloc (.cells #[.int .u64 0, .int .u64 0] 26) = x := ⟨_, rfl⟩
  rw [hw0] at HR0 HA0
  clear h hb0
  go_enter Try.func79, Try.ntmps79
  go_wp2_with fail
  try rw [hw0]
  clear hw0
  refine (pnum_any HR0.out.ps).mono ?_
  rintro e W1 ⟨rfl, hq1⟩
  have HA1 := Lib.hid (hq1.blk HA0.out HR0.out.ps.blk (by decide))
  have HR1 := Lib.hid (HR0.out.trans hq1)
  clear hq1 HA0 HR0
  obtain ⟨x, hx⟩ : ∃ x : Nat, (numS s).1 = x := ⟨_, rfl⟩
  rw [hx]
  have HX := Lib.hid hx
  clear hx
  go_wp2_with fail
  refine (pnum_any HR1.out.ps).mono ?_
  rintro e W2 ⟨rfl, hq2⟩
  have HA2 := Lib.hid (hq2.blk HA1.out HR1.out.ps.blk (by decide))
  have HR2 := Lib.hid (HR1.out.trans hq2)
  obtain ⟨y, hy⟩ : ∃ y : Nat, (numS (numS s).2).1 = y := ⟨_, rfl⟩
  rw [hy]
  have HY := Lib.hid hy
  have q0 := HA2.out.cell 0
  have q1 := HA2.out.cell 1
  simp only [List.getElem?_toArray, List.getElem?_cons_zero, List.getElem?_cons_succ] at q0 q1
  have f0 := HA2.out.frozen 0
  have f1 := HA2.out.frozen 1
  have hlA := HA2.out.lt
  clear hy hq2 HA1 HR1
  go_wp2_with fail
  have hA3 := HA2.out.set_ 0 (.int .u64 (x : Int))
  have HA3 := Lib.hid (hA3.set_ 1 (.int .u64 (y : Int)))
  have q0 := HA3.out.cell 0
  have q1 := HA3.out.cell 1
  simp at q0 q1
  have HG : Hid (gv (gdS s).1 = .agg #[.int .u64 (x : Int), .int .u64 (y : Int)]) := by unfold Hid gv gdS; dsimp only; rw [HX.out, HY.out]
  have HRR := Lib.hid ((HR2.out.set HA2.out (Nat.le_refl _) (by decide) (by decide) 0 (.int .u64 (x : Int))).set hA3 (Nat.le_refl _) (by decide) (by decide) 1 (.int .u64 (y : Int)))
  refine bodyPost_ret (v := .agg #[.int .u64 (x : Int), .int .u64 (y : Int)]) (by simp [results, Try.results79, go_sem, q0, q1]) rfl ?_
  exact ⟨by rw [HG.out], HRR.out⟩
end Go.Proofs.Ytklmgdiaianlbaa.mt.pg


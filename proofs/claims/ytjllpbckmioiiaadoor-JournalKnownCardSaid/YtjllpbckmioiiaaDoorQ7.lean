/- JPure, DkBack. -/
import Derived.Test.YtjllpbckmioiiaaDoorQ3
import Derived.Test.YtjllpbckmioiiaaDoorQ4
import Derived.Test.YtjllpbckmioiiaaDoorQ5
import Derived.Test.YtjllpbckmioiiaaDoorQ6
import Derived.RangeFuncNested
import Derived.RangeFuncBound
import Derived.RangeFuncCalls
import Derived.RangeFuncLeaves
import Derived.Shelf.Abstract
import Derived.Shelf.RegionOpen
import Derived.WalkKit
import Derived.OwnWalkIn
import Derived.TacticsInMore
import Derived.LoopNIn
import Derived.LoopIn
/- What a journal is, as plain data: its head, its record, what each call makes of a disk. -/
namespace Go.Proofs.YtjllpbckmioiiaaDoor.jr
open Go.Proofs.YtjllpbckmioiiaaDoor.dk Go.Proofs.YtjllpbckmioiiaaDoor.wi
set_option maxRecDepth 100000

abbrev Wr := Int × Bt

inductive Step where
  | w (k : Int) (v : Bt)
  | f

def stepD (d : DD) : Step → Int × DD
  | .w k v => d.write k v
  | .f => d.flush

/-- One behind the other, up to the first error. -/
def runS : List Step → DD → Int × DD
  | [], d => (0, d)
  | s :: r, d => if (stepD d s).1 = 0 then runS r (stepD d s).2 else stepD d s

def wsOf (l : List Wr) : List Step := l.map fun x => .w x.1 x.2
def stepsOf : List (List Wr) → List Step
  | [] => []
  | l :: r => wsOf l ++ .f :: stepsOf r

/-- What reads at a place. -/
def rd (s : Sects) (k : Int) : Bt := (dk.look s k).getD zz

/-- The head's sector. -/
def hdB (a c : Nat) : Bt := numB (a + 1) ++ numB c ++ List.replicate (32 - (numB (a + 1)).length - (numB c).length) 0
def pairs : List (Nat × Nat) := (List.range 2).flatMap fun a => (List.range 73).map fun c => (a, c)
def hdOf (s : Bt) : Option (Nat × Nat) := pairs.find? fun p => hdB p.1 p.2 == s

/-- A record's text, and what is read of one. -/
def wB (x : Wr) : Bt := numB x.1.toNat ++ textB x.2
def recT (l : List Wr) : Bt := numB l.length ++ (l.map wB).flatten
def rdW : Nat → Bt → Option (List Wr × Bt)
  | 0, t => some ([], t)
  | n + 1, t => match rdNum t with
    | none => none
    | some (a, t1) => match rdText t1 with
      | none => none
      | some (v, t2) => match rdW n t2 with
        | none => none
        | some (l, r) => some ((((min a 1024 : Nat) : Int), v) :: l, r)
def takeB (t : Bt) : Option (List Wr) := match rdNum t with
  | none => none
  | some (n, r) => if n < 1 ∨ 60 < n then none else match rdW n r with
    | some (l, []) => some l
    | _ => none

open Classical in
noncomputable def unB (ps : List Bt) : Option Bt := if h : ∃ t, IsText ps t then some h.choose else none

def recSecs (s : Sects) (a c : Nat) : List Bt := (List.range c).map fun i => rd s ((1 + a * 72 + i : Nat) : Int)
noncomputable def recOf (s : Sects) (a c : Nat) : Option (List Wr) := (unB (recSecs s a c)).bind takeB

def okW (n : Nat) (x : Wr) : Bool := decide (145 ≤ x.1) && decide (x.1 < (n : Int)) && decide (x.2.length = 32)
/-- The places, each once. -/
def found (acc : List Int) (l : List Wr) : List Int := l.foldl (fun acc x => addTo acc x.1) acc
def poss (n : Nat) (l : List Wr) : Bool := l.all (okW n) && decide ((found [] l).length = l.length)

def layAt : Nat → List Bt → List Wr
  | _, [] => []
  | o, s :: r => ((o : Int), s) :: layAt (o + 1) r
def lay (a : Nat) (ss : List Bt) : List Wr := layAt (1 + a * 72) ss
def batches (a : Nat) (l : List Wr) : List (List Wr) := [lay (1 - a) (secs (recT l)), [(0, hdB (1 - a) (secs (recT l)).length)], l]
def placesOf (bs : List (List Wr)) : List Int := bs.flatten.map (·.1)

def jformat (d : DD) : Int × DD := if d.on = false then (6, d) else if d.n ≤ 145 then (2, d) else runS (stepsOf [[(0, hdB 0 0)]]) d
def jcommit (d : DD) (l : List Wr) : Int × DD :=
  if d.on = false then (6, d)
  else if l.length = 0 then (0, d)
  else if 60 < l.length then (3, d)
  else if poss d.n l = false then (2, d)
  else match hdOf (rd d.now 0) with
    | none => (8, d)
    | some (a, _) =>
      if 8192 < (recT l).length ∨ 72 < (secs (recT l)).length then (3, d)
      else if d.fits (placesOf (batches a l)) = false then (7, d)
      else runS (stepsOf (batches a l)) d
noncomputable def jrecover (d : DD) : Int × DD :=
  if d.on = false then (6, d)
  else match hdOf (rd d.now 0) with
    | none => (8, d)
    | some (a, c) =>
      if c = 0 then (0, d)
      else match recOf d.now a c with
        | none => (8, d)
        | some l => if poss d.n l = false then (8, d) else runS (stepsOf [l]) d

/-! ### The head -/
theorem hd_all : pairs.all (fun p => decide ((hdB p.1 p.2).length = 32) && decide (hdOf (hdB p.1 p.2) = some p) && decide (hdB p.1 p.2 ≠ zz)) = true := by decide +kernel
theorem mem_pairs {a c : Nat} (ha : a < 2) (hc : c ≤ 72) : (a, c) ∈ pairs := by
  unfold pairs
  rw [List.mem_flatMap]
  exact ⟨a, by simpa using ha, List.mem_map.2 ⟨c, by simp; omega, rfl⟩⟩
theorem of_pairs {p : Nat × Nat} (h : p ∈ pairs) : p.1 < 2 ∧ p.2 ≤ 72 := by
  unfold pairs at h
  rw [List.mem_flatMap] at h
  obtain ⟨a, ha, h⟩ := h
  obtain ⟨c, hc, rfl⟩ := List.mem_map.1 h
  simp at ha hc
  exact ⟨ha, by omega⟩
theorem hd_facts {a c : Nat} (ha : a < 2) (hc : c ≤ 72) : (hdB a c).length = 32 ∧ hdOf (hdB a c) = some (a, c) ∧ hdB a c ≠ zz := by
  have := List.all_eq_true.1 hd_all (a, c) (mem_pairs ha hc)
  simp only [Bool.and_eq_true, decide_eq_true_eq] at this
  exact ⟨this.1.1, this.1.2, this.2⟩
theorem hdOf_some {s : Bt} {a c : Nat} (h : hdOf s = some (a, c)) : a < 2 ∧ c ≤ 72 ∧ s = hdB a c := by
  have h1 := List.find?_some h
  have h2 := of_pairs (List.mem_of_find?_eq_some h)
  exact ⟨h2.1, h2.2, (by simpa using h1 : hdB a c = s).symm⟩

/-! ### The record -/
theorem rdW_put : ∀ (l : List Wr) (r : Bt), (∀ x ∈ l, 0 ≤ x.1 ∧ x.1 ≤ 1024 ∧ x.2.length = 32) → rdW l.length ((l.map wB).flatten ++ r) = some (l, r)
  | [], r, _ => rfl
  | x :: l, r, h => by
    obtain ⟨h0, h1, h2⟩ := h x (by simp)
    have ih := rdW_put l r (fun y hy => h y (by simp [hy]))
    simp only [List.length_cons, List.map_cons, List.flatten_cons, rdW, wB, List.append_assoc]
    rw [rdNum_put _ (by omega)]
    dsimp only
    rw [rdText_put _ (by omega)]
    dsimp only
    rw [ih]
    have e : ((min x.1.toNat 1024 : Nat) : Int) = x.1 := by omega
    simp only [e]

theorem takeB_put (l : List Wr) (h0 : 1 ≤ l.length) (h1 : l.length ≤ 60) (h : ∀ x ∈ l, 0 ≤ x.1 ∧ x.1 ≤ 1024 ∧ x.2.length = 32) : takeB (recT l) = some l := by
  unfold takeB recT
  rw [rdNum_put _ (by omega)]
  dsimp only
  rw [if_neg (by omega)]
  have := rdW_put l [] h
  rw [List.append_nil] at this
  rw [this]

theorem unB_secs (t : Bt) (h : t.length ≤ 8192) : unB (secs t) = some t := by
  unfold unB
  have hx : ∃ u, IsText (secs t) u := ⟨t, h, rfl⟩
  rw [dif_pos hx]
  exact congrArg some (isText_one _ _ _ hx.choose_spec ⟨h, rfl⟩)

theorem numB_len (n : Nat) : (numB n).length ≤ 9 := by
  have := digs_len n
  simp [numB]
  omega

theorem wB_len (x : Wr) (h : x.2.length = 32) : (wB x).length ≤ 50 := by
  have h1 := numB_len x.1.toNat
  have h2 := numB_len x.2.length
  simp only [wB, textB, List.length_append]
  omega

theorem flat_len (l : List Wr) (h : ∀ x ∈ l, x.2.length = 32) : ((l.map wB).flatten).length ≤ 50 * l.length := by
  induction l with
  | nil => simp
  | cons x l ih =>
    have := wB_len x (h x (by simp))
    have := ih (fun y hy => h y (by simp [hy]))
    simp only [List.map_cons, List.flatten_cons, List.length_append, List.length_cons]
    omega

theorem found_len (l : List Wr) : ∀ acc : List Int, (found acc l).length ≤ acc.length + l.length := by
  induction l with
  | nil => intro acc; simp [found]
  | cons x l ih =>
    intro acc
    have h1 := ih (addTo acc x.1)
    have h2 : (addTo acc x.1).length ≤ acc.length + 1 := by
      unfold addTo
      split <;> simp
    simp only [found, List.foldl_cons, List.length_cons] at h1 ⊢
    omega

/-! ### What reads behind writes -/
def nat (l : List Wr) : List (Nat × Bt) := l.map fun x => (x.1.toNat, x.2)

theorem play_look_out : ∀ (l : List (Nat × Bt)) (s : Sects) (k : Int), (∀ x ∈ l, (x.1 : Int) ≠ k) → dk.look (play s l) k = dk.look s k
  | [], _, _, _ => rfl
  | x :: l, s, k, h => by
    rw [play_cons, play_look_out l _ k (fun y hy => h y (by simp [hy]))]
    exact look_set_other s x.1 k _ (Ne.symm (h x (by simp)))

theorem play_look_in : ∀ (l : List (Nat × Bt)) (s s' : Sects) (k : Nat), k < s.length → k < s'.length → (∃ x ∈ l, x.1 = k) → dk.look (play s l) (k : Int) = dk.look (play s' l) (k : Int)
  | [], _, _, _, _, _, ⟨x, hx, _⟩ => absurd hx (by simp)
  | x :: l, s, s', k, hs, hs', h => by
    rw [play_cons, play_cons]
    by_cases hl : ∃ y ∈ l, y.1 = k
    · exact play_look_in l _ _ k (by simpa [dk.put] using hs) (by simpa [dk.put] using hs') hl
    · have hx : x.1 = k := by
        obtain ⟨y, hy, e⟩ := h
        rcases List.mem_cons.1 hy with rfl | hy
        · exact e
        · exact absurd ⟨y, hy, e⟩ hl
      have hn : ∀ y ∈ l, (y.1 : Int) ≠ (k : Int) := fun y hy e => hl ⟨y, hy, by omega⟩
      rw [play_look_out l _ _ hn, play_look_out l _ _ hn, hx]
      unfold dk.put
      rw [look_set_same _ _ _ hs, look_set_same _ _ _ hs']

/-- What was written of l ahead does not matter, where all of l is written. -/
theorem play_over (l y : List (Nat × Bt)) (s : Sects) (k : Int) (hy : ∀ x ∈ y, x ∈ l) (hl : ∀ x ∈ l, x.1 < s.length) : dk.look (play (play s y) l) k = dk.look (play s l) k := by
  by_cases hk : ∃ x ∈ l, (x.1 : Int) = k
  · obtain ⟨x, hx, rfl⟩ := hk
    exact play_look_in l _ _ x.1 (by rw [play_length]; exact hl x hx) (hl x hx) ⟨x, hx, rfl⟩
  · have hn : ∀ x ∈ l, (x.1 : Int) ≠ k := fun x hx e => hk ⟨x, hx, e⟩
    rw [play_look_out l _ _ hn, play_look_out l _ _ hn, play_look_out y _ _ (fun x hx => hn x (hy x hx))]

end Go.Proofs.YtjllpbckmioiiaaDoor.jr

/- slices.Backward over a list of writes: its contract, for a range over it. -/
namespace Go.Proofs.YtjllpbckmioiiaaDoor.dk
open Go Go.RowKit Go.Shelf
set_option maxRecDepth 100000

attribute [local go_sem] Oper.semAt_some

theorem wpListIn_value {F : Fence} {n : Nat} {P : Program} {ops : Array Oper} {rest : List Oper} {o : Oper} {a : Act} {w w' : World} {v : Value} {Q : Exit → Act → World → Prop} (hg : o.guard = none) (hnd : ∀ c, o.op ≠ .defer c) (hab : o.about P w a.eval = none)
    (h : (execOp a.eval o).run P w = .ok (.value v) w') (hn : wpListIn F n P ops Q rest (a.put o.dst v) w') : wpListIn F n P ops Q (o :: rest) a w := by
  refine wpListIn_plain hg fun K' hK' => ?_
  unfold Oper.wpIn
  refine ⟨fun f hf => (by rw [hab] at hf; cases hf), ?_⟩
  rw [Oper.semAt_plain F _ _ hnd, h]
  exact hK' _ _ hn

theorem wpListIn_skip_ {F : Fence} {n : Nat} {P : Program} {ops : Array Oper} {rest : List Oper} {o : Oper} {a : Act} {w w' : World} {Q : Exit → Act → World → Prop} (hg : o.guard = none) (hnd : ∀ c, o.op ≠ .defer c) (hab : o.about P w a.eval = none)
    (h : (execOp a.eval o).run P w = .ok .skip w') (hn : wpListIn F n P ops Q rest (a.put o.dst undef) w') : wpListIn F n P ops Q (o :: rest) a w := by
  refine wpListIn_plain hg fun K' hK' => ?_
  unfold Oper.wpIn
  refine ⟨fun f hf => (by rw [hab] at hf; cases hf), ?_⟩
  rw [Oper.semAt_plain F _ _ hnd, h]
  exact hK' _ _ hn

theorem about_load {P : Program} {o : Oper} {w : World} {ρ : Operand → Value} (t : TypeId) (x : Operand) (h : o.op = .load t x) : o.about P w ρ = none := by simp [Oper.about, h]
theorem about_store {P : Program} {o : Oper} {w : World} {ρ : Operand → Value} (t : TypeId) (x y : Operand) (h : o.op = .store t x y) : o.about P w ρ = none := by simp [Oper.about, h]
theorem about_alloc {P : Program} {o : Oper} {w : World} {ρ : Operand → Value} (t : TypeId) (h : o.op = .alloc t) : o.about P w ρ = none := by simp [Oper.about, h]

/-- A write, that fits a disk of n sectors. -/
abbrev Wr (n : Nat) := { x : Nat × Bt × Bt × Bool // x.1 < n ∧ x.2.1.length = 32 ∧ x.2.2.1.length = 32 }

theorem row_get (l : List (Nat × Bt × Bt × Bool)) (h : ∀ x ∈ l, (wrCells x).length = 66) (k : Nat) (hk : k < l.length) (j : Nat) (hj : j < 66) : (wrRow l)[k * 66 + j]? = (wrCells l[k])[j]? := by
  induction l generalizing k with
  | nil => simp at hk
  | cons x l ih =>
    have h1 := h x (by simp)
    show (wrCells x ++ wrRow l)[k * 66 + j]? = _
    cases k with
    | zero =>
      rw [List.getElem?_append_left (by omega)]
      simp
    | succ k =>
      rw [List.getElem?_append_right (by omega), h1, show (k + 1) * 66 + j - 66 = k * 66 + j by omega]
      exact ih (fun y hy => h y (by simp [hy])) k (by simpa using hk)

/-- The k-th write of a row that is owned. -/
theorem own_get {w : World} {v : Value} {l : List (Nat × Bt × Bt × Bool)} {base : Nat} (hown : w.ownsRow base 80 66 v l.length (wrRow l)) (h : ∀ x ∈ l, (wrCells x).length = 66) (k : Nat) (hk : k < l.length) :
    ∃ g c cur, v = .slice (some ⟨g, 0, none⟩) l.length c ∧ l.length ≤ c ∧ c ≤ maxLen ∧ w.heap[g]? = some (.cells cur 80 (0, 0)) ∧ ∀ j u, (wrCells l[k])[j]? = some u → cur[k * 66 + j]? = some u := by
  rcases hown.2 with ⟨_, h0⟩ | ⟨g, cap, cur, rfl, _, hg, hc, hm, hs, htk⟩
  · omega
  · refine ⟨g, cap, cur, rfl, hc, hm, hg, fun j u hu => ?_⟩
    have hl : (wrCells l[k]).length = 66 := h _ (List.getElem_mem hk)
    have hj : j < 66 := by rw [← hl]; exact (List.getElem?_eq_some_iff.1 hu).1
    have h1 : k * 66 + j < l.length * 66 := by
      have : (k + 1) * 66 ≤ l.length * 66 := Nat.mul_le_mul_right _ hk
      omega
    rw [← row_get l h k hk j hj, ← htk, List.getElem?_take_of_lt h1] at hu
    simpa using hu

def BackKp (Bs : Nat) (v : Value) (W W' : World) : Prop := ∀ b, b = Bs ∨ v.ownBlock = some b → W'.heap[b]? = W.heap[b]?

/-- The places as they come. -/
def backs {n : Nat} (L : List (Wr n)) : List (Nat × Wr n) := (L.zipIdx.map fun x => (x.2, x.1)).reverse
theorem backs_length {n : Nat} (L : List (Wr n)) : (backs L).length = L.length := by simp [backs]
theorem backs_get {n : Nat} (L : List (Wr n)) (r : Nat) (h : r < L.length) : (backs L)[r]? = some (L.length - 1 - r, L[L.length - 1 - r]) := by
  unfold backs
  rw [List.getElem?_reverse (by simpa using h)]
  simp

def encW {n : Nat} (x : Nat × Wr n) : Array Value := #[.int .i64 (x.1 : Int), .agg (wrCells x.2.1).toArray]

set_option maxRecDepth 100000 in
set_option maxHeartbeats 2000000 in
theorem back1_in (F : Fence) (nn : Nat) (hF : F.fn 58) (hro : F.round = none) (hn : 1 ≤ nn) (l Bs : Nat) (v : Value) {n : Nat} (L : List (Wr n)) (hL : L.length ≤ 1000000) (J Jx : List (Nat × Wr n) → World → Prop)
    (hY : ∀ pre x W, J pre W → pre.length < L.length → YieldAt F (nn - 1) Tryd.prog l (encW x) W fun e W' =>
      (e = .returned (.bool true) ∧ J (pre ++ [x]) W' ∧ BackKp Bs v W W') ∨ (e = .returned (.bool false) ∧ Jx (pre ++ [x]) W'))
    (W : World) (hBs : Blk W Bs 72 #[v]) (hown : W.ownsRow 0 80 66 v L.length (wrRow (L.map (·.1)))) (h0 : J [] W) :
    CallsIn F nn Tryd.prog 58 #[.func (.yield l) #[] #[], .pointer (some ⟨Bs, 0, none⟩)] W fun e W' => (∃ v, e = .returned v) ∧
      ((∃ ys, ys = backs L ∧ J ys W') ∨ (∃ pre, True ∧ Jx pre W')) := by
  have h66 : ∀ x ∈ L.map (fun y => y.1), (wrCells x).length = 66 := by
    intro x hx
    obtain ⟨y, _, rfl⟩ := List.mem_map.1 hx
    exact wrCells_len _ y.2.2.1 y.2.2.2
  obtain ⟨A, c, hA⟩ := own_form hown
  have HB := Lib.hid hBs
  have HO := Lib.hid hown
  have H66 := Lib.hid h66
  have HY := Lib.hid hY
  have HA := Lib.hid hA
  have HVB : Hid (v.ownBlock = v.ownBlock) := rfl
  clear hBs hown h66 hY
  subst hA
  have kB : W.cell? ⟨Bs, 0, none⟩ = some (.slice A L.length c) := HB.out.cell 0
  refine callsIn_of_wp Tryd.func58 rfl hF ?_ hro
  simp only [Tryd.ntmps58, List.size_toArray, List.length_cons, List.length_nil, Nat.reduceAdd, Nat.reduceSub, Array.replicate_succ, Array.replicate_zero, List.push_toArray, List.append_toArray, List.nil_append, List.cons_append]
  gi_wp2
  gi_loopw [3] (fun i wr => ∃ k : Nat, k ≤ L.length ∧ i = .int .i64 ((k : Int) - 1) ∧ J ((backs L).take (L.length - k)) wr ∧ BackKp Bs (.slice A L.length c) W wr) (fun i _ => (intOf i + 1).toNat)
  case atStart => exact ⟨L.length, Nat.le_refl _, rfl, by simpa using h0, fun _ _ => rfl⟩
  case round =>
    obtain ⟨k, hk, rfl, hJ, hKp⟩ := hrel
    have HKp := Lib.hid hKp
    have HJ := Lib.hid hJ
    have kb' : wr.cell? ⟨Bs, 0, none⟩ = some (.slice A L.length c) := (World.cell?_of_block (a := ⟨Bs, 0, none⟩) (hKp Bs (.inl rfl))).trans kB
    clear hKp hJ
    cases k with
    | zero =>
      gi_wp2
      go_end0
      have := HJ.out
      rw [Nat.sub_zero, List.take_of_length_le (by rw [backs_length]; exact Nat.le_refl _)] at this
      exact ⟨⟨_, rfl⟩, .inl ⟨_, rfl, this⟩⟩
    | succ j =>
      have ej : ((j + 1 : Nat) : Int) - 1 = (j : Int) := by omega
      rw [ej]
      have hj : j < L.length := by omega
      have hown' : wr.ownsRow 0 80 66 (.slice A L.length c) (L.map (fun y => y.1)).length (wrRow (L.map (fun y => y.1))) := by
        rw [List.length_map]
        exact own_of_block HO.out (fun b hb => HKp.out b (.inr hb))
      obtain ⟨g, c', cur, hv, hlc, hcm, hg, hcur⟩ := own_get hown' H66.out j (by rw [List.length_map]; exact hj)
      simp only [Value.slice.injEq, List.length_map, true_and] at hv
      obtain ⟨rfl, rfl⟩ := hv
      have htk : (backs L).take (L.length - j) = (backs L).take (L.length - (j + 1)) ++ [(j, L[j])] := by
        have hr : L.length - (j + 1) < L.length := by omega
        have h1 := backs_get L (L.length - (j + 1)) hr
        have e1 : L.length - j = (L.length - (j + 1)) + 1 := by omega
        have e2 : L.length - 1 - (L.length - (j + 1)) = j := by omega
        rw [e1, List.take_add_one, h1]
        simp only [e2, Option.toList_some]
      have hx66 : (wrCells ((L.map (fun y => y.1))[j]'(by rw [List.length_map]; exact hj))).length = 66 := H66.out _ (List.getElem_mem _)
      rw [List.getElem_map] at hx66 hcur
      have HTK := Lib.hid htk
      obtain ⟨fn, tmps, assign, body, hy, hR⟩ := HY.out _ (j, L[j]) wr HJ.out (by rw [List.length_take, backs_length]; omega)
      generalize L[j] = x at *
      dsimp only [encW] at hy
      have HG := Lib.hid hg
      have HCur := Lib.hid hcur
      have HX := Lib.hid hx66
      have HR := Lib.hid hR
      have HLC := Lib.hid hlc
      have HCM := Lib.hid hcm
      clear hg hcur hx66 hR hown' htk hlc hcm ej
      gi_wp2_with (refine wpListIn_value rfl (fun c h => by cases h) (about_load _ _ rfl) (exec_load_part 80 (.tmp 15) rfl g (j * 66) rfl _ cur (wrCells x.1) _ _ HG.out Tryd.underlying80 rfl (by rw [size70, HX.out]) HCur.out) ?_)
      refine HR.out.mono ?_
      rintro e W3 (⟨rfl, hJ3, hk3⟩ | ⟨rfl, hJx3⟩)
      · gi_wp2
        go_roundw
        case rel =>
          refine ⟨j, by omega, rfl, by rw [HTK.out]; exact hJ3, fun b hb => (hk3 b hb).trans (HKp.out b hb)⟩
        case measure => simp [intOf]
      · gi_wp2
        refine bodyPost_ret (results_none rfl _ _ _) rfl ?_
        exact ⟨⟨_, rfl⟩, .inr ⟨_, trivial, hJx3⟩⟩

theorem backward_in (F : Fence) (n : Nat) (hF : F.fn 39) (hro : F.round = none) (a : Option Addr) (len cap : Nat) (w : World) :
    CallsIn F n Tryd.prog 39 #[.slice a len cap] w fun e w' => e = .returned (.func (.func 58) #[] #[.pointer (some ⟨w.heap.size, 0, none⟩)]) ∧ w' = w.alloc (.cells #[.slice a len cap] 72) := by
  refine callsIn_of_wp Tryd.func39 rfl hF ?_ hro
  simp only [Tryd.ntmps39, List.size_toArray, List.length_cons, List.length_nil, Nat.reduceAdd, Nat.reduceSub, Array.replicate_succ, Array.replicate_zero, List.push_toArray, List.append_toArray, List.nil_append, List.cons_append]
  gi_wp2
  go_ret
  exact ⟨rfl, rfl⟩

theorem back_stops (F : Fence) (nn : Nat) (hF : F.fn 58) (hro : F.round = none) (hn : 1 ≤ nn) (Bs : Nat) (v : Value) {n : Nat} (L : List (Wr n)) (hL : L.length ≤ 1000000) (w : World)
    (hBs : Blk w Bs 72 #[v]) (hown : w.ownsRow 0 80 66 v L.length (wrRow (L.map (·.1)))) :
    SeqStopsK F nn Tryd.prog 58 #[.pointer (some ⟨Bs, 0, none⟩)] encW (BackKp Bs v) (fun ys => ys = backs L) (fun _ => True) L.length w := fun l J Jx W hW _ _ hY h0 =>
  back1_in F nn hF hro hn l Bs v L hL J Jx hY W (hBs.of_block (hW.block _ hBs.lt)) (own_of_block hown (fun b hb => hW.block b (own_lt hown b hb))) h0

end Go.Proofs.YtjllpbckmioiiaaDoor.dk


/- MtDs, MgTake. -/
import Derived.Test.YtklmgdiaianlbaaQ4
import Derived.Test.YtklmgdiaianlbaaQ8
import Derived.Laws.EntriesVeiled
set_option linter.unusedVariables false
set_option linter.unusedSimpArgs false
/- The document's Decode under way: its reader, the table so far. -/
namespace Go.Proofs.Ytklmgdiaianlbaa.mt
open Go Go.RowKit Go.Proofs.Ytklmgdiaianlbaa.ib Go.Proofs.Ytklmgdiaianlbaa.wi
set_option maxRecDepth 100000

/-- A table's nine cells, its slices as they are. -/
def mC (v0 v1 v2 : Value) (t : Tk) : Array Value := #[v0, v1, .int .u64 (t.base.1 : Int), .int .u64 (t.base.2 : Int), .int .u64 (t.target.1 : Int), .int .u64 (t.target.2 : Int), .int .i64 t.next, .int .i64 t.all, v2]
abbrev nlS : Value := .slice none 0 0
structure DS (w W : World) (p c gm b : Nat) (s : St) (v0 v1 v2 : Value) (l : List Int) (xs : List OSn) (t : Tk) : Prop where
  below : Below w.heap.size w W
  rs : RS W p c b s
  m : Blk W gm 30 (mC v0 v1 v2 t)
  res : Blk W w.heap.size 30 (mC nlS nlS nlS tk0)
  live : OInts W w.heap.size v0 l
  row : OSns W w.heap.size v1 xs
  img : OInts W w.heap.size v2 t.img
  pn : w.heap.size ≤ p
  cn : w.heap.size ≤ c
  gn : w.heap.size < gm
theorem QS.blk {w : World} {c : Nat} {s : St} (h : QS w c s) : ∃ x, Blk w c 75 x := by
  unfold QS at h
  split at h
  · obtain ⟨q, h1, _⟩ := h
    exact ⟨_, h1⟩
  · obtain ⟨q, _, h1, _⟩ := h
    exact ⟨_, h1⟩
theorem RS.kp {w w' : World} {p c b : Nat} {s : St} (h : RS w p c b s) (hb : But (Tc c) w w') : Kp 75 w w' := by
  obtain ⟨x, hx⟩ := h.left.blk
  exact Kp.of_but hb hx
section
variable {w W W' : World} {p c gm b : Nat} {s s' : St} {v0 v1 v2 : Value} {l : List Int} {xs : List OSn} {t : Tk}
theorem DS.of_kp {r : TypeId} (h : DS w W p c gm b s v0 v1 v2 l xs t) (hk : Kp r W W') (hb : Below w.heap.size w W') (hr : RS W' p c b s') (h1 : 30 ≠ r) (h2 : 3 ≠ r) (h3 : 48 ≠ r) : DS w W' p c gm b s' v0 v1 v2 l xs t :=
  ⟨hb, hr, hk _ _ _ h1 h.m, hk _ _ _ h1 h.res, oi_kp h.live hk h2, h.row.kp hk h3 h2, oi_kp h.img hk h2, h.pn, h.cn, h.gn⟩
theorem DS.turn (h : DS w W p c gm b s v0 v1 v2 l xs t) (hb : But (Tc c) W W') (hr : RS W' p c b s') : DS w W' p c gm b s' v0 v1 v2 l xs t :=
  h.of_kp (h.rs.kp hb) (h.below.trans (hb.below (B := w.heap.size) (fun i hi => by unfold Tc at hi; rw [hi]; exact h.cn) h.below.size)) hr (by decide) (by decide) (by decide)
theorem DS.grow (h : DS w W p c gm b s v0 v1 v2 l xs t) (hb : Below W.heap.size W W') : DS w W' p c gm b s v0 v1 v2 l xs t :=
  h.of_kp (r := 1000000) (Kp.of_below hb) (below_step h.below hb) (h.rs.below hb) (by decide) (by decide) (by decide)
/-- One snapshot more. -/
theorem DS.push {w1 : World} {v' u : Value} {x : Sp} (h : DS w W p c gm b s v0 v1 v2 l xs t) (hu : OInts W w.heap.size u x.img)
    (hown : w1.ownsRow w.heap.size 48 4 v' (xs.length + 1) (spRow xs ++ spV (x, u))) (hg : W.grownBy w1 v1.ownBlock) :
    DS w (w1.setCell ⟨gm, 1, none⟩ v') p c gm b s v0 v' v2 l (xs ++ [(x, u)]) t := by
  have hk := Kp.of_grown hg h.row.1
  have hlo : ∀ j, v1.ownBlock = some j → w.heap.size ≤ j := fun j hj => (h.row.1.lt j hj).1
  have hb1 : Below w.heap.size w w1 := h.below.trans ((but_grow (S := fun j => v1.ownBlock = some j) (But.refl _ W) hg (fun k hk => .inl hk)).below hlo h.below.size)
  have hm := hk _ _ _ (by decide) h.m
  have hk2 := Kp.of_set 1 v' hm
  have hb2 : Below w.heap.size w (w1.setCell ⟨gm, 1, none⟩ v') := hb1.setCell (p := ⟨gm, 1, none⟩) (Nat.le_of_lt h.gn) v'
  have hp := hk _ _ _ (by decide) h.rs.blk
  have hq : QS w1 c s := by
    obtain ⟨y, hy⟩ := h.rs.left.blk
    exact h.rs.left.block (hg.block c hy.lt (fun e => own_type h.row.1 hy (by decide) c e.symm rfl))
  have hres := hk _ _ _ (by decide) h.res
  refine ⟨hb2, ⟨hk2 _ _ _ (by decide) hp, h.rs.ne, ?_⟩, hm.set_ 1 v', ?_, oi_kp (oi_kp h.live hk (by decide)) hk2 (by decide), ⟨?_, fun y hy => ?_⟩, oi_kp (oi_kp h.img hk (by decide)) hk2 (by decide), h.pn, h.cn, h.gn⟩
  · obtain ⟨y, hy⟩ := hq.blk
    exact hq.block (set_oth _ _ _ _ _ (blk_type hy hm (by decide)))
  · exact hres.of_block (set_oth _ _ _ _ _ (by have := h.gn; omega))
  · rw [List.length_append, spRow_append, spRow_one]
    exact hk2.row (by decide) hown
  · rcases List.mem_append.1 hy with hy | hy
    · exact oi_kp (oi_kp (h.row.2 y hy) hk (by decide)) hk2 (by decide)
    · obtain rfl : y = (x, u) := by simpa using hy
      exact oi_kp (oi_kp hu hk (by decide)) hk2 (by decide)
theorem DS.set1 {t' : Tk} {v2' : Value} (h : DS w W p c gm b s v0 v1 v2 l xs t) (k : Nat) (u : Value) (hm : (mC v0 v1 v2 t).setIfInBounds k u = mC v0 v1 v2' t') (hi : OInts W w.heap.size v2' t'.img) :
    DS w (W.setCell ⟨gm, k, none⟩ u) p c gm b s v0 v1 v2' l xs t' := by
  have hk2 := Kp.of_set k u h.m
  have hb2 : Below w.heap.size w (W.setCell ⟨gm, k, none⟩ u) := h.below.setCell (p := ⟨gm, k, none⟩) (Nat.le_of_lt h.gn) u
  obtain ⟨y, hy⟩ := h.rs.left.blk
  refine ⟨hb2, ⟨hk2 _ _ _ (by decide) h.rs.blk, h.rs.ne, h.rs.left.block (set_oth _ _ _ _ _ (blk_type hy h.m (by decide)))⟩, ?_, h.res.of_block (set_oth _ _ _ _ _ (by have := h.gn; omega)), oi_kp h.live hk2 (by decide), h.row.kp hk2 (by decide) (by decide), oi_kp hi hk2 (by decide), h.pn, h.cn, h.gn⟩
  rw [← hm]
  exact h.m.set_ k u
/-- The token. -/
def setTok (W : World) (gm : Nat) (v2 : Value) (t : Tk) : World :=
  ((((((W.setCell ⟨gm, 2, none⟩ (.int .u64 (t.base.1 : Int))).setCell ⟨gm, 3, none⟩ (.int .u64 (t.base.2 : Int))).setCell ⟨gm, 4, none⟩ (.int .u64 (t.target.1 : Int))).setCell ⟨gm, 5, none⟩ (.int .u64 (t.target.2 : Int))).setCell ⟨gm, 6, none⟩ (.int .i64 t.next)).setCell ⟨gm, 7, none⟩ (.int .i64 t.all)).setCell ⟨gm, 8, none⟩ v2
theorem DS.tok {t' : Tk} {v2' : Value} (h : DS w W p c gm b s v0 v1 nlS l xs tk0) (hi : OInts W w.heap.size v2' t'.img) : DS w (setTok W gm v2' t') p c gm b s v0 v1 v2' l xs t' := by
  have go : ∀ (k : Nat) (u : Value) {W : World} {t t2 : Tk} {v v' : Value}, DS w W p c gm b s v0 v1 v l xs t → OInts W w.heap.size v2' t'.img → OInts W w.heap.size v' t2.img → (mC v0 v1 v t).setIfInBounds k u = mC v0 v1 v' t2 → DS w (W.setCell ⟨gm, k, none⟩ u) p c gm b s v0 v1 v' l xs t2 ∧ OInts (W.setCell ⟨gm, k, none⟩ u) w.heap.size v2' t'.img := fun k u {W t t2 v v'} h1 h2 h3 h4 =>
    ⟨h1.set1 k u h4 h3, oi_kp h2 (Kp.of_set k u h1.m) (by decide)⟩
  obtain ⟨h1, i1⟩ := go 2 (.int .u64 (t'.base.1 : Int)) (t2 := ⟨(t'.base.1, 0), (0, 0), 0, 0, []⟩) (v' := nlS) h hi (oi_nil _ _) rfl
  obtain ⟨h2, i2⟩ := go 3 (.int .u64 (t'.base.2 : Int)) (t2 := ⟨t'.base, (0, 0), 0, 0, []⟩) (v' := nlS) h1 i1 (oi_nil _ _) rfl
  obtain ⟨h3, i3⟩ := go 4 (.int .u64 (t'.target.1 : Int)) (t2 := ⟨t'.base, (t'.target.1, 0), 0, 0, []⟩) (v' := nlS) h2 i2 (oi_nil _ _) rfl
  obtain ⟨h4, i4⟩ := go 5 (.int .u64 (t'.target.2 : Int)) (t2 := ⟨t'.base, t'.target, 0, 0, []⟩) (v' := nlS) h3 i3 (oi_nil _ _) rfl
  obtain ⟨h5, i5⟩ := go 6 (.int .i64 t'.next) (t2 := ⟨t'.base, t'.target, t'.next, 0, []⟩) (v' := nlS) h4 i4 (oi_nil _ _) rfl
  obtain ⟨h6, i6⟩ := go 7 (.int .i64 t'.all) (t2 := ⟨t'.base, t'.target, t'.next, t'.all, []⟩) (v' := nlS) h5 i5 (oi_nil _ _) rfl
  exact (go 8 v2' (t2 := t') (v' := v2') h6 i6 i6 rfl).1
end
structure okMt0 (l : List Int) (xs : List Sp) : Prop where
  live : okInts l
  sn : ∀ x ∈ xs, okInts x.img ∧ gdB x.g ∧ x.img.length ≤ 100
  nl : l.length ≤ 100
  nx : xs.length ≤ 100
structure okTk0 (t : Tk) : Prop where
  img : okInts t.img
  few : t.img.length ≤ 100
  base : gdB t.base
  target : gdB t.target
  next : i64B t.next
  all : i64B t.all
theorem okTk00 : okTk0 tk0 := ⟨fun z hz => absurd hz (by simp [tk0]), by simp [tk0], gdB0, gdB0, by unfold i64B tk0; simp, by unfold i64B tk0; simp⟩
/-- It is a table. -/
theorem mtat_of {W : World} {B : Nat} {v0 v1 v2 : Value} {l : List Int} {xs : List OSn} {t : Tk} (h0 : OInts W B v0 l) (h1 : OSns W B v1 xs) (h2 : OInts W B v2 t.img) (hf : okMt0 l (xs.map (·.1))) (ht : okTk0 t) : MtAt W (.agg (mC v0 v1 v2 t)) ⟨l, xs.map (·.1), t⟩ := by
  have i64 : ∀ {z : Int}, 0 ≤ z ∧ z ≤ 1048576 → i64B z := fun h => by unfold i64B; omega
  have hsn : ∀ x ∈ xs, okInts x.1.img ∧ gdB x.1.g := fun x hx => ⟨(hf.sn _ (List.mem_map_of_mem hx)).1, (hf.sn _ (List.mem_map_of_mem hx)).2.1⟩
  obtain ⟨A0, c0, rfl, g0⟩ := oi_sl h0 (fun z hz => i64 (hf.live z hz))
  obtain ⟨A2, c2, rfl, g2⟩ := oi_sl h2 (fun z hz => i64 (ht.img z hz))
  obtain ⟨A1, c1, rfl, g1, hr⟩ := h1.view (fun x hx' z hz => i64 ((hsn x hx').1 z hz)) (fun x hx' => (hsn x hx').2)
  exact ⟨A0, A1, A2, c0, c1, c2, rfl, g0, g1, hr, g2, ht.base, ht.target, ht.next, ht.all⟩
theorem mts_of {l : List Int} {xs : List Sp} {t : Tk} (hf : okMt0 l xs) (ht : okTk0 t) : mtS ⟨l, xs, t⟩ :=
  ⟨by have := hf.nl; show l.length ≤ 1000; omega, by have := hf.nx; show xs.length ≤ 1000; omega, fun s hs => by have := (hf.sn s hs).2.2; omega, by have := ht.few; show t.img.length ≤ 1000; omega⟩
/-- A table's cells, written one by one. -/
def setMt (W : World) (g : Nat) (v0 v1 v2 : Value) (t : Tk) : World :=
  setTok ((W.setCell ⟨g, 0, none⟩ v0).setCell ⟨g, 1, none⟩ v1) g v2 t
theorem setMt_blk {W : World} {g : Nat} {v0 v1 v2 u0 u1 u2 : Value} {t t' : Tk} (h : Blk W g 30 (mC u0 u1 u2 t')) : Blk (setMt W g v0 v1 v2 t) g 30 (mC v0 v1 v2 t) := by
  have h9 := ((((((((h.set_ 0 v0).set_ 1 v1).set_ 2 (.int .u64 (t.base.1 : Int))).set_ 3 (.int .u64 (t.base.2 : Int))).set_ 4 (.int .u64 (t.target.1 : Int))).set_ 5 (.int .u64 (t.target.2 : Int))).set_ 6 (.int .i64 t.next)).set_ 7 (.int .i64 t.all)).set_ 8 v2
  simp only [mC, List.setIfInBounds_toArray, List.set_cons_succ, List.set_cons_zero] at h9
  exact h9
theorem setMt_kp {W : World} {g : Nat} {v0 v1 v2 : Value} {t : Tk} {cs : Array Value} (h : Blk W g 30 cs) : Kp 30 W (setMt W g v0 v1 v2 t) := by
  have go : ∀ (k : Nat) (u : Value) {W' : World}, Kp 30 W W' ∧ (∃ cs, Blk W' g 30 cs) → Kp 30 W (W'.setCell ⟨g, k, none⟩ u) ∧ (∃ cs, Blk (W'.setCell ⟨g, k, none⟩ u) g 30 cs) := fun k u W' ⟨h1, cs, h2⟩ =>
    ⟨h1.trans (Kp.of_set k u h2), _, h2.set_ k u⟩
  exact (go 8 v2 (go 7 _ (go 6 _ (go 5 _ (go 4 _ (go 3 _ (go 2 _ (go 1 v1 (go 0 v0 ⟨Kp.refl _ _, _, h⟩))))))))).1
theorem setMt_below {w W : World} {B g : Nat} {v0 v1 v2 : Value} {t : Tk} (h : Below B w W) (hg : B ≤ g) : Below B w (setMt W g v0 v1 v2 t) :=
  ((((((((h.setCell (p := ⟨g, 0, none⟩) hg v0).setCell (p := ⟨g, 1, none⟩) hg v1).setCell (p := ⟨g, 2, none⟩) hg _).setCell (p := ⟨g, 3, none⟩) hg _).setCell (p := ⟨g, 4, none⟩) hg _).setCell (p := ⟨g, 5, none⟩) hg _).setCell (p := ⟨g, 6, none⟩) hg _).setCell (p := ⟨g, 7, none⟩) hg _).setCell (p := ⟨g, 8, none⟩) hg v2
/-- A table in a result's block. -/
def ResAt (w W' : World) (r : Mt) : Prop := ∃ v0 v1 v2, Blk W' w.heap.size 30 (mC v0 v1 v2 r.tok) ∧ MtAt W' (.agg (mC v0 v1 v2 r.tok)) r ∧ Below w.heap.size w W'
theorem mtat0 (W : World) : MtAt W (.agg (mC nlS nlS nlS tk0)) mt0 := mtat_of (B := 0) (xs := []) (oi_nil W 0) (OSns.nil W 0) (oi_nil W 0) ⟨fun z hz => absurd hz (by simp), fun x hx => absurd hx (by simp), by simp, by simp⟩ okTk00
section
variable {w W W' : World} {p c gm b : Nat} {s s' : St} {v0 v1 v2 : Value} {l : List Int} {xs : List OSn} {t : Tk}
theorem DS.at_ (h : DS w W p c gm b s v0 v1 v2 l xs t) (hf : okMt0 l (xs.map (·.1))) (ht : okTk0 t) : MtAt W (.agg (mC v0 v1 v2 t)) ⟨l, xs.map (·.1), t⟩ := mtat_of h.live h.row h.img hf ht
theorem DS.fin (h : DS w W p c gm b s v0 v1 v2 l xs t) (hf : okMt0 l (xs.map (·.1))) (ht : okTk0 t) : Blk (setMt W w.heap.size v0 v1 v2 t) w.heap.size 30 (mC v0 v1 v2 t) ∧ MtAt (setMt W w.heap.size v0 v1 v2 t) (.agg (mC v0 v1 v2 t)) ⟨l, xs.map (·.1), t⟩ ∧ Below w.heap.size w (setMt W w.heap.size v0 v1 v2 t) := by
  have hk := setMt_kp (v0 := v0) (v1 := v1) (v2 := v2) (t := t) h.res
  exact ⟨setMt_blk h.res, mtat_of (oi_kp h.live hk (by decide)) (h.row.kp hk (by decide) (by decide)) (oi_kp h.img hk (by decide)) hf ht, setMt_below h.below (Nat.le_refl _)⟩
theorem DS.fin0 (h : DS w W p c gm b s v0 v1 v2 l xs t) : Blk (setMt W w.heap.size nlS nlS nlS tk0) w.heap.size 30 (mC nlS nlS nlS tk0) ∧ MtAt (setMt W w.heap.size nlS nlS nlS tk0) (.agg (mC nlS nlS nlS tk0)) mt0 ∧ Below w.heap.size w (setMt W w.heap.size nlS nlS nlS tk0) :=
  ⟨setMt_blk h.res, mtat0 _, setMt_below h.below (Nat.le_refl _)⟩
end
theorem spsS_snoc (b : Nat) : ∀ (n : Nat) (s : St), spsS b (n + 1) s = ((spsS b n s).1 ++ [(spS b (spsS b n s).2).1], (spS b (spsS b n s).2).2)
  | 0, s => rfl
  | n + 1, s => by
    have ih := spsS_snoc b n (spS b s).2
    show (((spS b s).1 :: (spsS b (n + 1) (spS b s).2).1, (spsS b (n + 1) (spS b s).2).2) : List Sp × St) = _
    rw [ih]
    rfl
theorem spsS_len (b : Nat) : ∀ (n : Nat) (s : St), (spsS b n s).1.length = n
  | 0, _ => rfl
  | n + 1, s => by simp [spsS, spsS_len b n]
theorem spS_ok (b : Nat) (s : St) : okInts (spS b s).1.img ∧ (spS b s).1.img.length = b ∧ gdB (spS b s).1.g := ⟨intsS_ok _ _, intsS_len _ _, gdS_B _⟩
theorem spsS_ok (b : Nat) : ∀ (n : Nat) (s : St), ∀ x ∈ (spsS b n s).1, okInts x.img ∧ x.img.length = b ∧ gdB x.g
  | 0, _, x, hx => absurd hx (by simp [spsS])
  | n + 1, s, x, hx => by
    unfold spsS at hx
    simp only [List.mem_cons] at hx
    rcases hx with rfl | hx
    · exact spS_ok b s
    · exact spsS_ok b n _ x hx
theorem mDec_yes {s : List UInt8} {m : Mt} {r : St} (h : mS (some s) = (m, r)) (he : mEnc m = (s, 0)) : mDec s = (m, 0) := by unfold mDec; rw [h, if_pos he]
theorem mDec_no {s : List UInt8} {m : Mt} {r : St} (h : mS (some s) = (m, r)) (he : mEnc m ≠ (s, 0)) : mDec s = (mt0, 4) := by unfold mDec; rw [h, if_neg he]
end Go.Proofs.Ytklmgdiaianlbaa.mt

/- A table that the program reads: take. -/
namespace Go.Proofs.Ytklmgdiaianlbaa.mt.pg
open Go Go.RowKit Go.Proofs.Ytklmgdiaianlbaa.ib Go.Proofs.Ytklmgdiaianlbaa.wi Go.Proofs.Ytklmgdiaianlbaa.im Go.Proofs.Ytklmgdiaianlbaa.mt
set_option maxRecDepth 100000

def mZ (v0 v1 : Value) : Array Value := #[v0, v1, .int .u64 0, .int .u64 0, .int .u64 0, .int .u64 0, .int .i64 0, .int .i64 0, .slice none 0 0]
/-- take under way: its reader, its result's block, the table so far. -/
structure TK (w W : World) (gR gm kb rb pb c b : Nat) (s : St) (v0 v1 : Value) (l : List Int) (xs : List OSn) : Prop where
  rd : Rd w c s W
  env : EnvP W kb rb pb c b
  res : Blk W gR 30 (mZ (.slice none 0 0) (.slice none 0 0))
  m : Blk W gm 30 (mZ v0 v1)
  live : OInts W w.heap.size v0 l
  row : OSns W w.heap.size v1 xs
  rn : w.heap.size ≤ gR
  gn : gR < gm
section
variable {w W W' : World} {gR gm kb rb pb c b : Nat} {s s' : St} {v0 v1 : Value} {l : List Int} {xs : List OSn}
theorem TK.next (h : TK w W gR gm kb rb pb c b s v0 v1 l xs) (hr : Rd W c s' W') : TK w W' gR gm kb rb pb c b s' v0 v1 l xs :=
  ⟨h.rd.trans hr, h.env.rd h.rd.ps.blk hr, hr.blk h.res h.rd.ps.blk (by decide), hr.blk h.m h.rd.ps.blk (by decide), oi_kp h.live (hr.kp h.rd.ps) (by decide), h.row.kp (hr.kp h.rd.ps) (by decide) (by decide), h.rn, h.gn⟩
theorem EnvP.kp {kb rb pb c b : Nat} (h : EnvP W kb rb pb c b) (hk : Kp 30 W W') : EnvP W' kb rb pb c b := ⟨⟨hk _ _ _ (by decide) h.e.k, hk _ _ _ (by decide) h.e.r⟩, hk _ _ _ (by decide) h.p⟩
theorem TK.set0 {l' : List Int} (h : TK w W gR gm kb rb pb c b s v0 v1 l xs) (v : Value) (hv : OInts W w.heap.size v l') : TK w (W.setCell ⟨gm, 0, none⟩ v) gR gm kb rb pb c b s v v1 l' xs := by
  have hk := Kp.of_set 0 v h.m
  have := h.rn
  have := h.gn
  exact ⟨h.rd.set h.m (by omega) (by decide) (by decide) 0 v, h.env.kp hk, h.res.of_block (set_oth _ _ _ _ _ (by omega)), h.m.set_ 0 v, oi_kp hv hk (by decide), h.row.kp hk (by decide) (by decide), h.rn, h.gn⟩
theorem TK.set1 {xs' : List OSn} (h : TK w W gR gm kb rb pb c b s v0 v1 l xs) (v : Value) (hv : OSns W w.heap.size v xs') : TK w (W.setCell ⟨gm, 1, none⟩ v) gR gm kb rb pb c b s v0 v l xs' := by
  have hk := Kp.of_set 1 v h.m
  have := h.rn
  have := h.gn
  exact ⟨h.rd.set h.m (by omega) (by decide) (by decide) 1 v, h.env.kp hk, h.res.of_block (set_oth _ _ _ _ _ (by omega)), h.m.set_ 1 v, oi_kp h.live hk (by decide), hv.kp hk (by decide) (by decide), h.rn, h.gn⟩
end
theorem osns_of {w W : World} {b c n g : Nat} {s : St} {xs : List OSn} {B : Nat} (h : Sn b c n g s w n xs W) (hg : B ≤ g) (hB : B ≤ w.heap.size) (hn : n ≤ 1000) : OSns W B (.slice (some ⟨g, 0, none⟩) n n) xs := by
  have hr := h.row
  rw [Nat.sub_self, List.replicate_zero, List.append_nil] at hr
  have hl := h.len
  refine ⟨⟨by rw [spRow_len], .inr ⟨g, n, (spRow xs).toArray, by rw [hl], hg, hr, by omega, by unfold maxLen; omega, by rw [List.size_toArray, spRow_len, hl], ?_⟩⟩, fun x hx => row_base (h.img x hx) hB⟩
  rw [List.take_of_length_le (by rw [spRow_len]; omega)]
theorem setTok_rd {a W : World} {c gm : Nat} {s : St} {cs : Array Value} {v : Value} {t : Tk} (h : Rd a c s W) (hm : Blk W gm 30 cs) (hn : a.heap.size ≤ gm) : Rd a c s (setTok W gm v t) := by
  have go : ∀ (k : Nat) (u : Value) {W' : World}, (Rd a c s W' ∧ ∃ cs, Blk W' gm 30 cs) → (Rd a c s (W'.setCell ⟨gm, k, none⟩ u) ∧ ∃ cs, Blk (W'.setCell ⟨gm, k, none⟩ u) gm 30 cs) := fun k u W' ⟨h1, cs, h2⟩ => ⟨h1.set h2 hn (by decide) (by decide) k u, _, h2.set_ k u⟩
  exact (go 8 v (go 7 _ (go 6 _ (go 5 _ (go 4 _ (go 3 _ (go 2 _ ⟨h, cs, hm⟩))))))).1
theorem setTok_kp {W : World} {g : Nat} {v : Value} {t : Tk} {cs : Array Value} (h : Blk W g 30 cs) : Kp 30 W (setTok W g v t) := by
  have go : ∀ (k : Nat) (u : Value) {W' : World}, Kp 30 W W' ∧ (∃ cs, Blk W' g 30 cs) → Kp 30 W (W'.setCell ⟨g, k, none⟩ u) ∧ (∃ cs, Blk (W'.setCell ⟨g, k, none⟩ u) g 30 cs) := fun k u W' ⟨h1, cs, h2⟩ =>
    ⟨h1.trans (Kp.of_set k u h2), _, h2.set_ k u⟩
  exact (go 8 v (go 7 _ (go 6 _ (go 5 _ (go 4 _ (go 3 _ (go 2 _ ⟨Kp.refl _ _, _, h⟩))))))).1
theorem setTok_blk {W : World} {g : Nat} {v0 v1 v : Value} {t : Tk} (h : Blk W g 30 (mZ v0 v1)) : Blk (setTok W g v t) g 30 (mC v0 v1 v t) := by
  have h9 := ((((((h.set_ 2 (.int .u64 (t.base.1 : Int))).set_ 3 (.int .u64 (t.base.2 : Int))).set_ 4 (.int .u64 (t.target.1 : Int))).set_ 5 (.int .u64 (t.target.2 : Int))).set_ 6 (.int .i64 t.next)).set_ 7 (.int .i64 t.all)).set_ 8 v
  simp only [mZ, List.setIfInBounds_toArray, List.set_cons_succ, List.set_cons_zero] at h9
  exact h9
theorem setTok_oth {W : World} {g j : Nat} {v : Value} {t : Tk} (hj : j ≠ g) : (setTok W g v t).heap[j]? = W.heap[j]? := by
  unfold setTok
  rw [set_oth _ _ _ _ _ hj, set_oth _ _ _ _ _ hj, set_oth _ _ _ _ _ hj, set_oth _ _ _ _ _ hj, set_oth _ _ _ _ _ hj, set_oth _ _ _ _ _ hj, set_oth _ _ _ _ _ hj]
/-- What take leaves behind, ahead of its return. -/
structure Fin (w W : World) (gR gm c : Nat) (v0 v1 v2 : Value) (m : Mt) : Prop where
  but : But (Tc c) w W
  res : Blk W gR 30 (mZ (.slice none 0 0) (.slice none 0 0))
  mm : Blk W gm 30 (mC v0 v1 v2 m.tok)
  at_ : ∃ xs, OInts W w.heap.size v0 m.live ∧ OSns W w.heap.size v1 xs ∧ OInts W w.heap.size v2 m.tok.img ∧ xs.map (·.1) = m.snaps
  ok : okMt0 m.live m.snaps ∧ okTk0 m.tok
  rn : w.heap.size ≤ gR
/-- A table in lists that the call made. -/
structure Own (w : World) (B : Nat) (v0 v1 v2 : Value) (m : Mt) : Prop where
  at_ : ∃ xs, OInts w B v0 m.live ∧ OSns w B v1 xs ∧ OInts w B v2 m.tok.img ∧ xs.map (·.1) = m.snaps
  ok : okMt0 m.live m.snaps ∧ okTk0 m.tok
theorem Own.kp {w w' : World} {B : Nat} {v0 v1 v2 : Value} {m : Mt} {r : TypeId} (h : Own w B v0 v1 v2 m) (hk : Kp r w w') (h1 : 48 ≠ r) (h2 : 3 ≠ r) : Own w' B v0 v1 v2 m := by
  obtain ⟨xs, a, b, c, d⟩ := h.at_
  exact ⟨⟨xs, oi_kp a hk h2, b.kp hk h1 h2, oi_kp c hk h2, d⟩, h.ok⟩
theorem Own.mt {w : World} {B : Nat} {v0 v1 v2 : Value} {m : Mt} (h : Own w B v0 v1 v2 m) : MtAt w (.agg (mC v0 v1 v2 m.tok)) m := by
  obtain ⟨xs, a, b, c, d⟩ := h.at_
  have := mtat_of a b c (by rw [d]; exact h.ok.1) h.ok.2
  rw [d] at this
  exact this
def endTk (c : Nat) (s : St) (w : World) (e : Ending) (w' : World) : Prop := ∃ v0 v1 v2, e = .returned (.agg (mC v0 v1 v2 (mP s).tok)) ∧ Own w' w.heap.size v0 v1 v2 (mP s) ∧ But (Tc c) w w'
theorem Fin.done {w W : World} {gR gm c : Nat} {v0 v1 v2 : Value} {m : Mt} (h : Fin w W gR gm c v0 v1 v2 m) : Blk (setMt W gR v0 v1 v2 m.tok) gR 30 (mC v0 v1 v2 m.tok) ∧ Own (setMt W gR v0 v1 v2 m.tok) w.heap.size v0 v1 v2 m ∧ But (Tc c) w (setMt W gR v0 v1 v2 m.tok) := by
  have hk := setMt_kp (v0 := v0) (v1 := v1) (v2 := v2) (t := m.tok) h.res
  obtain ⟨xs, h1, h2, h3, h4⟩ := h.at_
  have hr : Blk W gR 30 (mC nlS nlS nlS tk0) := h.res
  have ha : Own (setMt W gR v0 v1 v2 m.tok) w.heap.size v0 v1 v2 m := Own.kp ⟨h.at_, h.ok⟩ hk (by decide) (by decide)
  have hb : But (Tc c) w (setMt W gR v0 v1 v2 m.tok) := by
    have go : ∀ (k : Nat) (u : Value) {W' : World}, But (Tc c) w W' → But (Tc c) w (W'.setCell ⟨gR, k, none⟩ u) := fun k u W' h1 => h1.setCell _ _ (.inr h.rn)
    exact go 8 _ (go 7 _ (go 6 _ (go 5 _ (go 4 _ (go 3 _ (go 2 _ (go 1 _ (go 0 _ h.but))))))))
  exact ⟨setMt_blk hr, ha, hb⟩

theorem load_mt {W : World} {g : Nat} {v0 v1 v2 : Value} {t : Tk} (h : Blk W g 30 (mC v0 v1 v2 t)) : (loadVar 30 ⟨g, 0, none⟩).run Try.prog W = .ok (.agg (mC v0 v1 v2 t)) W :=
  run_loadVar_row W g 30 30 _ (0, 0) _ h Try.underlying30 rfl (by kernel_rfl)

theorem take_res {W : World} {g : Nat} {v0 v1 v2 : Value} {t : Tk} (h : Blk W g 30 (mC v0 v1 v2 t)) (tm : Array Value) (hp : tm.getD 2 undef = .pointer (some ⟨g, 0, none⟩)) :
    (results Try.f56 tm).run Try.prog W = .ok (.agg (mC v0 v1 v2 t)) W := by
  have hl := load_mt h
  generalize mC v0 v1 v2 t = X at *
  exact results_cell1 Try.results56 tm _ _ ⟨g, 0, none⟩ _ hp hl
/-- The end. -/
theorem take_end {w WE : World} {gR c : Nat} {s : St} {v0 v1 v2 : Value} {m : Mt} (a : Act) (ha : a.defers = []) (hp : a.tmps.getD 2 undef = .pointer (some ⟨gR, 0, none⟩)) (hm : mP s = m)
    (h : Blk WE gR 30 (mC v0 v1 v2 m.tok) ∧ Own WE w.heap.size v0 v1 v2 m ∧ But (Tc c) w WE) : bodyPost Try.prog Try.f56 (endTk c s w) .ret a WE :=
  bodyPost_ret (take_res h.1 a.tmps hp) ha ⟨v0, v1, v2, by rw [hm], by rw [hm]; exact h.2.1, h.2.2⟩

set_option maxHeartbeats 12800000 in
theorem take_any {w : World} {c : Nat} {s : St} (h : PS w c s) : Calls Try.prog 56 #[ptr c] w (endTk c s w) := by
  have HP0 := Lib.hid h
  have hb1 := (Below.refl w.heap.size w).alloc (Nat.le_refl _) (.cells #[ptr c] 70)
  have hr1 : Rd w c s (w.alloc (.cells #[ptr c] 70)) := ⟨But.of_below hb1, h.below hb1⟩
  have ha1 := Blk.new w 70 #[ptr c]
  obtain ⟨W1, hW1⟩ : ∃ z, w.alloc (.cells #[ptr c] 70) = z := ⟨_, rfl⟩
  rw [hW1] at hr1 ha1 hb1
  have hb2 := (Below.refl W1.heap.size W1).alloc (Nat.le_refl _) (.cells (mZ (.slice none 0 0) (.slice none 0 0)) 30)
  have hr2 := hr1.new hb2
  have ha2 := Blk.new W1 30 (mZ (.slice none 0 0) (.slice none 0 0))
  obtain ⟨W2, hW2⟩ : ∃ z, W1.alloc (.cells (mZ (.slice none 0 0) (.slice none 0 0)) 30) = z := ⟨_, rfl⟩
  rw [hW2] at hr2 ha2 hb2
  have HR2 := Lib.hid hr2
  have HB2 := Lib.hid (ha1.below hb2)
  have HA2 := Lib.hid ha2
  have HRN : Hid (w.heap.size ≤ W1.heap.size) := hb1.size
  obtain ⟨gR, hgR⟩ : ∃ g, W1.heap.size = g := ⟨_, rfl⟩
  rw [hgR] at HA2 HRN
  obtain ⟨rb, hrb⟩ : ∃ g, w.heap.size = g := ⟨_, rfl⟩
  have HRB := Lib.hid hrb
  have hB2 := HB2.out
  rw [hrb] at hB2
  have HX2 := Lib.hid hB2
  have r0 := hB2.cell 0
  simp only [List.getElem?_toArray, List.getElem?_cons_zero, List.getElem?_cons_succ] at r0
  have hlr := hB2.lt
  clear h hb1 hr1 ha1 hb2 hr2 ha2 hB2 HB2
  unfold mZ at hW2
  go_enter Try.func56, Try.ntmps56
  go_upto_region 1 with fail
  try rw [hrb]
  try rw [hW1]
  try rw [hW2]
  try rw [hgR]
  clear hW1 hW2 hgR hrb
  go_wp2_with fail
  refine (upTo_any HR2.out.ps 8 8 rfl (by omega)).mono ?_
  rintro e W3 ⟨rfl, hq⟩
  have hRd3 := HR2.out.trans hq
  have hA3 := hq.blk HA2.out HR2.out.ps.blk (by decide)
  have hX3 := hq.blk HX2.out HR2.out.ps.blk (by decide)
  clear hq HA2 HX2 r0 hlr HR2
  have hbb := upS_le 8 s
  obtain ⟨b, hbE⟩ : ∃ x, (upS 8 s).1 = x := ⟨_, rfl⟩
  rw [hbE] at hbb ⊢
  have HBE := Lib.hid hbE
  obtain ⟨s1, hs1⟩ : ∃ x, (upS 8 s).2 = x := ⟨_, rfl⟩
  rw [hs1] at hRd3
  have HS1 := Lib.hid hs1
  have HBB := Lib.hid hbb
  clear hs1 hbE hbb
  have hb4 := (Below.refl W3.heap.size W3).alloc (Nat.le_refl _) (.cells #[.int .i64 (b : Int)] 3)
  have hK4 := Blk.new W3 3 #[.int .i64 (b : Int)]
  obtain ⟨W4, hW4⟩ : ∃ z, W3.alloc (.cells #[.int .i64 (b : Int)] 3) = z := ⟨_, rfl⟩
  rw [hW4] at hb4 hK4
  obtain ⟨kb, hkb⟩ : ∃ g, W3.heap.size = g := ⟨_, rfl⟩
  rw [hkb] at hK4
  have HRd4 := Lib.hid (hRd3.new hb4)
  have HA4 := Lib.hid (hA3.below hb4)
  have HX4 := Lib.hid (hX3.below hb4)
  have HK4 := Lib.hid hK4
  clear hRd3 hA3 hX3 hb4 hK4
  go_upto_region 2 with fail
  try rw [hkb]
  try rw [hW4]
  clear hW4 hkb
  have hb5 := (Below.refl W4.heap.size W4).alloc (Nat.le_refl _) (.cells #[plF kb rb] 79)
  have hP5 := Blk.new W4 79 #[plF kb rb]
  obtain ⟨W5, hW5⟩ : ∃ z, W4.alloc (.cells #[plF kb rb] 79) = z := ⟨_, rfl⟩
  rw [hW5] at hb5 hP5
  obtain ⟨pb, hpb⟩ : ∃ g, W4.heap.size = g := ⟨_, rfl⟩
  rw [hpb] at hP5
  have HRd5 := Lib.hid (HRd4.out.new hb5)
  have HA5 := Lib.hid (HA4.out.below hb5)
  have HE5 : Hid (EnvP W5 kb rb pb c b) := ⟨⟨HK4.out.below hb5, HX4.out.below hb5⟩, hP5⟩
  clear HRd4 HA4 HX4 HK4 hb5 hP5
  go_upto_region 3 with fail
  try rw [hpb]
  try rw [hW5]
  clear hW5 hpb
  have hb6 := (Below.refl W5.heap.size W5).alloc (Nat.le_refl _) (.cells (mZ (.slice none 0 0) (.slice none 0 0)) 30)
  have hM6 := Blk.new W5 30 (mZ (.slice none 0 0) (.slice none 0 0))
  obtain ⟨W6, hW6⟩ : ∃ z, W5.alloc (.cells (mZ (.slice none 0 0) (.slice none 0 0)) 30) = z := ⟨_, rfl⟩
  rw [hW6] at hb6 hM6
  have HGN : Hid (gR < W5.heap.size) := HA5.out.lt
  obtain ⟨gm, hgm⟩ : ∃ g, W5.heap.size = g := ⟨_, rfl⟩
  rw [hgm] at hM6 HGN
  have HT6 : Hid (TK w W6 gR gm kb rb pb c b s1 (.slice none 0 0) (.slice none 0 0) [] []) := ⟨HRd5.out.new hb6, HE5.out.below hb6, HA5.out.below hb6, hM6, oi_nil _ _, OSns.nil _ _, HRN.out, HGN.out⟩
  clear HRd5 HA5 HE5 hb6 hM6
  unfold mZ at hW6
  go_upto_region 4 with fail
  try rw [hgm]
  try rw [hW6]
  clear hW6 hgm
  have p0 := HT6.out.env.p.cell 0
  simp only [List.getElem?_toArray, List.getElem?_cons_zero, List.getElem?_cons_succ] at p0
  have hlp := HT6.out.env.p.lt
  go_wp2_with fail
  refine (places_any (by have := HBB.out; omega) HT6.out.rd.ps HT6.out.env.e.k HT6.out.env.e.r).mono ?_
  rintro e W7 ⟨g0, rfl, hg0, hg0B, hq⟩
  have HT7 := Lib.hid (HT6.out.next hq)
  have hv := oi_of (B := w.heap.size) hg0B (by have := HT6.out.rd.but.size; omega) (by rw [plS_len]; have := HBB.out; omega)
  rw [plS_len] at hv
  have HV0 := Lib.hid hv
  clear hq hv hg0 hg0B p0 hlp HT6
  have HLV : Hid (plS b s1 = liveS s) := by unfold Hid liveS; rw [HBE.out, HS1.out]
  obtain ⟨ls, hls⟩ : ∃ x, plS b s1 = x := ⟨_, rfl⟩
  rw [hls] at HT7 HV0 HLV
  clear hls
  obtain ⟨l, hl⟩ : ∃ x, ls.1 = x := ⟨_, rfl⟩
  rw [hl] at HV0
  have HLE := Lib.hid hl
  clear hl
  have q0 := HT7.out.m.cell 0
  simp only [mZ, List.getElem?_toArray, List.getElem?_cons_zero, List.getElem?_cons_succ] at q0
  have f0 := HT7.out.m.frozen 0
  have hlm := HT7.out.m.lt
  have HT8 := Lib.hid (HT7.out.set0 (.slice (some ⟨g0, 0, none⟩) b b) HV0.out)
  obtain ⟨W8, hW8⟩ : ∃ z, W7.setCell ⟨gm, 0, none⟩ (.slice (some ⟨g0, 0, none⟩) b b) = z := ⟨_, rfl⟩
  rw [hW8] at HT8
  clear HT7 HV0
  go_upto_region 5 with fail
  try rw [hW8]
  clear hW8 q0 f0 hlm
  have r0 := HT8.out.env.e.r.cell 0
  simp only [List.getElem?_toArray, List.getElem?_cons_zero, List.getElem?_cons_succ] at r0
  have hlr := HT8.out.env.e.r.lt
  go_wp2_with fail
  refine (upTo_any HT8.out.rd.ps 20 20 rfl (by omega)).mono ?_
  rintro e W9 ⟨rfl, hq⟩
  have HT9 := Lib.hid (HT8.out.next hq)
  clear hq r0 hlr HT8
  have hnb := upS_le 20 ls.2
  obtain ⟨n, hnE⟩ : ∃ x, (upS 20 ls.2).1 = x := ⟨_, rfl⟩
  rw [hnE] at hnb ⊢
  have HNE := Lib.hid hnE
  have HNB := Lib.hid hnb
  clear hnE hnb
  go_wp2_with fail
  refine (sns_any n (by have := HNB.out; omega) (by have := HBB.out; omega) HT9.out.rd.ps HT9.out.env).mono ?_
  rintro e W10 ⟨gs, xs, rfl, hgs, hsn⟩
  have HT10 := Lib.hid (HT9.out.next hsn.rd)
  have HW9 : Hid (w.heap.size ≤ W9.heap.size) := HT9.out.rd.but.size
  have HV1 := Lib.hid (osns_of (B := w.heap.size) hsn (by have := HW9.out; omega) HW9.out (by have := HNB.out; omega))
  have HSE : Hid (xs.map (·.1) = (snsS b n (upS 20 ls.2).2).1) := hsn.is
  have HXL : Hid (xs.length = n) := hsn.len
  clear hsn hgs HT9
  have HAL : Hid (snsS b n (upS 20 ls.2).2 = allS s) := by unfold Hid allS; rw [HBE.out, ← HLV.out, HNE.out]
  obtain ⟨ss, hss⟩ : ∃ x, snsS b n (upS 20 ls.2).2 = x := ⟨_, rfl⟩
  rw [hss] at HT10 HSE HAL
  have HSO : Hid (∀ x ∈ ss.1, okInts x.img ∧ x.img.length = b ∧ gdB x.g) := by rw [← hss]; exact snsS_ok _ _ _
  clear hss
  have q1 := HT10.out.m.cell 1
  simp only [mZ, List.getElem?_toArray, List.getElem?_cons_zero, List.getElem?_cons_succ] at q1
  have f1 := HT10.out.m.frozen 1
  have hlm := HT10.out.m.lt
  have HT11 := Lib.hid (HT10.out.set1 (.slice (some ⟨gs, 0, none⟩) n n) HV1.out)
  obtain ⟨W11, hW11⟩ : ∃ z, W10.setCell ⟨gm, 1, none⟩ (.slice (some ⟨gs, 0, none⟩) n n) = z := ⟨_, rfl⟩
  rw [hW11] at HT11
  clear HT10 HV1
  go_upto_region 6 with fail
  try rw [hW11]
  clear hW11 q1 f1 hlm
  have r0 := HT11.out.env.e.r.cell 0
  simp only [List.getElem?_toArray, List.getElem?_cons_zero, List.getElem?_cons_succ] at r0
  have hlr := HT11.out.env.e.r.lt
  go_wp2_with fail
  refine (pnum_any HT11.out.rd.ps).mono ?_
  rintro e W12 ⟨rfl, hq⟩
  have HT12 := Lib.hid (HT11.out.next hq)
  clear hq r0 hlr HT11
  have HOK : Hid (okMt0 l ss.1) := by
    have hl1 : l.length = b ∧ okInts l := by
      rw [← HLE.out, HLV.out]
      unfold liveS
      rw [HBE.out]
      exact ⟨plS_len _ _, plS_ok _ _⟩
    refine ⟨hl1.2, fun x hx => ⟨(HSO.out x hx).1, (HSO.out x hx).2.2, by have := (HSO.out x hx).2.1; have := HBB.out; omega⟩, by have := HBB.out; omega, ?_⟩
    rw [← HSE.out, List.length_map, HXL.out]
    have := HNB.out
    omega
  have HMP : Hid (mP s = ⟨l, ss.1, if (numS ss.2).1 = 1 then (toS b (numS ss.2).2).1 else tk0⟩) := by unfold Hid mP; rw [← HLV.out, ← HAL.out, HBE.out, HLE.out]
  obtain ⟨fl, hfl⟩ : ∃ x, (numS ss.2).1 = x := ⟨_, rfl⟩
  rw [hfl] at HMP ⊢
  obtain ⟨s3, hs3⟩ : ∃ x, (numS ss.2).2 = x := ⟨_, rfl⟩
  rw [hs3] at HMP HT12
  clear hfl hs3 HSO HAL HLV
  by_cases h1 : fl = 1
  · have hq : ((fl : Int) == 1) = true := by rw [h1]; rfl
    have HM2 : Hid (mP s = ⟨l, ss.1, (toS b s3).1⟩) := by unfold Hid; rw [HMP.out, if_pos h1]
    clear h1 HMP
    have r0 := HT12.out.env.e.r.cell 0
    simp only [List.getElem?_toArray, List.getElem?_cons_zero, List.getElem?_cons_succ] at r0
    have hlr := HT12.out.env.e.r.lt
    have p0 := HT12.out.env.p.cell 0
    simp only [List.getElem?_toArray, List.getElem?_cons_zero, List.getElem?_cons_succ] at p0
    have hlp := HT12.out.env.p.lt
    go_wp2_with fail
    refine (token_any (by have := HBB.out; omega) HT12.out.rd.ps HT12.out.env.e).mono ?_
    rintro e W13 ⟨gt, rfl, hgt, hgtB, hq⟩
    have HT13 := Lib.hid (HT12.out.next hq)
    have HTL : Hid ((toS b s3).1.img.length = b ∧ okInts (toS b s3).1.img ∧ (toS b s3).1.next ≤ 9 ∧ 0 ≤ (toS b s3).1.next ∧ (toS b s3).1.all ≤ 9 ∧ 0 ≤ (toS b s3).1.all) := by
      have e1 := upS_le 8 (gdS (gdS s3).2).2
      have e2 := upS_le 8 (upS 8 (gdS (gdS s3).2).2).2
      exact ⟨plS_len _ _, plS_ok _ _, by show ((upS 8 (gdS (gdS s3).2).2).1 : Int) ≤ 9; omega, by show (0 : Int) ≤ ((upS 8 (gdS (gdS s3).2).2).1 : Int); omega, by show ((upS 8 (upS 8 (gdS (gdS s3).2).2).2).1 : Int) ≤ 9; omega, by show (0 : Int) ≤ ((upS 8 (upS 8 (gdS (gdS s3).2).2).2).1 : Int); omega⟩
    have HTB := Lib.hid (toS_B b s3)
    have hv := oi_of (B := w.heap.size) hgtB (by have := HT12.out.rd.but.size; omega) (by rw [HTL.out.1]; have := HBB.out; omega)
    rw [HTL.out.1] at hv
    obtain ⟨t, ht⟩ : ∃ x, (toS b s3).1 = x := ⟨_, rfl⟩
    rw [ht] at hv HTL HTB HM2
    unfold tkC
    rw [ht, HTL.out.1]
    have HV2 := Lib.hid hv
    clear hq hv hgt hgtB r0 hlr p0 hlp HT12 ht
    have hM13 := HT13.out.m
    have m2 := hM13.cell 2
    have m3 := hM13.cell 3
    have m4 := hM13.cell 4
    have m5 := hM13.cell 5
    have m6 := hM13.cell 6
    have m7 := hM13.cell 7
    have m8 := hM13.cell 8
    simp only [mZ, List.getElem?_toArray, List.getElem?_cons_zero, List.getElem?_cons_succ] at m2 m3 m4 m5 m6 m7 m8
    have f2 := hM13.frozen 2
    have f3 := hM13.frozen 3
    have f4 := hM13.frozen 4
    have f5 := hM13.frozen 5
    have f6 := hM13.frozen 6
    have f7 := hM13.frozen 7
    have f8 := hM13.frozen 8
    have hlm := hM13.lt
    have hk := setTok_kp (v := .slice (some ⟨gt, 0, none⟩) b b) (t := t) hM13
    have HF : Hid (Fin w (setTok W13 gm (.slice (some ⟨gt, 0, none⟩) b b) t) gR gm c (.slice (some ⟨g0, 0, none⟩) b b) (.slice (some ⟨gs, 0, none⟩) n n) (.slice (some ⟨gt, 0, none⟩) b b) ⟨l, ss.1, t⟩) :=
      ⟨(setTok_rd HT13.out.rd hM13 (by have := HT13.out.rn; have := HT13.out.gn; omega)).but, HT13.out.res.of_block (setTok_oth (by have := HT13.out.gn; omega)), setTok_blk hM13,
        ⟨xs, oi_kp HT13.out.live hk (by decide), HT13.out.row.kp hk (by decide) (by decide), oi_kp HV2.out hk (by decide), HSE.out⟩,
        ⟨HOK.out, ⟨HTL.out.2.1, by show t.img.length ≤ 100; have := HTL.out.1; have := HBB.out; omega, HTB.out.1, HTB.out.2, by show i64B t.next; unfold i64B; have := HTL.out; omega, by show i64B t.all; unfold i64B; have := HTL.out; omega⟩⟩, HT13.out.rn⟩
    obtain ⟨W14, hW14⟩ : ∃ z, setTok W13 gm (.slice (some ⟨gt, 0, none⟩) b b) t = z := ⟨_, rfl⟩
    rw [hW14] at HF
    unfold setTok at hW14
    clear HT13 HV2 hk hM13
    go_upto_region 8 with fail
    try rw [hW14]
    clear hW14 m2 m3 m4 m5 m6 m7 m8 f2 f3 f4 f5 f6 f7 f8 hlm
    have m0 := HF.out.mm.cell 0
    have m1 := HF.out.mm.cell 1
    have m2 := HF.out.mm.cell 2
    have m3 := HF.out.mm.cell 3
    have m4 := HF.out.mm.cell 4
    have m5 := HF.out.mm.cell 5
    have m6 := HF.out.mm.cell 6
    have m7 := HF.out.mm.cell 7
    have m8 := HF.out.mm.cell 8
    have a0 := HF.out.res.cell 0
    have a1 := HF.out.res.cell 1
    have a2 := HF.out.res.cell 2
    have a3 := HF.out.res.cell 3
    have a4 := HF.out.res.cell 4
    have a5 := HF.out.res.cell 5
    have a6 := HF.out.res.cell 6
    have a7 := HF.out.res.cell 7
    have a8 := HF.out.res.cell 8
    simp only [mC, mZ, List.getElem?_toArray, List.getElem?_cons_zero, List.getElem?_cons_succ] at m0 m1 m2 m3 m4 m5 m6 m7 m8 a0 a1 a2 a3 a4 a5 a6 a7 a8
    have f0 := HF.out.res.frozen 0
    have f1 := HF.out.res.frozen 1
    have f2 := HF.out.res.frozen 2
    have f3 := HF.out.res.frozen 3
    have f4 := HF.out.res.frozen 4
    have f5 := HF.out.res.frozen 5
    have f6 := HF.out.res.frozen 6
    have f7 := HF.out.res.frozen 7
    have f8 := HF.out.res.frozen 8
    have hlm := HF.out.mm.lt
    have hla := HF.out.res.lt
    have HD := Lib.hid HF.out.done
    go_wp2_with fail
    show bodyPost _ _ _ _ _ (setMt W14 gR (.slice (some ⟨g0, 0, none⟩) b b) (.slice (some ⟨gs, 0, none⟩) n n) (.slice (some ⟨gt, 0, none⟩) b b) t)
    obtain ⟨WE, hWE⟩ : ∃ z, setMt W14 gR (.slice (some ⟨g0, 0, none⟩) b b) (.slice (some ⟨gs, 0, none⟩) n n) (.slice (some ⟨gt, 0, none⟩) b b) t = z := ⟨_, rfl⟩
    have HD2 := HD.out
    try dsimp only at HD2
    rw [hWE] at HD2 ⊢
    have HD3 := Lib.hid HD2
    clear HD2 hWE HD m0 m1 m2 m3 m4 m5 m6 m7 m8 a0 a1 a2 a3 a4 a5 a6 a7 a8 f0 f1 f2 f3 f4 f5 f6 f7 f8
    exact take_end (gR := gR) (v0 := .slice (some ⟨g0, 0, none⟩) b b) (v1 := .slice (some ⟨gs, 0, none⟩) n n) (v2 := (.slice (some ⟨gt, 0, none⟩) b b)) (m := ⟨l, ss.1, t⟩) _ rfl (by simp) HM2.out HD3.out
  · have hq : ((fl : Int) == 1) = false := by simp; omega
    have HM2 : Hid (mP s = ⟨l, ss.1, tk0⟩) := by unfold Hid; rw [HMP.out, if_neg h1]
    clear h1 HMP
    have HF : Hid (Fin w W12 gR gm c (.slice (some ⟨g0, 0, none⟩) b b) (.slice (some ⟨gs, 0, none⟩) n n) (.slice none 0 0) ⟨l, ss.1, tk0⟩) :=
      ⟨HT12.out.rd.but, HT12.out.res, HT12.out.m, ⟨xs, HT12.out.live, HT12.out.row, oi_nil _ _, HSE.out⟩, ⟨HOK.out, okTk00⟩, HT12.out.rn⟩
    go_upto_region 8 with fail
    have m0 := HF.out.mm.cell 0
    have m1 := HF.out.mm.cell 1
    have m2 := HF.out.mm.cell 2
    have m3 := HF.out.mm.cell 3
    have m4 := HF.out.mm.cell 4
    have m5 := HF.out.mm.cell 5
    have m6 := HF.out.mm.cell 6
    have m7 := HF.out.mm.cell 7
    have m8 := HF.out.mm.cell 8
    have a0 := HF.out.res.cell 0
    have a1 := HF.out.res.cell 1
    have a2 := HF.out.res.cell 2
    have a3 := HF.out.res.cell 3
    have a4 := HF.out.res.cell 4
    have a5 := HF.out.res.cell 5
    have a6 := HF.out.res.cell 6
    have a7 := HF.out.res.cell 7
    have a8 := HF.out.res.cell 8
    simp only [mC, mZ, List.getElem?_toArray, List.getElem?_cons_zero, List.getElem?_cons_succ] at m0 m1 m2 m3 m4 m5 m6 m7 m8 a0 a1 a2 a3 a4 a5 a6 a7 a8
    have f0 := HF.out.res.frozen 0
    have f1 := HF.out.res.frozen 1
    have f2 := HF.out.res.frozen 2
    have f3 := HF.out.res.frozen 3
    have f4 := HF.out.res.frozen 4
    have f5 := HF.out.res.frozen 5
    have f6 := HF.out.res.frozen 6
    have f7 := HF.out.res.frozen 7
    have f8 := HF.out.res.frozen 8
    have hlm := HF.out.mm.lt
    have hla := HF.out.res.lt
    have HD := Lib.hid HF.out.done
    go_wp2_with fail
    show bodyPost _ _ _ _ _ (setMt W12 gR (.slice (some ⟨g0, 0, none⟩) b b) (.slice (some ⟨gs, 0, none⟩) n n) (.slice none 0 0) tk0)
    obtain ⟨WE, hWE⟩ : ∃ z, setMt W12 gR (.slice (some ⟨g0, 0, none⟩) b b) (.slice (some ⟨gs, 0, none⟩) n n) (.slice none 0 0) tk0 = z := ⟨_, rfl⟩
    have HD2 := HD.out
    try dsimp only at HD2
    rw [hWE] at HD2 ⊢
    have HD3 := Lib.hid HD2
    clear HD2 hWE HD m0 m1 m2 m3 m4 m5 m6 m7 m8 a0 a1 a2 a3 a4 a5 a6 a7 a8 f0 f1 f2 f3 f4 f5 f6 f7 f8
    exact take_end (gR := gR) (v0 := .slice (some ⟨g0, 0, none⟩) b b) (v1 := .slice (some ⟨gs, 0, none⟩) n n) (v2 := (.slice none 0 0)) (m := ⟨l, ss.1, tk0⟩) _ rfl (by simp) HM2.out HD3.out
end Go.Proofs.Ytklmgdiaianlbaa.mt.pg


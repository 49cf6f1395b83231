/- MtShort. -/
import Derived.Test.YtklmgdiaianlbaaQ13
import Derived.Test.YtklmgdiaianlbaaQ15
import Derived.Test.YtklmgdiaianlbaaQ16
import Derived.Test.YtklmgdiaianlbaaQ6
import Derived.LoopTactic
import Derived.Laws.AppendOwn
set_option linter.unusedVariables false
set_option linter.unusedSimpArgs false
/- The statements' short: a table of its own, of no more than so many places and snapshots. -/
namespace Go.Proofs.Ytklmgdiaianlbaa.mt
open Go Go.RowKit Go.Proofs.Ytklmgdiaianlbaa.ib Go.Proofs.Ytklmgdiaianlbaa.wi
set_option maxRecDepth 100000

def endO (l : List Int) (w : World) (e : Ending) (w' : World) : Prop := ∃ v, e = .returned v ∧ OInts w' w.heap.size v l ∧ Below w.heap.size w w'
set_option maxHeartbeats 1600000 in
theorem simage_any (A : Option Addr) (c : Nat) (l : List Int) (w : World) (h : SlAt w A l c) (hl : l.length ≤ 9223372036854775807) : Calls Try.prog 39 #[.slice A l.length c] w (endO (l.take 12) w) := by
  obtain ⟨i0, hi, hz0, hz1, hz2⟩ := info_parts infoInt
  have HI := Lib.hid h
  cases A with
  | none =>
    obtain ⟨h0, rfl⟩ := h.nil rfl
    obtain rfl : l = [] := List.length_eq_zero_iff.1 h0
    clear h hl h0
    show Calls Try.prog 39 #[.slice none 0 0] w _
    go_enter Try.func39, Try.ntmps39
    go_wp2_with fail
    have hb := Blk.new w 3 #[]
    refine bodyPost_ret (v := .slice (some ⟨w.heap.size, 0, none⟩) 0 0) (by simp [results, Try.results39, go_sem] <;> omega) rfl ?_
    exact ⟨_, rfl, ⟨rfl, .inr ⟨w.heap.size, 0, #[], rfl, Nat.le_refl _, hb, Nat.le_refl _, by unfold maxLen; omega, rfl, rfl⟩⟩, (Below.refl _ w).alloc (Nat.le_refl _) _⟩
  | some a =>
    have hcap := h.cap
    have hints := h.ints
    have hlen : (l.take 12).length = min l.length 12 := by rw [List.length_take, Nat.min_comm]
    have hm : (min (l.length : Int) 12).toNat = (l.take 12).length := by rw [hlen]; omega
    have hnews : ∀ W, Below w.heap.size w W → ∀ (j : Nat) (u : Value), ((l.take 12).map (Value.int .i64))[j]? = some u → W.cell? (a.add j) = some u := by
      intro W hb j u hj
      rw [List.getElem?_map] at hj
      cases hz : (l.take 12)[j]? with
      | none => rw [hz] at hj; cases hj
      | some z =>
        rw [hz] at hj
        injection hj with hj
        subst hj
        obtain ⟨hj, rfl⟩ := List.getElem?_eq_some_iff.1 hz
        have hj' : j < l.length := by rw [hlen] at hj; omega
        obtain ⟨b, o, h1, h2, h3, _⟩ := hints j hj'
        injection h1 with h1
        subst h1
        rw [addr_add, hb.cell (p := ⟨b, o + j, none⟩) h2, h3]
        simp
    have hb1 := (Below.refl w.heap.size w).alloc (Nat.le_refl _) (.cells #[] 3)
    have hown : (w.alloc (.cells #[] 3)).ownsRow w.heap.size 3 1 (.slice (some ⟨w.heap.size, 0, none⟩) 0 0) 0 [] :=
      ⟨rfl, .inr ⟨w.heap.size, 0, #[], rfl, Nat.le_refl _, Blk.new w 3 #[], Nat.le_refl _, by unfold maxLen; omega, rfl, rfl⟩⟩
    have HNW := Lib.hid (hnews _ hb1)
    have HON : Hid (∀ u ∈ (l.take 12).map (Value.int .i64), u.oneCell' = true) := by
      intro u hu
      obtain ⟨z, _, rfl⟩ := List.mem_map.1 hu
      rfl
    have HOW := Lib.hid hown
    have HB1 := Lib.hid hb1
    have h12 : (l.take 12).length ≤ 12 := by rw [hlen]; omega
    have H12 := Lib.hid h12
    have hci : (l.length : Int) ≤ (c : Int) := by omega
    clear h hnews hb1 hown hm hints
    by_cases hq : 12 < l.length
    · have hqi : (12 : Int) < (l.length : Int) := by omega
      have hmm : min (l.length : Int) 12 = 12 := by omega
      have h12c : (12 : Int) ≤ (c : Int) := by omega
      have hl12 : min 12 l.length = 12 := by omega
      have hlt : (l.take 12).length = 12 := by rw [hlen]; omega
      clear hlen
      go_enter Try.func39, Try.ntmps39
      go_wp2_with (at_builtin; refine wpList_append_own _ rfl (.tmp 3) (.tmp 8) 22 rfl w.heap.size 3 i0 (.int .i64 0) 1 8 Try.underlying22 hi hz0 hz1 hz2 rfl (by decide) _ 0 _ rfl HOW.out a 12 c ((l.take 12).map (Value.int .i64)) rfl (by simp [hl12]) HNW.out HON.out ?_ ?_ HB1.out.size ?_)
      · unfold maxLen
        omega
      · omega
      · intro v' w1 hown hgrow _
        have hb3 : Below w.heap.size w w1 := HB1.out.trans ((but_grow (S := fun j => w.heap.size ≤ j) (But.refl _ _) hgrow (fun k hk => .inl (HOW.out.lt k hk).1)).below (fun i hi => hi) HB1.out.size)
        have HB3 := Lib.hid hb3
        have HOV : Hid (OInts w1 w.heap.size v' (l.take 12)) := by
          unfold Hid OInts
          rw [hlt]
          simpa using hown
        clear hown hgrow hb3 HOW HNW HON
        go_wp2_with fail
        go_ret
        exact ⟨_, rfl, HOV.out, HB3.out⟩
    · have hqi : ¬ (12 : Int) < (l.length : Int) := by omega
      have hmm : min (l.length : Int) 12 = (l.length : Int) := by omega
      have hl12 : min 12 l.length = l.length := by omega
      have hlt : (l.take 12).length = l.length := by rw [hlen]; omega
      clear hlen
      go_enter Try.func39, Try.ntmps39
      go_wp2_with (at_builtin; refine wpList_append_own _ rfl (.tmp 3) (.tmp 8) 22 rfl w.heap.size 3 i0 (.int .i64 0) 1 8 Try.underlying22 hi hz0 hz1 hz2 rfl (by decide) _ 0 _ rfl HOW.out a l.length c ((l.take 12).map (Value.int .i64)) rfl (by simp [hl12]) HNW.out HON.out ?_ ?_ HB1.out.size ?_)
      · unfold maxLen
        omega
      · omega
      · intro v' w1 hown hgrow _
        have hb3 : Below w.heap.size w w1 := HB1.out.trans ((but_grow (S := fun j => w.heap.size ≤ j) (But.refl _ _) hgrow (fun k hk => .inl (HOW.out.lt k hk).1)).below (fun i hi => hi) HB1.out.size)
        have HB3 := Lib.hid hb3
        have HOV : Hid (OInts w1 w.heap.size v' (l.take 12)) := by
          unfold Hid OInts
          rw [hlt]
          simpa using hown
        clear hown hgrow hb3 HOW HNW HON
        go_wp2_with fail
        go_ret
        exact ⟨_, rfl, HOV.out, HB3.out⟩

def S2G (g0 Bz Bg : Nat) (A0 A2 : Option Addr) (d0 d2 : Nat) (m : Mt) (lt : List Int) : Nat → Value → World → Prop
  | 0, v, _ => v = .func (.func 39) #[] #[]
  | 1, v, _ => v = .pointer (some ⟨g0, 0, none⟩)
  | 2, v, _ => v = .slice A0 m.live.length d0
  | 3, v, W => ∃ A e, v = .slice A lt.length e ∧ OInts W Bz (.slice A lt.length e) lt
  | 4, v, _ => v = .pointer (some ⟨g0, 2, none⟩)
  | 5, v, _ => v = .agg #[.int .u64 (m.tok.base.1 : Int), .int .u64 (m.tok.base.2 : Int), .int .u64 (m.tok.target.1 : Int), .int .u64 (m.tok.target.2 : Int), .int .i64 m.tok.next, .int .i64 m.tok.all, .slice A2 m.tok.img.length d2]
  | 6, v, W => ∃ A e, v = .agg #[.slice A lt.length e, .slice none 0 0, .int .u64 (m.tok.base.1 : Int), .int .u64 (m.tok.base.2 : Int), .int .u64 (m.tok.target.1 : Int), .int .u64 (m.tok.target.2 : Int), .int .i64 m.tok.next, .int .i64 m.tok.all, .slice A2 m.tok.img.length d2] ∧ OInts W Bz (.slice A lt.length e) lt
  | 7, v, W => ∃ g, v = .pointer (some ⟨g, 0, none⟩) ∧ Bg ≤ g ∧ Blk W g 30 #[.slice none 0 0, .slice none 0 0, .int .u64 0, .int .u64 0, .int .u64 0, .int .u64 0, .int .i64 0, .int .i64 0, .slice none 0 0]
  | _, _, _ => True
theorem S2G_mono (g0 Bz Bg : Nat) (A0 A2 : Option Addr) (d0 d2 : Nat) (m : Mt) (lt : List Int) (i : Nat) (v : Value) (w w' : World) (hi : i < 8) (h : S2G g0 Bz Bg A0 A2 d0 d2 m lt i v w) (hb : Below w.heap.size w w') : S2G g0 Bz Bg A0 A2 d0 d2 m lt i v w' := by
  match i, hi, h with
  | 0, _, h | 1, _, h | 2, _, h | 4, _, h | 5, _, h => exact h
  | 3, _, ⟨A, e, hv, h2⟩ => exact ⟨A, e, hv, oi_below h2 hb⟩
  | 6, _, ⟨A, e, hv, h2⟩ => exact ⟨A, e, hv, oi_below h2 hb⟩
  | 7, _, ⟨g, hv, ⟨h2, h3⟩⟩ => exact ⟨g, hv, ⟨h2, h3.below hb⟩⟩
  | j + 8, hi, _ => exact absurd hi (by omega)

def sCut (x : Sp) : Sp := ⟨x.g, x.img.take 12, x.hid⟩
def mShort (m : Mt) : Mt := ⟨m.live.take 12, (m.snaps.take 30).map sCut, ⟨m.tok.base, m.tok.target, m.tok.next, m.tok.all, m.tok.img.take 12⟩⟩
theorem fin_at {w W : World} {gr : Nat} {v0 v1 v2 u0 u1 u2 : Value} {l : List Int} {xs : List OSn} {t t' : Tk} (h0 : OInts W w.heap.size v0 l) (h1 : OSns W w.heap.size v1 xs) (h2 : OInts W w.heap.size v2 t.img) (hr : Blk W gr 30 (mC u0 u1 u2 t')) (hg : w.heap.size ≤ gr) (hb : Below w.heap.size w W)
    (hz0 : ∀ z ∈ l, i64B z) (hz1 : ∀ x ∈ xs, (∀ z ∈ x.1.img, i64B z) ∧ gdB x.1.g) (hz2 : ∀ z ∈ t.img, i64B z) (hba : gdB t.base) (hta : gdB t.target) (hn : i64B t.next) (ha : i64B t.all) :
    Blk (setMt W gr v0 v1 v2 t) gr 30 (mC v0 v1 v2 t) ∧ MtAt (setMt W gr v0 v1 v2 t) (.agg (mC v0 v1 v2 t)) ⟨l, xs.map (·.1), t⟩ ∧ Below w.heap.size w (setMt W gr v0 v1 v2 t) := by
  have hk := setMt_kp (v0 := v0) (v1 := v1) (v2 := v2) (t := t) hr
  refine ⟨setMt_blk hr, ?_, setMt_below hb hg⟩
  obtain ⟨A0, c0, rfl, g0⟩ := oi_sl (oi_kp h0 hk (by decide)) hz0
  obtain ⟨A2, c2, rfl, g2⟩ := oi_sl (oi_kp h2 hk (by decide)) hz2
  obtain ⟨A1, c1, rfl, g1, hr'⟩ := (h1.kp hk (by decide) (by decide)).view (fun x hx => (hz1 x hx).1) (fun x hx => (hz1 x hx).2)
  exact ⟨A0, A1, A2, c0, c1, c2, rfl, g0, g1, hr', g2, hba, hta, hn, ha⟩
/-- Its numbers are numbers. -/
structure mtBd (m : Mt) : Prop where
  live : ∀ z ∈ m.live, i64B z
  snaps : ∀ x ∈ m.snaps, (∀ z ∈ x.img, i64B z) ∧ gdB x.g
  img : ∀ z ∈ m.tok.img, i64B z
  base : gdB m.tok.base
  target : gdB m.tok.target
  next : i64B m.tok.next
  all : i64B m.tok.all
theorem MtAt.bd {w : World} {v : Value} {m : Mt} (h : MtAt w v m) : mtBd m := by
  obtain ⟨A0, A1, A2, c0, c1, c2, rfl, h⟩ := h
  refine ⟨h.live.ints.mem, fun x hx => ?_, h.img.ints.mem, h.base, h.target, h.next, h.all⟩
  obtain ⟨j, hj, rfl⟩ := List.getElem_of_mem hx
  obtain ⟨_, _, _, _, _, _, _, _, _, _, hsl, hgd⟩ := h.snaps j hj
  exact ⟨hsl.ints.mem, hgd⟩
/-- A table whose lists the call made, in blocks from B on. -/
def MtO (W : World) (B : Nat) (v : Value) (m : Mt) : Prop := ∃ v0 v1 v2 xs, v = .agg (mC v0 v1 v2 m.tok) ∧ OInts W B v0 m.live ∧ OSns W B v1 xs ∧ xs.map (·.1) = m.snaps ∧ OInts W B v2 m.tok.img ∧ mtBd m
section
variable {W W' : World} {B : Nat} {v : Value} {m : Mt} {r : TypeId}
theorem MtO.at_ (h : MtO W B v m) : MtAt W v m := by
  obtain ⟨v0, v1, v2, xs, rfl, h0, h1, hx, h2, hb⟩ := h
  obtain ⟨A0, c0, rfl, g0⟩ := oi_sl h0 hb.live
  obtain ⟨A2, c2, rfl, g2⟩ := oi_sl h2 hb.img
  have hs : ∀ x ∈ xs, (∀ z ∈ x.1.img, i64B z) ∧ gdB x.1.g := fun x hx' => hb.snaps _ (by rw [← hx]; exact List.mem_map_of_mem hx')
  obtain ⟨A1, c1, rfl, g1, hr'⟩ := h1.view (fun x hx => (hs x hx).1) (fun x hx => (hs x hx).2)
  rw [hx] at g1 hr' ⊢
  exact ⟨A0, A1, A2, c0, c1, c2, rfl, g0, g1, hr', g2, hb.base, hb.target, hb.next, hb.all⟩
theorem MtO.kp (h : MtO W B v m) (hk : Kp r W W') (h1 : 3 ≠ r) (h2 : 48 ≠ r) : MtO W' B v m := by
  obtain ⟨v0, v1, v2, xs, rfl, g0, g1, hx, g2, hb⟩ := h
  exact ⟨v0, v1, v2, xs, rfl, oi_kp g0 hk h1, g1.kp hk h2 h1, hx, oi_kp g2 hk h1, hb⟩
theorem MtO.below (h : MtO W B v m) (hb : Below W.heap.size W W') : MtO W' B v m := h.kp (r := 1000000) (Kp.of_below hb) (by decide) (by decide)
end
/-- No two rows of places lie in one block. -/
def apart (vs : List Value) : Prop := vs.Pairwise fun a b => ∀ j, a.ownBlock = some j → b.ownBlock ≠ some j
theorem apart.snoc {vs : List Value} {u : Value} {B : Nat} (h : apart vs) (hl : ∀ a ∈ vs, ∀ j, a.ownBlock = some j → j < B) (hu : ∀ j, u.ownBlock = some j → B ≤ j) : apart (vs ++ [u]) := by
  unfold apart
  rw [List.pairwise_append]
  refine ⟨h, List.pairwise_singleton _ _, fun a ha b hb j hj e => ?_⟩
  obtain rfl : b = u := by simpa using hb
  have := hl a ha j hj
  have := hu j e
  omega
/-- A table whose lists the call made, each in a block of its own. -/
def MtF (W : World) (B : Nat) (v : Value) (m : Mt) : Prop := ∃ v0 v1 v2 xs, v = .agg (mC v0 v1 v2 m.tok) ∧ OInts W B v0 m.live ∧ OSns W B v1 xs ∧ xs.map (·.1) = m.snaps ∧ OInts W B v2 m.tok.img ∧ mtBd m ∧ apart (v0 :: v2 :: xs.map (·.2))
theorem MtF.o {W : World} {B : Nat} {v : Value} {m : Mt} (h : MtF W B v m) : MtO W B v m := by
  obtain ⟨v0, v1, v2, xs, h1, h2, h3, h4, h5, h6, _⟩ := h
  exact ⟨v0, v1, v2, xs, h1, h2, h3, h4, h5, h6⟩
def endVF (m : Mt) (w : World) (e : Ending) (w' : World) : Prop := ∃ v, e = .returned v ∧ MtF w' w.heap.size v m ∧ Below w.heap.size w w'
def endVO (m : Mt) (w : World) (e : Ending) (w' : World) : Prop := ∃ v, e = .returned v ∧ MtO w' w.heap.size v m ∧ Below w.heap.size w w'
structure SS (w W : World) (g0 gr gm : Nat) (cs : Array Value) (v0 v1 v2 : Value) (l : List Int) (xs : List OSn) (t : Tk) : Prop where
  below : Below w.heap.size w W
  box : Blk W g0 30 cs
  res : Blk W gr 30 (mC nlS nlS nlS tk0)
  m : Blk W gm 30 (mC v0 v1 v2 t)
  live : OInts W w.heap.size v0 l
  row : OSns W w.heap.size v1 xs
  n0 : g0 ≠ gm
  nr : gr ≠ gm
  n1 : g0 ≠ gr
  lr : w.heap.size ≤ gr
  lm : w.heap.size ≤ gm
section
variable {w W W' : World} {g0 gr gm : Nat} {cs : Array Value} {v0 v1 v2 : Value} {l : List Int} {xs : List OSn} {t : Tk}
theorem SS.grow (h : SS w W g0 gr gm cs v0 v1 v2 l xs t) (hb : Below W.heap.size W W') : SS w W' g0 gr gm cs v0 v1 v2 l xs t :=
  ⟨below_step h.below hb, h.box.below hb, h.res.below hb, h.m.below hb, oi_below h.live hb, h.row.below hb, h.n0, h.nr, h.n1, h.lr, h.lm⟩
theorem SS.kp {r : TypeId} (h : SS w W g0 gr gm cs v0 v1 v2 l xs t) (hk : Kp r W W') (hb : Below w.heap.size w W') (h1 : 30 ≠ r) (h2 : 3 ≠ r) (h3 : 48 ≠ r) : SS w W' g0 gr gm cs v0 v1 v2 l xs t :=
  ⟨hb, hk _ _ _ h1 h.box, hk _ _ _ h1 h.res, hk _ _ _ h1 h.m, oi_kp h.live hk h2, h.row.kp hk h3 h2, h.n0, h.nr, h.n1, h.lr, h.lm⟩
theorem SS.set1 {v2' : Value} (h : SS w W g0 gr gm cs v0 v1 v2 l xs t) (u : Value) (hm : (mC v0 v1 v2 t).setIfInBounds 8 u = mC v0 v1 v2' t) : SS w (W.setCell ⟨gm, 8, none⟩ u) g0 gr gm cs v0 v1 v2' l xs t := by
  have hk2 := Kp.of_set 8 u h.m
  refine ⟨h.below.setCell (p := ⟨gm, 8, none⟩) h.lm u, h.box.of_block (set_oth _ _ _ _ _ h.n0), h.res.of_block (set_oth _ _ _ _ _ h.nr), ?_, oi_kp h.live hk2 (by decide), h.row.kp hk2 (by decide) (by decide), h.n0, h.nr, h.n1, h.lr, h.lm⟩
  rw [← hm]
  exact h.m.set_ 8 u
theorem SS.loc {g : Nat} {x : Array Value} (h : SS w W g0 gr gm cs v0 v1 v2 l xs t) (hg : Blk W g 48 x) (hne : ∀ j, v1.ownBlock = some j → j ≠ g) (hl : w.heap.size ≤ g) (k : Nat) (u : Value) : SS w (W.setCell ⟨g, k, none⟩ u) g0 gr gm cs v0 v1 v2 l xs t := by
  have hk := Kp.of_set k u hg
  exact ⟨h.below.setCell (p := ⟨g, k, none⟩) hl u, hk _ _ _ (by decide) h.box, hk _ _ _ (by decide) h.res, hk _ _ _ (by decide) h.m, oi_kp h.live hk (by decide), ⟨row_of_block h.row.1 (fun j hj => set_oth _ _ _ _ _ (hne j hj)), fun y hy => oi_kp (h.row.2 y hy) hk (by decide)⟩, h.n0, h.nr, h.n1, h.lr, h.lm⟩
theorem SS.push {w1 : World} {v' u : Value} {x : Sp} (h : SS w W g0 gr gm cs v0 v1 v2 l xs t) (hu : OInts W w.heap.size u x.img)
    (hown : w1.ownsRow w.heap.size 48 4 v' (xs.length + 1) (spRow xs ++ spV (x, u))) (hg : W.grownBy w1 v1.ownBlock) :
    SS w (w1.setCell ⟨gm, 1, none⟩ v') g0 gr gm cs v0 v' v2 l (xs ++ [(x, u)]) t := by
  have hk := Kp.of_grown hg h.row.1
  have hlo : ∀ j, v1.ownBlock = some j → w.heap.size ≤ j := fun j hj => (h.row.1.lt j hj).1
  have hb1 : Below w.heap.size w w1 := h.below.trans ((but_grow (S := fun j => v1.ownBlock = some j) (But.refl _ W) hg (fun k hk => .inl hk)).below hlo h.below.size)
  have hm := hk _ _ _ (by decide) h.m
  have hk2 := Kp.of_set 1 v' hm
  refine ⟨hb1.setCell (p := ⟨gm, 1, none⟩) h.lm v', (hk _ _ _ (by decide) h.box).of_block (set_oth _ _ _ _ _ h.n0), (hk _ _ _ (by decide) h.res).of_block (set_oth _ _ _ _ _ h.nr), hm.set_ 1 v', oi_kp (oi_kp h.live hk (by decide)) hk2 (by decide), ⟨?_, fun y hy => ?_⟩, h.n0, h.nr, h.n1, h.lr, h.lm⟩
  · rw [List.length_append, spRow_append, spRow_one]
    exact hk2.row (by decide) hown
  · rcases List.mem_append.1 hy with hy | hy
    · exact oi_kp (oi_kp (h.row.2 y hy) hk (by decide)) hk2 (by decide)
    · obtain rfl : y = (x, u) := by simpa using hy
      exact oi_kp (oi_kp hu hk (by decide)) hk2 (by decide)
end
def ShRel (w : World) (g0 gr gm : Nat) (cs : Array Value) (v0 v2 : Value) (l l2 : List Int) (ys : List Sp) (t : Tk) (N : Nat) (i : Value) (wr : World) : Prop :=
  ∃ (k : Nat) (v1 : Value) (xs : List OSn), k ≤ N ∧ i = .int .i64 (k : Int) ∧ xs.map (·.1) = (ys.take k).map sCut ∧ SS w wr g0 gr gm cs v0 v1 v2 l xs t ∧ OInts wr w.heap.size v2 l2 ∧ apart (v0 :: v2 :: xs.map (·.2))
set_option maxHeartbeats 6400000 in
theorem short_f (v : Value) (m : Mt) (w : World) (h : MtAt w v m) (hw : mtW m) : Calls Try.prog 9 #[v] w (endVF (mShort m) w) := by
  obtain ⟨A0, A1, A2, d0, d1, d2, rfl, hm⟩ := h
  have HM := Lib.hid hm
  have HW := Lib.hid hw
  clear hm hw
  have hb1 := (Below.refl w.heap.size w).alloc (Nat.le_refl _) (.cells (mtC A0 A1 A2 d0 d1 d2 m) 30)
  have ha1 := Blk.new w 30 (mtC A0 A1 A2 d0 d1 d2 m)
  obtain ⟨W1, hW1⟩ : ∃ z, w.alloc (.cells (mtC A0 A1 A2 d0 d1 d2 m) 30) = z := ⟨_, rfl⟩
  rw [hW1] at hb1 ha1
  have hbb := (Below.refl _ W1).alloc (Nat.le_refl _) (.cells #[.slice none 0 0, .slice none 0 0, .int .u64 0, .int .u64 0, .int .u64 0, .int .u64 0, .int .i64 0, .int .i64 0, .slice none 0 0] 30)
  have hr2 : Blk _ W1.heap.size 30 (mC nlS nlS nlS tk0) := Blk.new W1 30 #[.slice none 0 0, .slice none 0 0, .int .u64 0, .int .u64 0, .int .u64 0, .int .u64 0, .int .i64 0, .int .i64 0, .slice none 0 0]
  obtain ⟨W2, hW2⟩ : ∃ z, W1.alloc (.cells #[.slice none 0 0, .slice none 0 0, .int .u64 0, .int .u64 0, .int .u64 0, .int .u64 0, .int .i64 0, .int .i64 0, .slice none 0 0] 30) = z := ⟨_, rfl⟩
  rw [hW2] at hr2 hbb
  have HB := Lib.hid (below_step hb1 hbb)
  have HA := Lib.hid (ha1.below hbb)
  have HR := Lib.hid hr2
  have hgr : w.heap.size < W1.heap.size := ha1.lt
  clear hb1 ha1 hbb hr2
  show Calls Try.prog 9 #[.agg (mtC A0 A1 A2 d0 d1 d2 m)] w _
  unfold mtC at hW1 ⊢
  go_enter Try.func9, Try.ntmps9
  go_wp2_with fail
  try rw [hW2]
  clear hW2 hW1
  have HGR := Lib.hid hgr
  obtain ⟨gr, hgr'⟩ : ∃ z, W1.heap.size = z := ⟨_, rfl⟩
  rw [hgr'] at HR HGR ⊢
  clear hgr hgr'
  obtain ⟨lt, hlt⟩ : ∃ z, m.live.take 12 = z := ⟨_, rfl⟩
  have HSI : Hid (∀ W, Below W2.heap.size W2 W → Calls Try.prog 39 #[.slice A0 m.live.length d0] W fun e W' => ∃ A d, e = .returned (.slice A lt.length d) ∧ OInts W' w.heap.size (.slice A lt.length d) lt ∧ Below W.heap.size W W') := fun W hb => by
    have hb2 := HB.out.trans (hb.mono HB.out.size)
    refine (simage_any A0 d0 m.live W (HM.out.live.below hb2) HW.out.live).mono ?_
    rintro e W' ⟨v, rfl, ho, hbo⟩
    rw [hlt] at ho
    obtain ⟨A, d, rfl⟩ := own_form ho
    exact ⟨A, d, rfl, row_base ho hb2.size, hbo⟩
  have HLT := Lib.hid hlt
  clear hlt
  refine wp_region_pre (by kernel_rfl) 8 [7, 8, 9, 10, 11, 12, 13, 4] (by kernel_rfl) (fun L vs W => Below W2.heap.size W2 W ∧ ∀ i, L i = true → i < 8 → S2G w.heap.size w.heap.size W2.heap.size A0 A2 d0 d2 m lt i (vs i) W) ⟨(Below.refl _ _).drew, fun i hi => by cases hi⟩ ?_ ?_
  · intro i o L vs ρ W hi51 ho hli haft hρ hI
    obtain ⟨hb, hG'⟩ := hI
    have hG : ∀ j, L j = true → S2G w.heap.size w.heap.size W2.heap.size A0 A2 d0 d2 m lt j (vs j) W := fun j hj => by
      by_cases h51 : j < 8
      · exact hG' j hj h51
      · match j, h51 with
        | j + 8, _ => exact trivial
    have hc := hρ.const
    have hfn := hρ.fn
    have next : ∀ v W', Below W.heap.size W W' → S2G w.heap.size w.heap.size W2.heap.size A0 A2 d0 d2 m lt i v W' → Below W2.heap.size W2 W' ∧ ∀ j, updB L i j = true → j < 8 → S2G w.heap.size w.heap.size W2.heap.size A0 A2 d0 d2 m lt j (updV vs i v j) W' := fun v W' h1 h2 => by
      refine ⟨below_step hb h1, fun j hj h51 => ?_⟩
      by_cases hji : j = i
      · subst hji
        simpa [updV] using h2
      · simp only [updB, if_neg hji] at hj
        simpa [updV, hji] using S2G_mono w.heap.size w.heap.size W2.heap.size A0 A2 d0 d2 m lt j _ W W' h51 (hG' j hj h51) h1
    have hA := HA.out.below hb
    have a0 := hA.cell 0
    have a2 := hA.cell 2
    have a3 := hA.cell 3
    have a4 := hA.cell 4
    have a5 := hA.cell 5
    have a6 := hA.cell 6
    have a7 := hA.cell 7
    have a8 := hA.cell 8
    have hla := hA.lt
    simp only [mtC, List.getElem?_toArray, List.getElem?_cons_zero, List.getElem?_cons_succ] at a0 a2 a3 a4 a5 a6 a7 a8
    rcases i with _ | _ | _ | _ | _ | _ | _ | _ | i
    all_goals (first | omega | skip)
    all_goals simp only [List.getElem?_toArray, List.getElem?_cons_zero, List.getElem?_cons_succ, Option.some.injEq] at ho
    all_goals subst ho
    · have o3 : ρ (.tmp 3) = .func (.func 39) #[] #[] := hρ.out 3 rfl
      exact stepTo_value (w' := W) (by unfold execOp; simp only [o3, hc]; go_simp) (next _ _ (Below.refl _ _) rfl)
    · have o1 : ρ (.tmp 1) = .pointer (some ⟨w.heap.size, 0, none⟩) := hρ.out 1 rfl
      exact stepTo_value (w' := W) (by unfold execOp; simp only [o1, hc]; go_simp) (next _ _ (Below.refl _ _) rfl)
    · have g8 : S2G w.heap.size w.heap.size W2.heap.size A0 A2 d0 d2 m lt 1 (vs 1) W := hG 1 (haft 1 (by kernel_rfl))
      have s8 : ρ (.tmp 8) = .pointer (some ⟨w.heap.size, 0, none⟩) := (hρ.at_ 8 1 rfl).trans g8
      exact stepTo_value (w' := W) (by unfold execOp; simp only [s8, hc]; go_simp) (next _ _ (Below.refl _ _) rfl)
    · have g7 : S2G w.heap.size w.heap.size W2.heap.size A0 A2 d0 d2 m lt 0 (vs 0) W := hG 0 (haft 0 (by kernel_rfl))
      have s7 : ρ (.tmp 7) = .func (.func 39) #[] #[] := (hρ.at_ 7 0 rfl).trans g7
      have g9 : S2G w.heap.size w.heap.size W2.heap.size A0 A2 d0 d2 m lt 2 (vs 2) W := hG 2 (haft 2 (by kernel_rfl))
      have s9 : ρ (.tmp 9) = .slice A0 m.live.length d0 := (hρ.at_ 9 2 rfl).trans g9
      refine stepTo_enter (f := 39) (args := #[.slice A0 m.live.length d0]) (w' := W) (by unfold execOp; simp only [hfn, s7, s9]; go_simp) ((HSI.out W hb).mono ?_)
      rintro x W' ⟨A3, e3, rfl, ho3, hb'⟩
      exact ⟨_, rfl, next _ _ hb' ⟨A3, e3, rfl, ho3⟩⟩
    · have o1 : ρ (.tmp 1) = .pointer (some ⟨w.heap.size, 0, none⟩) := hρ.out 1 rfl
      exact stepTo_value (w' := W) (by unfold execOp; simp only [o1, hc]; go_simp) (next _ _ (Below.refl _ _) rfl)
    · have g11 : S2G w.heap.size w.heap.size W2.heap.size A0 A2 d0 d2 m lt 4 (vs 4) W := hG 4 (haft 4 (by kernel_rfl))
      have s11 : ρ (.tmp 11) = .pointer (some ⟨w.heap.size, 2, none⟩) := (hρ.at_ 11 4 rfl).trans g11
      exact stepTo_value (w' := W) (by unfold execOp; simp only [s11, hc]; go_simp) (next _ _ (Below.refl _ _) rfl)
    · obtain ⟨A10, e10, g10, hh102⟩ : S2G w.heap.size w.heap.size W2.heap.size A0 A2 d0 d2 m lt 3 (vs 3) W := hG 3 (haft 3 (by kernel_rfl))
      have s10 : ρ (.tmp 10) = .slice A10 lt.length e10 := (hρ.at_ 10 3 rfl).trans g10
      have g12 : S2G w.heap.size w.heap.size W2.heap.size A0 A2 d0 d2 m lt 5 (vs 5) W := hG 5 (haft 5 (by kernel_rfl))
      have s12 : ρ (.tmp 12) = .agg #[.int .u64 (m.tok.base.1 : Int), .int .u64 (m.tok.base.2 : Int), .int .u64 (m.tok.target.1 : Int), .int .u64 (m.tok.target.2 : Int), .int .i64 m.tok.next, .int .i64 m.tok.all, .slice A2 m.tok.img.length d2] := (hρ.at_ 12 5 rfl).trans g12
      exact stepTo_value (v := .agg #[.slice A10 lt.length e10, .slice none 0 0, .int .u64 (m.tok.base.1 : Int), .int .u64 (m.tok.base.2 : Int), .int .u64 (m.tok.target.1 : Int), .int .u64 (m.tok.target.2 : Int), .int .i64 m.tok.next, .int .i64 m.tok.all, .slice A2 m.tok.img.length d2]) (w' := W) (by unfold execOp; simp only [s10, s12, hc]; go_simp) (next _ _ (Below.refl _ _) ⟨A10, e10, rfl, hh102⟩)
    · exact stepTo_value (v := .pointer (some ⟨W.heap.size, 0, none⟩)) (w' := W.alloc (.cells #[.slice none 0 0, .slice none 0 0, .int .u64 0, .int .u64 0, .int .u64 0, .int .u64 0, .int .i64 0, .int .i64 0, .slice none 0 0] 30)) (by unfold execOp; simp only [hc]; go_simp) (next _ _ ((Below.refl _ W).alloc (Nat.le_refl _) (.cells #[.slice none 0 0, .slice none 0 0, .int .u64 0, .int .u64 0, .int .u64 0, .int .u64 0, .int .i64 0, .int .i64 0, .slice none 0 0] 30)) ⟨W.heap.size, rfl, hb.size, Blk.new _ _ _⟩)
  · intro L vs W3 hL hI
    obtain ⟨hb, hG⟩ := hI
    obtain ⟨A, e, g6, hoi⟩ : ∃ A e, vs 6 = .agg #[.slice A lt.length e, .slice none 0 0, .int .u64 (m.tok.base.1 : Int), .int .u64 (m.tok.base.2 : Int), .int .u64 (m.tok.target.1 : Int), .int .u64 (m.tok.target.2 : Int), .int .i64 m.tok.next, .int .i64 m.tok.all, .slice A2 m.tok.img.length d2] ∧ OInts W3 w.heap.size (.slice A lt.length e) lt := hG 6 (hL 6 (by decide)) (by decide)
    obtain ⟨gm, g7, hgm, hbm⟩ : ∃ g, vs 7 = .pointer (some ⟨g, 0, none⟩) ∧ W2.heap.size ≤ g ∧ Blk W3 g 30 #[.slice none 0 0, .slice none 0 0, .int .u64 0, .int .u64 0, .int .u64 0, .int .u64 0, .int .i64 0, .int .i64 0, .slice none 0 0] := hG 7 (hL 7 (by decide)) (by decide)
    have hlr := HR.out.lt
    have hla := HA.out.lt
    have hS0 : SS w W3 w.heap.size gr gm (mtC A0 A1 A2 d0 d1 d2 m) nlS nlS nlS lt [] tk0 → True := fun _ => trivial
    have hbm' : Blk W3 gm 30 (mC nlS nlS nlS tk0) := hbm
    have hSS : SS w (setMt W3 gm (.slice A lt.length e) nlS (.slice A2 m.tok.img.length d2) m.tok) w.heap.size gr gm (mtC A0 A1 A2 d0 d1 d2 m) (.slice A lt.length e) nlS (.slice A2 m.tok.img.length d2) lt [] m.tok := by
      have hk := setMt_kp (v0 := .slice A lt.length e) (v1 := nlS) (v2 := .slice A2 m.tok.img.length d2) (t := m.tok) hbm'
      have hoth : ∀ j, j ≠ gm → (setMt W3 gm (.slice A lt.length e) nlS (.slice A2 m.tok.img.length d2) m.tok).heap[j]? = W3.heap[j]? := fun j hj => by
        unfold setMt setTok
        simp only [set_oth _ _ _ _ _ hj]
      have hng : w.heap.size ≠ gm := by omega
      have hnr : gr ≠ gm := by omega
      exact ⟨setMt_below (HB.out.trans (hb.mono HB.out.size)) (by have := HB.out.size; omega), (HA.out.below hb).of_block (hoth _ hng), (HR.out.below hb).of_block (hoth _ hnr), setMt_blk hbm', oi_kp hoi hk (by decide), OSns.nil _ _, hng, hnr, by have := HGR.out; omega, by have := HGR.out; omega, by have := HB.out.size; omega⟩
    have m0 := hbm.cell 0
    have m1 := hbm.cell 1
    have m2 := hbm.cell 2
    have m3 := hbm.cell 3
    have m4 := hbm.cell 4
    have m5 := hbm.cell 5
    have m6 := hbm.cell 6
    have m7 := hbm.cell 7
    have m8 := hbm.cell 8
    simp only [List.getElem?_toArray, List.getElem?_cons_zero, List.getElem?_cons_succ] at m0 m1 m2 m3 m4 m5 m6 m7 m8
    have f0 := hbm.frozen 0
    have f1 := hbm.frozen 1
    have f2 := hbm.frozen 2
    have f3 := hbm.frozen 3
    have f4 := hbm.frozen 4
    have f5 := hbm.frozen 5
    have f6 := hbm.frozen 6
    have f7 := hbm.frozen 7
    have f8 := hbm.frozen 8
    have hltm := hbm.lt
    have HSS := Lib.hid hSS
    clear hL hG hS0 hSS hbm hbm' hoi hgm hlr hla hb
    simp only [putList, putSel, if_true]
    rw [g6, g7]
    generalize vs 0 = z0
    generalize vs 1 = z1
    generalize vs 2 = z2
    generalize vs 3 = z3
    generalize vs 4 = z4
    generalize vs 5 = z5
    clear g6 g7
    simp only [Act.put, List.setIfInBounds_toArray, List.set_cons_succ, List.set_cons_zero]
    refine wpAny_one (i := 8) (by kernel_rfl) rfl rfl ?_
    go_simp
    refine ⟨by kernel_rfl, ?_⟩
    clear m0 m1 m2 m3 m4 m5 m6 m7 m8 f0 f1 f2 f3 f4 f5 f6 f7 f8 hltm
    show Exit.then _ _ Exit.normal _ (setMt W3 gm (.slice A lt.length e) nlS (.slice A2 m.tok.img.length d2) m.tok)
    obtain ⟨W4, hW4⟩ : ∃ z, setMt W3 gm (.slice A lt.length e) nlS (.slice A2 m.tok.img.length d2) m.tok = z := ⟨_, rfl⟩
    rw [hW4] at HSS ⊢
    clear hW4 HSI HB HA HR HGR
    have hbx := HSS.out.box
    have a1 := hbx.cell 1
    have a8 := hbx.cell 8
    simp only [mtC, List.getElem?_toArray, List.getElem?_cons_zero, List.getElem?_cons_succ] at a1 a8
    have hla := hbx.lt
    clear hbx
    go_wp2_with fail
    refine (simage_any A2 d2 m.tok.img W4 (HM.out.img.below HSS.out.below) HW.out.img).mono ?_
    rintro e5 W5 ⟨v5, rfl, ho5, hb5⟩
    obtain ⟨t5, ht5⟩ : ∃ z, m.tok.img.take 12 = z := ⟨_, rfl⟩
    rw [ht5] at ho5
    have HT5 := Lib.hid ht5
    clear ht5
    obtain ⟨A5, d5, rfl⟩ := own_form ho5
    have hs5 := HSS.out.grow hb5
    have HO5 := Lib.hid (row_base ho5 HSS.out.below.size)
    have hap : apart [.slice A lt.length e, .slice A5 t5.length d5] := apart.snoc (List.pairwise_singleton _ _) (B := W4.heap.size) (fun a ha j hj => by
      obtain rfl : a = _ := by simpa using ha
      exact (HSS.out.live.lt j hj).2) (fun j hj => (ho5.lt j hj).1)
    have HAP := Lib.hid hap
    clear hap
    have m8 := hs5.m.cell 8
    simp only [mC, List.getElem?_toArray, List.getElem?_cons_zero, List.getElem?_cons_succ] at m8
    have f8 := hs5.m.frozen 8
    have hltm := hs5.m.lt
    have HS5 := Lib.hid hs5
    clear ho5 hb5 HSS a1 a8 hla hs5
    dsimp only
    go_wp2_with fail
    clear m8 f8 hltm
    have HS6 := Lib.hid (HS5.out.set1 (v2' := .slice A5 t5.length d5) (.slice A5 t5.length d5) rfl)
    have HO6 := Lib.hid (oi_kp HO5.out (Kp.of_set 8 (.slice A5 t5.length d5) HS5.out.m) (by decide))
    obtain ⟨W6, hW6⟩ : ∃ z, W5.setCell ⟨gm, 8, none⟩ (.slice A5 t5.length d5) = z := ⟨_, rfl⟩
    rw [hW6] at HS6 HO6 ⊢
    clear hW6 HS5 HO5
    obtain ⟨n, hn⟩ : ∃ n, m.snaps.length = n := ⟨_, rfl⟩
    have HLN := Lib.hid hn
    obtain ⟨N, hN⟩ : ∃ N, min n 30 = N := ⟨_, rfl⟩
    have HNN := Lib.hid hN
    have hn64 : n ≤ 9223372036854775807 := by rw [← hn]; exact HW.out.snaps
    clear hn hN
    go_loopw [5, 6] (fun i _ wr => ShRel w w.heap.size gr gm (mtC A0 A1 A2 d0 d1 d2 m) (.slice A lt.length e) (.slice A5 t5.length d5) lt t5 m.snaps m.tok N i wr) (fun i _ _ => n - (intOf i).toNat)
    case atStart => exact ⟨0, nlS, [], Nat.zero_le _, rfl, rfl, HS6.out, HO6.out, HAP.out⟩
    case round =>
      obtain ⟨k, v1, xs, hk, rfl, hxs, hss, hoo, hap⟩ := hrel
      have HAP1 := Lib.hid hap
      clear hap
      have HS := Lib.hid hss
      have HO := Lib.hid hoo
      have HXS := Lib.hid hxs
      have hbx := hss.box
      have a1 := hbx.cell 1
      simp only [mtC, List.getElem?_toArray, List.getElem?_cons_zero, List.getElem?_cons_succ] at a1
      rw [HLN.out] at a1
      have hla := hbx.lt
      have hNN := HNN.out
      clear hbx hss hoo hxs
      by_cases hlt : k < N
      · have hki : (k : Int) < (n : Int) := by omega
        have hkh : (k : Int) < 30 := by omega
        have hkx : k < m.snaps.length := by rw [HLN.out]; omega
        obtain ⟨xb, xo, XB, xc, hx1, hx2, hx3, hx4, hx5, hx6, hx7, hx8⟩ := (HM.out.below HS.out.below).snaps k hkx
        obtain ⟨x, hx⟩ : ∃ x, m.snaps[k] = x := ⟨_, rfl⟩
        rw [hx] at hx3 hx4 hx5 hx6 hx7 hx8
        have hxW := HW.out.imgs _ (List.getElem_mem hkx)
        rw [hx] at hxW
        have HX := Lib.hid hx
        have HXI := Lib.hid hx7
        have HXW := Lib.hid hxW
        subst hx1
        clear hx hx7 hx8 hxW hNN
        go_wp2_with fail
        have hS7 := HS.out.grow ((Below.refl _ wr).alloc (Nat.le_refl _) (.cells #[.int .u64 (x.g.1 : Int), .int .u64 (x.g.2 : Int), .slice XB x.img.length xc, .bool x.hid] 48))
        have hO7 := oi_below HO.out ((Below.refl _ wr).alloc (Nat.le_refl _) (.cells #[.int .u64 (x.g.1 : Int), .int .u64 (x.g.2 : Int), .slice XB x.img.length xc, .bool x.hid] 48))
        have hI7 := HXI.out.below ((Below.refl _ wr).alloc (Nat.le_refl _) (.cells #[.int .u64 (x.g.1 : Int), .int .u64 (x.g.2 : Int), .slice XB x.img.length xc, .bool x.hid] 48))
        have hG7 := Blk.new wr 48 #[.int .u64 (x.g.1 : Int), .int .u64 (x.g.2 : Int), .slice XB x.img.length xc, .bool x.hid]
        have hne : ∀ j, v1.ownBlock = some j → j ≠ wr.heap.size := fun j hj => by have := (HS.out.row.1.lt j hj).2; omega
        have hwl := HS.out.below.size
        obtain ⟨W7, hW7⟩ : ∃ z, wr.alloc (.cells #[.int .u64 (x.g.1 : Int), .int .u64 (x.g.2 : Int), .slice XB x.img.length xc, .bool x.hid] 48) = z := ⟨_, rfl⟩
        rw [hW7] at hS7 hO7 hI7 hG7
        try rw [hW7]
        obtain ⟨gs, hgs⟩ : ∃ z, wr.heap.size = z := ⟨_, rfl⟩
        rw [hgs] at hG7 hne hwl ⊢
        have HNE := Lib.hid hne
        have HWL := Lib.hid hwl
        clear hW7 hgs hne hwl hx3 hx4 hx5 hx6 a1 hla
        refine (simage_any XB xc x.img W7 hI7 HXW.out).mono ?_
        rintro e8 W8 ⟨v8, rfl, ho8, hb8⟩
        obtain ⟨t8, ht8⟩ : ∃ z, x.img.take 12 = z := ⟨_, rfl⟩
        rw [ht8] at ho8
        have HT8 := Lib.hid ht8
        clear ht8
        obtain ⟨A8, d8, rfl⟩ := own_form ho8
        have HS8 := Lib.hid (hS7.grow hb8)
        have HO8 := Lib.hid (oi_below hO7 hb8)
        have HU8 := Lib.hid (row_base ho8 hS7.below.size)
        have hap8 := apart.snoc (B := W7.heap.size) HAP1.out (fun a ha j hj => by
          simp only [List.mem_cons] at ha
          rcases ha with rfl | rfl | ha
          · exact (hS7.live.lt j hj).2
          · exact (hO7.lt j hj).2
          · obtain ⟨y, hy, rfl⟩ := List.mem_map.1 ha
            exact ((hS7.row.2 y hy).lt j hj).2) (fun j hj => (ho8.lt j hj).1)
        have HAP8 := Lib.hid hap8
        clear hap8
        have HG8 := Lib.hid (hG7.below hb8)
        clear hS7 hO7 hI7 hG7 ho8 hb8 HO HXI
        have s2 := HG8.out.cell 2
        simp only [List.getElem?_toArray, List.getElem?_cons_zero, List.getElem?_cons_succ] at s2
        have fs2 := HG8.out.frozen 2
        have hlg := HG8.out.lt
        obtain ⟨Av, dv, rfl⟩ := own_form HS8.out.row.1
        have HS9 := Lib.hid (HS8.out.loc HG8.out HNE.out HWL.out 2 (.slice A8 t8.length d8))
        have hk9 := Kp.of_set 2 (.slice A8 t8.length d8) HG8.out
        have HO9 := Lib.hid (oi_kp HO8.out hk9 (by decide))
        have HU9 := Lib.hid (oi_kp HU8.out hk9 (by decide))
        have hg9 := HG8.out.set_ 2 (.slice A8 t8.length d8)
        simp only [List.setIfInBounds_toArray, List.set_cons_succ, List.set_cons_zero] at hg9
        obtain ⟨W9, hW9⟩ : ∃ z, W8.setCell ⟨gs, 2, none⟩ (.slice A8 t8.length d8) = z := ⟨_, rfl⟩
        rw [hW9] at HS9 HO9 HU9 hg9
        have s0 := hg9.cell 0
        have s1 := hg9.cell 1
        have s2' := hg9.cell 2
        have s3 := hg9.cell 3
        simp only [List.getElem?_toArray, List.getElem?_cons_zero, List.getElem?_cons_succ] at s0 s1 s2' s3
        have hlg9 := hg9.lt
        have m1 := HS9.out.m.cell 1
        simp only [mC, List.getElem?_toArray, List.getElem?_cons_zero, List.getElem?_cons_succ] at m1
        have hlm := HS9.out.m.lt
        have hbb := (Below.refl _ W9).alloc (Nat.le_refl _) (.cells #[.int .u64 (x.g.1 : Int), .int .u64 (x.g.2 : Int), .slice A8 t8.length d8, .bool x.hid] 48)
        have HSA := Lib.hid (HS9.out.grow hbb)
        have HOA := Lib.hid (oi_below HO9.out hbb)
        have HUA := Lib.hid (oi_below HU9.out hbb)
        have HNW := Lib.hid (news4 (Blk.new W9 48 #[.int .u64 (x.g.1 : Int), .int .u64 (x.g.2 : Int), .slice A8 t8.length d8, .bool x.hid]))
        have hxl : xs.length = k := by
          have := congrArg List.length HXS.out
          rw [List.length_map, List.length_map, List.length_take] at this
          omega
        have HXL := Lib.hid hxl
        have HON : Hid (∀ u ∈ ([.int .u64 (x.g.1 : Int), .int .u64 (x.g.2 : Int), .slice A8 t8.length d8, .bool x.hid] : List Value), u.oneCell' = true) := by
          intro u hu
          simp only [List.mem_cons, List.not_mem_nil, or_false] at hu
          rcases hu with rfl | rfl | rfl | rfl <;> rfl
        obtain ⟨i0, hi, hz0, hz1, hz2⟩ := info_parts infoSp
        clear hbb hk9 hg9 HS8 HO8 HU8 HG8 HS9 HO9 HU9 HS hxl
        dsimp only
        go_wp2_with (at_builtin; refine wpList_append_own _ rfl (.tmp 43) (.tmp 45) 23 rfl w.heap.size 48 i0 (.agg #[.int .u64 0, .int .u64 0, .slice none 0 0, .bool false]) 4 48 Try.underlying23 hi hz0 hz1 hz2 rfl (by decide) _ xs.length _ rfl HSA.out.row.1 ⟨W9.heap.size, 0, none⟩ 1 1 [.int .u64 (x.g.1 : Int), .int .u64 (x.g.2 : Int), .slice A8 t8.length d8, .bool x.hid] rfl rfl HNW.out HON.out ?_ ?_ HSA.out.below.size ?_)
        · have := HXL.out; unfold maxLen; omega
        · have := HXL.out; omega
        · intro v' w1 hown hgrow _
          obtain ⟨A', c', rfl⟩ := own_form hown
          have hmB := (Kp.of_grown hgrow HSA.out.row.1) _ _ _ (by decide) HSA.out.m
          have m1 := hmB.cell 1
          simp only [mC, List.getElem?_toArray, List.getElem?_cons_zero, List.getElem?_cons_succ] at m1
          have fm1 := hmB.frozen 1
          have hlm := hmB.lt
          have HSP := Lib.hid (HSA.out.push (x := ⟨x.g, t8, x.hid⟩) HUA.out hown hgrow)
          have HOP := Lib.hid (oi_kp (oi_kp HOA.out (Kp.of_grown hgrow HSA.out.row.1) (by decide)) (Kp.of_set 1 (.slice A' (xs.length + 1) c') hmB) (by decide))
          clear hown hgrow hmB HSA HOA HUA HNW HON s0 s1 s2 s2' s3 fs2 hW9
          go_wp2_with fail
          go_roundw
          case rel =>
            refine ⟨k + 1, .slice A' (xs.length + 1) c', xs ++ [((⟨x.g, t8, x.hid⟩ : Sp), .slice A8 t8.length d8)], by omega, by go_num, ?_, HSP.out, HOP.out, by rw [List.map_append]; exact HAP8.out⟩
            rw [List.take_succ_eq_append_getElem hkx, List.map_append, List.map_append, HXS.out, HX.out]
            simp only [List.map_cons, List.map_nil, sCut, HT8.out]
          case measure => simp [intOf]; omega
      · obtain rfl : k = N := by omega
        have hN' : xs.map (·.1) = (mShort m).snaps := by
          rw [HXS.out]
          show _ = (m.snaps.take 30).map sCut
          rw [← hNN, ← HLN.out]
          congr 1
          by_cases h : m.snaps.length ≤ 30
          · rw [Nat.min_eq_left h, List.take_of_length_le (Nat.le_refl _), List.take_of_length_le h]
          · rw [Nat.min_eq_right (by omega)]
        have hMS : mShort m = ⟨lt, xs.map (·.1), ⟨m.tok.base, m.tok.target, m.tok.next, m.tok.all, t5⟩⟩ := by
          rw [hN']
          unfold mShort
          rw [HLT.out, HT5.out]
        have HMS := Lib.hid hMS
        have hn : (¬ (k : Int) < (n : Int)) ∨ ((k : Int) < (n : Int) ∧ ¬ (k : Int) < 30) := by omega
        obtain ⟨Av, dv, rfl⟩ := own_form HS.out.row.1
        have hz0 : ∀ z ∈ lt, i64B z := fun z hz => HM.out.live.ints.mem z (List.mem_of_mem_take (by rw [HLT.out]; exact hz))
        have hz2 : ∀ z ∈ t5, i64B z := fun z hz => HM.out.img.ints.mem z (List.mem_of_mem_take (by rw [HT5.out]; exact hz))
        have hz1 : ∀ x ∈ xs, (∀ z ∈ x.1.img, i64B z) ∧ gdB x.1.g := fun x hx => by
          have h1 : x.1 ∈ (m.snaps.take k).map sCut := by rw [← HXS.out]; exact List.mem_map_of_mem hx
          obtain ⟨y, hy, hyx⟩ := List.mem_map.1 h1
          have hym := List.mem_of_mem_take hy
          obtain ⟨j, hj, rfl⟩ := List.getElem_of_mem hym
          obtain ⟨_, _, _, _, _, _, _, _, _, _, hsl, hgd⟩ := HM.out.snaps j hj
          rw [← hyx]
          exact ⟨fun z hz => hsl.ints.mem z (List.mem_of_mem_take hz), hgd⟩
        have hfi := fin_at (t := (⟨m.tok.base, m.tok.target, m.tok.next, m.tok.all, t5⟩ : Tk)) HS.out.live HS.out.row HO.out HS.out.res HS.out.lr HS.out.below hz0 hz1 hz2 HM.out.base HM.out.target HM.out.next HM.out.all
        have r0 := HS.out.res.cell 0
        have r1 := HS.out.res.cell 1
        have r2 := HS.out.res.cell 2
        have r3 := HS.out.res.cell 3
        have r4 := HS.out.res.cell 4
        have r5 := HS.out.res.cell 5
        have r6 := HS.out.res.cell 6
        have r7 := HS.out.res.cell 7
        have r8 := HS.out.res.cell 8
        have f0 := HS.out.res.frozen 0
        have f1 := HS.out.res.frozen 1
        have f2 := HS.out.res.frozen 2
        have f3 := HS.out.res.frozen 3
        have f4 := HS.out.res.frozen 4
        have f5 := HS.out.res.frozen 5
        have f6 := HS.out.res.frozen 6
        have f7 := HS.out.res.frozen 7
        have f8 := HS.out.res.frozen 8
        have m0 := HS.out.m.cell 0
        have m1 := HS.out.m.cell 1
        have m2 := HS.out.m.cell 2
        have m3 := HS.out.m.cell 3
        have m4 := HS.out.m.cell 4
        have m5 := HS.out.m.cell 5
        have m6 := HS.out.m.cell 6
        have m7 := HS.out.m.cell 7
        have m8 := HS.out.m.cell 8
        simp only [mC, nlS, List.getElem?_toArray, List.getElem?_cons_zero, List.getElem?_cons_succ] at r0 r1 r2 r3 r4 r5 r6 r7 r8 m0 m1 m2 m3 m4 m5 m6 m7 m8
        have hlr := HS.out.res.lt
        have hlm := HS.out.m.lt
        have n1 : ¬ gr = gm := HS.out.nr
        have n2 : ¬ gm = gr := fun e => n1 e.symm
        clear hNN hN' hMS hz0 hz1 hz2
        rcases hn with hn | ⟨hn, hn2⟩
        all_goals
          go_wp2_with fail
          show bodyPost _ _ _ _ _ (setMt wr gr (.slice A lt.length e) (.slice Av xs.length dv) (.slice A5 t5.length d5) (⟨m.tok.base, m.tok.target, m.tok.next, m.tok.all, t5⟩ : Tk))
          obtain ⟨WF, hWF⟩ : ∃ z, setMt wr gr (.slice A lt.length e) (.slice Av xs.length dv) (.slice A5 t5.length d5) (⟨m.tok.base, m.tok.target, m.tok.next, m.tok.all, t5⟩ : Tk) = z := ⟨_, rfl⟩
          have hkf := setMt_kp (v0 := .slice A lt.length e) (v1 := .slice Av xs.length dv) (v2 := .slice A5 t5.length d5) (t := (⟨m.tok.base, m.tok.target, m.tok.next, m.tok.all, t5⟩ : Tk)) HS.out.res
          rw [hWF] at hfi hkf ⊢
          have HKF := Lib.hid hkf
          have HFI := Lib.hid hfi
          have hfb := hfi.1
          have e0 := hfb.cell 0
          have e1 := hfb.cell 1
          have e2 := hfb.cell 2
          have e3 := hfb.cell 3
          have e4 := hfb.cell 4
          have e5 := hfb.cell 5
          have e6 := hfb.cell 6
          have e7 := hfb.cell 7
          have e8 := hfb.cell 8
          simp only [mC, List.getElem?_toArray, List.getElem?_cons_zero, List.getElem?_cons_succ] at e0 e1 e2 e3 e4 e5 e6 e7 e8
          refine bodyPost_ret (v := .agg (mC (.slice A lt.length e) (.slice Av xs.length dv) (.slice A5 t5.length d5) (⟨m.tok.base, m.tok.target, m.tok.next, m.tok.all, t5⟩ : Tk))) (by simp [results, Try.results9, go_sem, mC, e0, e1, e2, e3, e4, e5, e6, e7, e8]) rfl ?_
          rw [HMS.out]
          exact ⟨_, rfl, ⟨_, _, _, xs, rfl, oi_kp HS.out.live HKF.out (by decide), HS.out.row.kp HKF.out (by decide) (by decide), rfl, oi_kp HO.out HKF.out (by decide), HFI.out.2.1.bd, HAP1.out⟩, HFI.out.2.2⟩
theorem short_any (v : Value) (m : Mt) (w : World) (h : MtAt w v m) (hw : mtW m) : Calls Try.prog 9 #[v] w (endVO (mShort m) w) := by
  refine (short_f v m w h hw).mono ?_
  rintro e w' ⟨v', rfl, hf, hb⟩
  exact ⟨v', rfl, hf.o, hb⟩
theorem short_sz (m : Mt) : mtS (mShort m) := by
  refine ⟨?_, ?_, fun s hs => ?_, ?_⟩
  · show (m.live.take 12).length ≤ 1000
    rw [List.length_take]; omega
  · show ((m.snaps.take 30).map sCut).length ≤ 1000
    rw [List.length_map, List.length_take]; omega
  · obtain ⟨y, _, rfl⟩ := List.mem_map.1 hs
    show (y.img.take 12).length ≤ 1000
    rw [List.length_take]; omega
  · show (m.tok.img.take 12).length ≤ 1000
    rw [List.length_take]; omega
end Go.Proofs.Ytklmgdiaianlbaa.mt


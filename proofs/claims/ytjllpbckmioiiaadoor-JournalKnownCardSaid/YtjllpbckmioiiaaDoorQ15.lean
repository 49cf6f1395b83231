/- JSteps, JRun. -/
import Derived.Test.YtjllpbckmioiiaaDoorQ14
import Derived.Test.YtjllpbckmioiiaaDoorQ7
import Derived.Laws.EntriesVeiled
/- The steps that write batches: closures, one behind the other. -/
namespace Go.Proofs.YtjllpbckmioiiaaDoor.jr
open Go Go.RowKit Go.Proofs.YtjllpbckmioiiaaDoor.dk Go.Proofs.YtjllpbckmioiiaaDoor.wi
set_option maxRecDepth 100000

theorem infoStep : (Tryd.prog.info? 104).map (fun i => (i.zero, i.size, i.bytes)) = some (some .nilFunc, 1, 8) := by kernel_rfl

def fWrite (p : Nat) : Value := .func (.func 54) #[.pointer (some ⟨p, 0, none⟩)] #[]
def fFlush (p : Nat) : Value := .func (.func 55) #[.pointer (some ⟨p, 0, none⟩)] #[]
def fStep (gw gi : Nat) : Value := .func (.func 56) #[] #[.pointer (some ⟨gw, 0, none⟩), .pointer (some ⟨gi, 0, none⟩)]

/-- A step as it lies in memory, its blocks from B on. -/
def StepV (w : World) (B p : Nat) : Step → Value → Prop
  | .f, v => v = fFlush p
  | .w k x, v => ∃ gw gi, v = fStep gw gi ∧ B ≤ gw ∧ B ≤ gi ∧ Blk w gw 105 #[fWrite p] ∧ Blk w gi 49 #[.int .i64 k, .string (str x)]

def StepVs (w : World) (B p : Nat) (ss : List Step) (vs : List Value) : Prop := ss.length = vs.length ∧ ∀ (j : Nat) (s : Step) (v : Value), ss[j]? = some s → vs[j]? = some v → StepV w B p s v

/-- Blocks of other things than steps stay. -/
def Keeps (w w' : World) : Prop := ∀ g t cs, t ≠ 104 → Blk w g t cs → Blk w' g t cs

theorem Keeps.below {w w' : World} (h : Below w.heap.size w w') : Keeps w w' := fun _ _ _ _ hb => hb.of_block (h.block _ hb.lt)
theorem Keeps.trans {a b c : World} (h : Keeps a b) (k : Keeps b c) : Keeps a c := fun g t cs ht hb => k g t cs ht (h g t cs ht hb)
theorem Keeps.grown {w w' : World} {B n : Nat} {v : Value} {xs : List Value} (ho : w.ownsRow B 104 1 v n xs) (h : w.grownBy w' v.ownBlock) : Keeps w w' := fun g t cs ht hb => by
  refine hb.of_block (h.block g hb.lt ?_)
  rcases ho.2 with ⟨rfl, _⟩ | ⟨q, cap, cur, rfl, _, hh, _⟩
  · simp [Value.ownBlock]
  · simp only [Value.ownBlock, Option.some.injEq, ne_eq]
    rintro rfl
    unfold Blk at hb
    rw [hb] at hh
    simp only [Option.some.injEq, Obj.cells.injEq] at hh
    exact ht hh.2.1

theorem StepV.keep {w w' : World} {B p : Nat} {s : Step} {v : Value} (h : StepV w B p s v) (hk : Keeps w w') : StepV w' B p s v := by
  cases s with
  | f => exact h
  | w k x =>
    obtain ⟨gw, gi, h1, h2, h3, h4, h5⟩ := h
    exact ⟨gw, gi, h1, h2, h3, hk _ _ _ (by decide) h4, hk _ _ _ (by decide) h5⟩

theorem StepVs.keep {w w' : World} {B p : Nat} {ss : List Step} {vs : List Value} (h : StepVs w B p ss vs) (hk : Keeps w w') : StepVs w' B p ss vs := ⟨h.1, fun j s v hs hv => (h.2 j s v hs hv).keep hk⟩

theorem StepVs.snoc {w : World} {B p : Nat} {ss : List Step} {vs : List Value} {s : Step} {v : Value} (h : StepVs w B p ss vs) (hs : StepV w B p s v) : StepVs w B p (ss ++ [s]) (vs ++ [v]) := by
  refine ⟨by simp [h.1], fun j t u ht hu => ?_⟩
  by_cases hj : j < ss.length
  · rw [List.getElem?_append_left hj] at ht
    rw [List.getElem?_append_left (by rw [← h.1]; exact hj)] at hu
    exact h.2 j t u ht hu
  · rw [List.getElem?_append_right (by omega)] at ht
    rw [List.getElem?_append_right (by rw [← h.1]; omega)] at hu
    rw [h.1] at ht
    cases hq : j - vs.length with
    | zero =>
      rw [hq] at ht hu
      simp at ht hu
      subst ht hu
      exact hs
    | succ m =>
      rw [hq] at ht
      simp at ht

/-- A slice of batches of writes. -/
def BsAt (w : World) (a : Option Addr) (bs : List (List Wr)) : Prop :=
  ∀ i (h : i < bs.length), ∃ b o A c, a = some ⟨b, o, none⟩ ∧ b < w.heap.size ∧ w.cell? ⟨b, o + i, none⟩ = some (.slice A bs[i].length c) ∧ WsAt w A bs[i]

theorem stepsOf_take (bs : List (List Wr)) (k : Nat) (h : k < bs.length) : stepsOf (bs.take (k + 1)) = stepsOf (bs.take k) ++ (wsOf bs[k] ++ [.f]) := by
  have key : ∀ (x y : List (List Wr)), stepsOf (x ++ y) = stepsOf x ++ stepsOf y := by
    intro x y
    induction x with
    | nil => rfl
    | cons l r ih => simp [stepsOf, ih]
  rw [List.take_succ_eq_append_getElem h, key]
  simp [stepsOf]

theorem wsOf_snoc (l : List Wr) (k : Nat) (h : k < l.length) : wsOf (l.take (k + 1)) = wsOf (l.take k) ++ [.w l[k].1 l[k].2] := by
  unfold wsOf
  rw [List.take_succ_eq_append_getElem h, List.map_append]
  rfl

theorem wsLen (l : List Wr) : (wsOf l).length = l.length := by simp [wsOf]
theorem stepsOf_len : ∀ (bs : List (List Wr)), (∀ l ∈ bs, l.length ≤ 1000) → (stepsOf bs).length ≤ 1001 * bs.length
  | [], _ => by simp [stepsOf]
  | l :: r, h => by
    have h1 := h l (by simp)
    have h2 := stepsOf_len r (fun m hm => h m (by simp [hm]))
    simp only [stepsOf, List.length_append, List.length_cons, wsLen]
    omega

/-- What has been gathered. -/
def Gath (w : World) (p : Nat) (ss : List Step) (v : Value) (wr : World) : Prop :=
  ∃ vs, wr.ownsRow w.heap.size 104 1 v vs.length vs ∧ StepVs wr w.heap.size p ss vs ∧ Blk wr w.heap.size 105 #[fWrite p] ∧ Below w.heap.size w wr

def OutRel (w : World) (p : Nat) (bs : List (List Wr)) (v i : Value) (wr : World) : Prop :=
  ∃ k : Nat, k ≤ bs.length ∧ i = .int .i64 (k : Int) ∧ Gath w p (stepsOf (bs.take k)) v wr
def InRel (w : World) (p : Nat) (pre : List Step) (l : List Wr) (v i : Value) (wr : World) : Prop :=
  ∃ k : Nat, k ≤ l.length ∧ i = .int .i64 (k : Int) ∧ Gath w p (pre ++ wsOf (l.take k)) v wr

def okSteps (p : Nat) (ss : List Step) (w : World) (e : Ending) (w' : World) : Prop := ∃ v, e = .returned v ∧ Gath w p ss v w'

theorem news_one (w : World) (t : TypeId) (v : Value) : ∀ (j : Nat) (u : Value), ([v] : List Value)[j]? = some u → (w.alloc (.cells #[v] t)).cell? ((⟨w.heap.size, 0, none⟩ : Addr).add j) = some u := by
  intro j u hj
  match j, hj with
  | 0, hj =>
    simp at hj
    subst hj
    rw [addr_add]
    exact (Blk.new w t #[v]).cell 0

theorem fun_one (f : Fn) (a b : Array Value) : ∀ u ∈ ([Value.func f a b] : List Value), u.oneCell' = true := by
  intro u hu
  simp at hu
  subst hu
  rfl

/-- One step more. -/
theorem Gath.more {w wr w1 : World} {p : Nat} {ss : List Step} {v' : Value} {vs : List Value} {s : Step} {u : Value} (hs : StepVs wr w.heap.size p ss vs) (hk : Blk wr w.heap.size 105 #[fWrite p])
    (hkeep : Keeps wr w1) (hu : StepV w1 w.heap.size p s u) (hown : w1.ownsRow w.heap.size 104 1 v' (vs.length + 1) (vs ++ [u])) (hB : Below w.heap.size w w1) : Gath w p (ss ++ [s]) v' w1 :=
  ⟨vs ++ [u], by rw [List.length_append]; exact hown, (hs.keep hkeep).snoc hu, hkeep _ _ _ (by decide) hk, hB⟩

set_option maxHeartbeats 3200000 in
theorem writing_any (p : Nat) (a : Option Addr) (c : Nat) (bs : List (List Wr)) (w : World) (hp : p < w.heap.size) (hT : BsAt w a bs) (hl : bs.length ≤ 10) (hl2 : ∀ l ∈ bs, l.length ≤ 1000) :
    Calls Tryd.prog 36 #[.pointer (some ⟨p, 0, none⟩), .slice a bs.length c] w (okSteps p (stepsOf bs) w) := by
  obtain ⟨i0, hi, hz0, hz1, hz2⟩ := info_parts infoStep
  have HT := Lib.hid hT
  have HL2 := Lib.hid hl2
  clear hT hl2
  go_enter Tryd.func36, Tryd.ntmps36
  go_wp2_with fail
  have k0 : Blk (w.alloc (.cells #[fWrite p] 105)) w.heap.size _ _ := Blk.new w _ _
  have b0 : Below w.heap.size w (w.alloc (.cells #[fWrite p] 105)) := (Below.refl w.heap.size w).alloc (Nat.le_refl _) _
  go_loopw [7, 18] (fun v i wr => OutRel w p bs v i wr) (fun _ i _ => bs.length - (intOf i).toNat)
  case atStart => exact ⟨0, Nat.zero_le _, rfl, [], World.ownsRow_nil _ _ _ _, ⟨rfl, fun j s v h => by simp [stepsOf] at h⟩, k0, b0⟩
  case round =>
    clear k0 b0
    obtain ⟨k, hk, rfl, hg⟩ := hrel
    have HG := Lib.hid hg
    clear hg
    by_cases hlt : k < bs.length
    · obtain ⟨b, o, A, cc, rfl, hb, hc, hW⟩ := HT.out k hlt
      have hst := stepsOf_take bs k hlt
      have hlen := HL2.out bs[k] (List.getElem_mem hlt)
      generalize bs[k] = l at *
      have hc2 : wr.cell? ⟨b, o + k, none⟩ = some (.slice A l.length cc) := by obtain ⟨_, _, _, _, hB⟩ := HG.out; rw [hB.cell (p := ⟨b, o + k, none⟩) hb]; exact hc
      have hb2 : b < wr.heap.size := by obtain ⟨_, _, _, _, hB⟩ := HG.out; exact Nat.lt_of_lt_of_le hb hB.size
      have hklt : (k : Int) < (bs.length : Int) := by omega
      have HW := Lib.hid hW
      have HST := Lib.hid hst
      clear hc hW hst
      go_wp2_with fail
      obtain ⟨wo, rfl⟩ : ∃ wo : World, wo = wr := ⟨_, rfl⟩
      go_loopw [7, 24] (fun v i wr => InRel w p (stepsOf (bs.take k)) l v i wr) (fun _ i _ => l.length - (intOf i).toNat)
      case atStart => exact ⟨0, Nat.zero_le _, rfl, by simpa [wsOf] using HG.out⟩
      case round =>
        obtain ⟨j, hj, rfl, vs, hown, hsv, hk5, hB⟩ := hrel
        have HO := Lib.hid hown
        have HS := Lib.hid hsv
        have HK := Lib.hid hk5
        have HB := Lib.hid hB
        clear hown hsv hk5 hB
        have hvl : vs.length ≤ 100000 := by
          have h1 := HS.out.1
          have h2 := stepsOf_len (bs.take k) (fun m hm => HL2.out m (List.mem_of_mem_take hm))
          have h3 : (bs.take k).length ≤ 10 := by simp; omega
          have h4 : (wsOf (l.take j)).length ≤ 1000 := by rw [wsLen]; simp; omega
          rw [List.length_append] at h1
          omega
        by_cases hjl : j < l.length
        · obtain ⟨bb, oo, rfl, hbb, q0, q1, qb⟩ := HW.out j hjl
          have hws := wsOf_snoc l j hjl
          generalize l[j] = x at *
          have e0 : wr.cell? ⟨bb, oo + j * 2, none⟩ = some (.int .i64 x.1) := by rw [HB.out.cell (p := ⟨bb, oo + j * 2, none⟩) hbb]; exact q0
          have e1 : wr.cell? ⟨bb, oo + j * 2 + 1, none⟩ = some (.string (str x.2)) := by rw [HB.out.cell (p := ⟨bb, oo + j * 2 + 1, none⟩) hbb]; exact q1
          have hbb2 : bb < wr.heap.size := Nat.lt_of_lt_of_le hbb HB.out.size
          have hjlt : (j : Int) < (l.length : Int) := by omega
          have HWS := Lib.hid hws
          have hB1 : Below w.heap.size w (wr.alloc (.cells #[.int .i64 x.1, .string (str x.2)] 49)) := HB.out.alloc HB.out.size _
          have hB2 : Below w.heap.size w ((wr.alloc (.cells #[.int .i64 x.1, .string (str x.2)] 49)).alloc (.cells #[fStep w.heap.size wr.heap.size] 104)) := hB1.alloc hB1.size _
          have hown2 := (HO.out.alloc (.cells #[.int .i64 x.1, .string (str x.2)] 49)).alloc (.cells #[fStep w.heap.size wr.heap.size] 104)
          have hnews := news_one (wr.alloc (.cells #[.int .i64 x.1, .string (str x.2)] 49)) 104 (fStep w.heap.size wr.heap.size)
          have hsz1 : (wr.alloc (.cells #[.int .i64 x.1, .string (str x.2)] 49)).heap.size = wr.heap.size + 1 := by simp
          rw [hsz1] at hnews
          have HO2 := Lib.hid hown2
          have HNW := Lib.hid hnews
          have HB2 := Lib.hid hB2
          have hkp : Keeps wr ((wr.alloc (.cells #[.int .i64 x.1, .string (str x.2)] 49)).alloc (.cells #[fStep w.heap.size wr.heap.size] 104)) := Keeps.below ((below_new (Below.refl _ wr) _).alloc (by simp) _)
          have hgi : Blk ((wr.alloc (.cells #[.int .i64 x.1, .string (str x.2)] 49)).alloc (.cells #[fStep w.heap.size wr.heap.size] 104)) wr.heap.size 49 #[.int .i64 x.1, .string (str x.2)] := (Blk.new wr _ _).of_block (Below.heap_alloc _ _ _ (by simp))
          have HKP := Lib.hid hkp
          have HGI := Lib.hid hgi
          clear q0 q1 qb hws hB1 hB2 hown2 hnews hsz1 hkp hgi
          go_wp2_with (at_builtin; refine wpList_append_own _ rfl (.tmp 28) (.tmp 30) 66 rfl w.heap.size 104 i0 .nilFunc 1 8 Tryd.underlying66 hi hz0 hz1 hz2 rfl (by decide) _ vs.length _ rfl HO2.out ⟨wr.heap.size + 1, 0, none⟩ 1 1 [fStep w.heap.size wr.heap.size] rfl rfl HNW.out (fun_one _ _ _) ?_ ?_ HB2.out.size ?_)
          · unfold maxLen; omega
          · omega
          · intro v' w1 hown1 hgrow _
            have hkp1 := HKP.out.trans (Keeps.grown HO2.out hgrow)
            have hb1 := HB2.out.grown hgrow HB2.out.size (fun j hj => (HO2.out.lt j hj).1)
            have hstv : StepV w1 w.heap.size p (.w x.1 x.2) (fStep w.heap.size wr.heap.size) := ⟨_, _, rfl, Nat.le_refl _, HB.out.size, hkp1 _ _ _ (by decide) HK.out, Keeps.grown HO2.out hgrow _ _ _ (by decide) HGI.out⟩
            have hgm := Gath.more HS.out HK.out hkp1 hstv hown1 hb1
            have HGM := Lib.hid hgm
            clear hkp1 hb1 hstv hgm hown1 hgrow
            go_wp2_with fail
            go_roundw
            case rel => exact ⟨j + 1, by omega, by go_num, by rw [HWS.out, ← List.append_assoc]; exact HGM.out⟩
            case measure => simp [intOf]; omega
        · obtain rfl : j = l.length := by omega
          have hB2 : Below w.heap.size w (wr.alloc (.cells #[fFlush p] 104)) := HB.out.alloc HB.out.size _
          have hown2 := HO.out.alloc (.cells #[fFlush p] 104)
          have hnews := news_one wr 104 (fFlush p)
          have HO2 := Lib.hid hown2
          have HNW := Lib.hid hnews
          have HB2 := Lib.hid hB2
          have HKP := Lib.hid (Keeps.below (below_new (Below.refl _ wr) (.cells #[fFlush p] 104)))
          clear hB2 hown2 hnews
          go_wp2_with (at_builtin; refine wpList_append_own _ rfl (.tmp 33) (.tmp 35) 66 rfl w.heap.size 104 i0 .nilFunc 1 8 Tryd.underlying66 hi hz0 hz1 hz2 rfl (by decide) _ vs.length _ rfl HO2.out ⟨wr.heap.size, 0, none⟩ 1 1 [fFlush p] rfl rfl HNW.out (fun_one _ _ _) ?_ ?_ HB2.out.size ?_)
          · unfold maxLen; omega
          · omega
          · intro v' w1 hown1 hgrow _
            have hkp1 := HKP.out.trans (Keeps.grown HO2.out hgrow)
            have hb1 := HB2.out.grown hgrow HB2.out.size (fun j hj => (HO2.out.lt j hj).1)
            have hgm := Gath.more (s := .f) HS.out HK.out hkp1 rfl hown1 hb1
            have HGM := Lib.hid hgm
            clear hkp1 hb1 hgm hown1 hgrow
            go_wp2_with fail
            go_roundw
            case rel => exact ⟨k + 1, by omega, by go_num, by rw [HST.out]; have := HGM.out; rw [List.take_length, List.append_assoc] at this; exact this⟩
            case measure => simp [intOf]; omega
    · obtain rfl : k = bs.length := by omega
      go_wp2_with fail
      go_ret
      have := HG.out
      rw [List.take_length] at this
      exact ⟨_, rfl, this⟩
end Go.Proofs.YtjllpbckmioiiaaDoor.jr

/- What steps make of a disk with room: all of them, or those ahead of the one at which the power goes. -/
namespace Go.Proofs.YtjllpbckmioiiaaDoor.jr
open Go.Proofs.YtjllpbckmioiiaaDoor.dk Go.Proofs.YtjllpbckmioiiaaDoor.wi
set_option maxRecDepth 100000

abbrev BM := Sects × List (Nat × Bt)
def ap (x : BM) : Step → BM
  | .w k v => (x.1, x.2 ++ [(k.toNat, v)])
  | .f => (play x.1 x.2, [])
def apL (ss : List Step) (x : BM) : BM := ss.foldl ap x

def goodS (n : Nat) : Step → Prop
  | .w k v => 0 ≤ k ∧ k < (n : Int) ∧ v.length = 32
  | .f => True

def mk (d : DD) (x : BM) (on : Bool) (fuse : Int) : DD := { room := d.room, base := x.1, more := x.2, on := on, fuse := fuse }
def less (f : Int) (n : Nat) : Int := if f = 0 then 0 else f - n

theorem cnt_lt (s : Sects) (k : Nat) (h : k < s.length) (hl : (dk.look s (k : Int)).isSome = false) : cnt s < s.length := by
  have h1 := cnt_set_some s k [] h
  rw [hl] at h1
  have h2 := cnt_le (s.set k (some []))
  rw [h1, List.length_set] at h2
  simp at h2
  omega

theorem play_n (x : BM) : (play x.1 x.2).length = x.1.length := play_length _ _
theorem ap_n (x : BM) (s : Step) : (ap x s).1.length = x.1.length := by cases s <;> simp [ap, play_length]
theorem apL_n : ∀ (ss : List Step) (x : BM), (apL ss x).1.length = x.1.length
  | [], _ => rfl
  | s :: r, x => (apL_n r (ap x s)).trans (ap_n x s)

theorem step_mk (d : DD) (hon : d.on = true) (hf : 0 ≤ d.fuse) (hr : (d.n : Int) ≤ d.room) (s : Step) (hs : goodS d.n s) :
    stepD d s = if d.fuse = 1 then (6, mk d (d.base, d.more) false 0) else (0, mk d (ap (d.base, d.more) s) true (less d.fuse 1)) := by
  have hop : d.oper = if d.fuse = 1 then mk d (d.base, d.more) false 0 else mk d (d.base, d.more) true (less d.fuse 1) := by
    unfold DD.oper less
    by_cases h1 : d.fuse = 1
    · rw [if_pos h1, if_pos h1]
      rfl
    · rw [if_neg h1, if_neg h1]
      by_cases h2 : 1 < d.fuse
      · rw [if_pos h2, if_neg (by omega)]
        unfold mk
        rw [← hon]
        rfl
      · have h0 : d.fuse = 0 := by omega
        rw [if_neg h2, if_pos h0]
        obtain ⟨r, b, m, o, f⟩ := d
        simp only at hon h0
        subst hon h0
        rfl
  cases s with
  | w k v =>
    obtain ⟨h0, h1, h2⟩ := hs
    unfold stepD DD.write
    dsimp only
    have hh : d.has k = true := by simp [DD.has, h0, h1]
    rw [if_neg (by rw [hon]; simp), if_neg (by rw [hh]; simp [h2])]
    have hfull : ¬ ((dk.look d.now k).isSome = false ∧ d.room ≤ (d.used : Int)) := by
      rintro ⟨g1, g2⟩
      obtain ⟨j, rfl⟩ := Int.eq_ofNat_of_zero_le h0
      have := cnt_lt d.now j (by rw [d.now_length]; omega) g1
      rw [d.now_length] at this
      unfold DD.used at g2
      omega
    rw [if_neg hfull, hop]
    by_cases h1 : d.fuse = 1
    · rw [if_pos h1, if_pos h1, if_pos (by rfl)]
    · rw [if_neg h1, if_neg h1, if_neg (by simp [mk])]
      rfl
  | f =>
    unfold stepD DD.flush
    dsimp only
    rw [if_neg (by rw [hon]; simp), hop]
    by_cases h1 : d.fuse = 1
    · rw [if_pos h1, if_pos h1, if_pos (by rfl)]
    · rw [if_neg h1, if_neg h1, if_neg (by simp [mk])]
      rfl

theorem mk_n (d : DD) (x : BM) (on : Bool) (f : Int) : (mk d x on f).n = x.1.length := rfl

/-- No power goes. -/
theorem runS_all : ∀ (ss : List Step) (d : DD), d.on = true → 0 ≤ d.fuse → (d.n : Int) ≤ d.room → (∀ s ∈ ss, goodS d.n s) → (d.fuse = 0 ∨ (ss.length : Int) < d.fuse) →
    runS ss d = (0, mk d (apL ss (d.base, d.more)) true (less d.fuse ss.length))
  | [], d, hon, hf, hr, hs, h => by
    have e : less d.fuse 0 = d.fuse := by unfold less; split <;> omega
    have e2 : mk d (d.base, d.more) true d.fuse = d := by
      obtain ⟨r, b, m, o, f⟩ := d
      simp only at hon
      subst hon
      rfl
    show (0, d) = _
    rw [List.length_nil, e]
    exact congrArg (Prod.mk 0) e2.symm
  | s :: r, d, hon, hf, hr, hs, h => by
    have h1 : ¬ d.fuse = 1 := by simp only [List.length_cons] at h; omega
    have hst := step_mk d hon hf hr s (hs s (by simp))
    rw [if_neg h1] at hst
    unfold runS
    rw [hst]
    dsimp only
    rw [if_pos rfl]
    have hf' : 0 ≤ less d.fuse 1 := by unfold less; split <;> omega
    have hfe : less d.fuse 1 = 0 ∨ (r.length : Int) < less d.fuse 1 := by
      simp only [List.length_cons] at h
      unfold less
      split <;> omega
    have hn : (mk d (ap (d.base, d.more) s) true (less d.fuse 1)).n = d.n := ap_n _ _
    rw [runS_all r (mk d (ap (d.base, d.more) s) true (less d.fuse 1)) rfl hf' (by rw [hn]; exact hr) (fun x hx => by rw [hn]; exact hs x (by simp [hx])) hfe]
    have e : less (less d.fuse 1) r.length = less d.fuse (s :: r).length := by
      simp only [List.length_cons] at h ⊢
      unfold less
      split
      · simp
      · split <;> omega
    show (0, mk d (apL r (ap (d.base, d.more) s)) true (less (less d.fuse 1) r.length)) = _
    rw [e]
    rfl

/-- The power goes at one of them. -/
theorem runS_cut : ∀ (ss : List Step) (d : DD), d.on = true → (d.n : Int) ≤ d.room → (∀ s ∈ ss, goodS d.n s) → 1 ≤ d.fuse → d.fuse ≤ (ss.length : Int) →
    runS ss d = (6, mk d (apL (ss.take (d.fuse - 1).toNat) (d.base, d.more)) false 0)
  | [], d, hon, hr, hs, h1, h => by simp at h; omega
  | s :: r, d, hon, hr, hs, h1, h => by
    have hst := step_mk d hon (by omega) hr s (hs s (by simp))
    unfold runS
    rw [hst]
    by_cases hf : d.fuse = 1
    · rw [if_pos hf]
      dsimp only
      rw [if_neg (by decide), hf]
      rfl
    · rw [if_neg hf]
      dsimp only
      rw [if_pos rfl]
      have e : less d.fuse 1 = d.fuse - 1 := by unfold less; rw [if_neg (by omega)]; rfl
      have hn : (mk d (ap (d.base, d.more) s) true (less d.fuse 1)).n = d.n := ap_n _ _
      simp only [List.length_cons] at h
      have hmf : (mk d (ap (d.base, d.more) s) true (less d.fuse 1)).fuse = d.fuse - 1 := e
      rw [runS_cut r (mk d (ap (d.base, d.more) s) true (less d.fuse 1)) rfl (by rw [hn]; exact hr) (fun x hx => by rw [hn]; exact hs x (by simp [hx])) (by omega) (by omega)]
      rw [hmf]
      have e2 : (d.fuse - 1).toNat = (d.fuse - 1 - 1).toNat + 1 := by omega
      rw [e2, List.take_succ_cons]
      rfl

/-! ### What the steps of some batches come to -/
theorem apL_append (a b : List Step) (x : BM) : apL (a ++ b) x = apL b (apL a x) := List.foldl_append
theorem apL_ws : ∀ (l : List Wr) (x : BM), apL (wsOf l) x = (x.1, x.2 ++ nat l)
  | [], x => by simp [wsOf, nat, apL]
  | w :: l, x => by
    have ih := apL_ws l (ap x (.w w.1 w.2))
    show apL (wsOf l) (ap x (.w w.1 w.2)) = _
    rw [ih]
    simp [ap, nat]

theorem wsOf_take (l : List Wr) (m : Nat) : (wsOf l).take m = wsOf (l.take m) := by simp [wsOf, List.map_take]
theorem wsOf_length (l : List Wr) : (wsOf l).length = l.length := by simp [wsOf]

/-- All of one batch, from flushed. -/
theorem apL_batch (l : List Wr) (b : Sects) : apL (wsOf l ++ [.f]) (b, []) = (play b (nat l), []) := by
  rw [apL_append, apL_ws]
  rfl

theorem apL_steps : ∀ (bs : List (List Wr)) (b : Sects), apL (stepsOf bs) (b, []) = (play b (nat bs.flatten), [])
  | [], b => rfl
  | l :: r, b => by
    have h : stepsOf (l :: r) = (wsOf l ++ [.f]) ++ stepsOf r := by simp [stepsOf]
    rw [h, apL_append, apL_batch, apL_steps r]
    rw [List.flatten_cons, show nat (l ++ r.flatten) = nat l ++ nat r.flatten from List.map_append, play_append]

/-- A beginning of the steps: some batches whole, and a beginning of the next one, not flushed. -/
theorem apL_part : ∀ (bs : List (List Wr)) (m : Nat) (b : Sects), m ≤ (stepsOf bs).length →
    ∃ (pre : List (List Wr)) (l post : _) (j : Nat), bs = pre ++ l ++ post ∧ (l = [] ∨ ∃ y, l = [y]) ∧ apL ((stepsOf bs).take m) (b, []) = (play b (nat pre.flatten), nat (l.flatten.take j))
  | [], m, b, h => ⟨[], [], [], 0, rfl, .inl rfl, by simp [stepsOf, apL, nat, play]⟩
  | x :: r, m, b, h => by
    have hs : stepsOf (x :: r) = (wsOf x ++ [.f]) ++ stepsOf r := by simp [stepsOf]
    by_cases hm : m ≤ x.length
    · refine ⟨[], [x], r, m, by simp, .inr ⟨x, rfl⟩, ?_⟩
      rw [hs, List.take_append_of_le_length (by simp [wsOf_length]; omega), List.take_append_of_le_length (by rw [wsOf_length]; exact hm), wsOf_take, apL_ws]
      simp [nat, play]
    · have hl : (wsOf x ++ [Step.f]).length = x.length + 1 := by simp [wsOf_length]
      have e : (stepsOf (x :: r)).take m = (wsOf x ++ [.f]) ++ (stepsOf r).take (m - (x.length + 1)) := by
        rw [hs, List.take_append, hl, List.take_of_length_le (by rw [hl]; omega)]
      rw [hs, List.length_append, hl] at h
      obtain ⟨pre, l, post, j, h1, h2, h3⟩ := apL_part r (m - (x.length + 1)) (play b (nat x)) (by omega)
      refine ⟨x :: pre, l, post, j, by simp [h1], h2, ?_⟩
      rw [e, apL_append, apL_batch, h3]
      rw [List.flatten_cons, show nat (x ++ pre.flatten) = nat x ++ nat pre.flatten from List.map_append, play_append]

end Go.Proofs.YtjllpbckmioiiaaDoor.jr


/- JLay, JTake. -/
import Derived.Test.YtjllpbckmioiiaaDoorQ16
import Derived.Test.YtjllpbckmioiiaaDoorQ17
/- Slices of writes that a call made; where a record is laid. -/
namespace Go.Proofs.YtjllpbckmioiiaaDoor.jr
open Go Go.RowKit Go.Proofs.YtjllpbckmioiiaaDoor.dk Go.Proofs.YtjllpbckmioiiaaDoor.wi
set_option maxRecDepth 100000

def wrVals : List Wr → List Value
  | [] => []
  | x :: r => .int .i64 x.1 :: .string (str x.2) :: wrVals r
def OWs (w : World) (B : Nat) (v : Value) (l : List Wr) : Prop := w.ownsRow B 49 2 v l.length (wrVals l)

theorem wrVals_append : ∀ (l r : List Wr), wrVals (l ++ r) = wrVals l ++ wrVals r
  | [], _ => rfl
  | x :: l, r => by simp [wrVals, wrVals_append l r]
theorem wrVals_len : ∀ l : List Wr, (wrVals l).length = l.length * 2
  | [] => rfl
  | x :: l => by simp [wrVals, wrVals_len l]; omega
theorem wrVals_get : ∀ (l : List Wr) (i : Nat) (h : i < l.length), (wrVals l)[i * 2]? = some (.int .i64 l[i].1) ∧ (wrVals l)[i * 2 + 1]? = some (.string (str l[i].2))
  | x :: l, 0, _ => ⟨rfl, rfl⟩
  | x :: l, i + 1, h => by
    have := wrVals_get l i (by simpa using h)
    rw [show (i + 1) * 2 = i * 2 + 1 + 1 from by omega]
    exact this

theorem OWs.view {w : World} {B : Nat} {v : Value} {l : List Wr} (h : OWs w B v l) (hz : ∀ x ∈ l, i64B x.1) : ∃ a c, v = .slice a l.length c ∧ WsAt w a l := by
  rcases h.2 with ⟨rfl, h0⟩ | ⟨g, cap, cur, rfl, hg, hh, hcc, hm, hcs, hcur⟩
  · obtain rfl : l = [] := List.length_eq_zero_iff.1 h0
    exact ⟨none, 0, rfl, fun i h => by simp at h⟩
  · refine ⟨some ⟨g, 0, none⟩, cap, rfl, fun i hi => ?_⟩
    have key : ∀ (j : Nat) (u : Value), (wrVals l)[j]? = some u → w.cell? ⟨g, j, none⟩ = some u := by
      intro j u hu
      rw [cell_of_row w g j cur 49 (0, 0) hh]
      rw [← hcur, List.getElem?_take] at hu
      split at hu
      · simpa using hu
      · cases hu
    obtain ⟨g0, g1⟩ := wrVals_get l i hi
    exact ⟨g, 0, rfl, (Array.getElem?_eq_some_iff.1 hh).1, by rw [Nat.zero_add]; exact key _ _ g0, by rw [Nat.zero_add]; exact key _ _ g1, hz _ (List.getElem_mem hi)⟩

theorem two_one (x : Wr) : ∀ u ∈ ([Value.int .i64 x.1, .string (str x.2)] : List Value), u.oneCell' = true := by
  intro u hu
  simp at hu
  rcases hu with rfl | rfl <;> rfl

theorem news_two (w : World) (t : TypeId) (v u : Value) : ∀ (j : Nat) (x : Value), ([v, u] : List Value)[j]? = some x → (w.alloc (.cells #[v, u] t)).cell? ((⟨w.heap.size, 0, none⟩ : Addr).add j) = some x := by
  intro j x hj
  match j, hj with
  | 0, hj =>
    simp at hj
    subst hj
    rw [addr_add]
    exact (Blk.new w t #[v, u]).cell 0
  | 1, hj =>
    simp at hj
    subst hj
    rw [addr_add]
    exact (Blk.new w t #[v, u]).cell 1

theorem OWs.snoc {w1 : World} {B : Nat} {v' : Value} {l : List Wr} {x : Wr} (h : w1.ownsRow B 49 2 v' (l.length + 1) (wrVals l ++ [.int .i64 x.1, .string (str x.2)])) : OWs w1 B v' (l ++ [x]) := by
  unfold OWs
  rw [List.length_append, wrVals_append]
  exact h

theorem ows_base {w : World} {B C : Nat} {v : Value} {l : List Wr} (h : OWs w B v l) (hc : C ≤ B) : OWs w C v l := by
  refine ⟨h.1, ?_⟩
  rcases h.2 with hn | ⟨g, cap, cur, hv, hb, rest⟩
  · exact .inl hn
  · exact .inr ⟨g, cap, cur, hv, Nat.le_trans hc hb, rest⟩

def okWs (l : List Wr) (w : World) (e : Ending) (w' : World) : Prop := ∃ v, e = .returned v ∧ OWs w' w.heap.size v l ∧ Below w.heap.size w w'

def LayRel (w : World) (o : Nat) (ss : List Bt) (v i : Value) (wr : World) : Prop :=
  ∃ k : Nat, k ≤ ss.length ∧ i = .int .i64 (k : Int) ∧ OWs wr w.heap.size v (layAt o (ss.take k)) ∧ Below w.heap.size w wr

set_option maxHeartbeats 1600000 in
theorem lay_any (a cnt : Nat) (ha : a < 2) (A : Option Addr) (cc : Nat) (ss : List Bt) (w : World) (hT : StrsAt w A ss) (hl : ss.length ≤ 1000) :
    Calls Tryd.prog 31 #[.agg #[.int .i64 (a : Int), .int .i64 (cnt : Int)], .slice A ss.length cc] w (okWs (lay a ss) w) := by
  obtain ⟨i0, hi, hz0, hz1, hz2⟩ := info_parts infoWr
  have HT := Lib.hid hT
  have hfst := fun (W : World) => first_any a cnt ha W
  unfold lay
  have ho73 : 1 + a * 72 ≤ 73 := by omega
  obtain ⟨o1, ho1⟩ : ∃ n, 1 + a * 72 = n := ⟨_, rfl⟩
  rw [ho1] at ho73
  simp only [ho1] at hfst
  rw [ho1]
  have HF := Lib.hid hfst
  clear ho1 hfst
  have kb : Blk (w.alloc (.cells #[.int .i64 (a : Int), .int .i64 (cnt : Int)] 54)) w.heap.size _ _ := Blk.new w _ _
  clear hT
  have k0 := kb.lt
  have hb0 : Below w.heap.size w (w.alloc (.cells #[.int .i64 (a : Int), .int .i64 (cnt : Int)] 54)) := (Below.refl w.heap.size w).alloc (Nat.le_refl _) _
  go_enter Tryd.func31, Tryd.ntmps31
  go_wp2_with fail
  obtain ⟨w0, hw0⟩ : ∃ x, w.alloc (.cells #[.int .i64 (a : Int), .int .i64 (cnt : Int)] 54) = x := ⟨_, rfl⟩
  rw [hw0] at kb k0 hb0
  rw [hw0]
  clear hw0
  have KB := Lib.hid kb
  have HB0 := Lib.hid hb0
  clear kb hb0
  go_loopw [5, 10] (fun v i wr => LayRel w0 o1 ss v i wr) (fun _ i _ => ss.length - (intOf i).toNat)
  case atStart => exact ⟨0, Nat.zero_le _, rfl, World.ownsRow_nil _ _ _ _, Below.refl _ _⟩
  case round =>
    obtain ⟨k, hk, rfl, ho, hB⟩ := hrel
    have HO := Lib.hid ho
    have HB := Lib.hid hB
    clear ho hB
    by_cases hlt : k < ss.length
    · obtain ⟨b, o, rfl, hb, hc⟩ := HT.out k hlt
      have hsn : layAt o1 (ss.take (k + 1)) = layAt o1 (ss.take k) ++ [(((o1 + k : Nat) : Int), ss[k])] := by
        rw [List.take_succ_eq_append_getElem hlt, layAt_snoc]
        simp only [List.length_take]
        rw [Nat.min_eq_left (by omega)]
      have hln : (layAt o1 (ss.take k)).length = k := by rw [layAt_length]; simp; omega
      generalize ss[k] = x at *
      have HBW := Lib.hid (HB0.out.trans (HB.out.mono HB0.out.size))
      have e0 : wr.cell? ⟨b, o + k, none⟩ = some (.string (str x)) := by rw [HBW.out.cell (p := ⟨b, o + k, none⟩) hb]; exact hc
      have hb2 : b < wr.heap.size := Nat.lt_of_lt_of_le hb HBW.out.size
      have hB2 := KB.out.of_block (HB.out.block _ k0)
      have q0 := hB2.cell 0
      have q1 := hB2.cell 1
      have lt2 := hB2.lt
      have hklt : (k : Int) < (ss.length : Int) := by omega
      have HSN := Lib.hid hsn
      have HLN := Lib.hid hln
      clear hc hB2 hsn
      go_wp2_with fail
      refine (HF.out _).mono ?_
      rintro e W1 ⟨rfl, b1⟩
      have ho1 : W1.ownsRow w0.heap.size 49 2 _ _ _ := own_of_block HO.out (fun j hj => b1.block j (own_lt HO.out j hj))
      have HB1 := Lib.hid (HB.out.trans (b1.mono HB.out.size))
      have hown2 := ho1.alloc (.cells #[.int .i64 ((o1 : Int) + (k : Int)), .string (str x)] 49)
      have hnews := news_two W1 49 (.int .i64 ((o1 : Int) + (k : Int))) (.string (str x))
      have HO2 := Lib.hid hown2
      have HNW := Lib.hid hnews
      have HB2 := Lib.hid (HB1.out.alloc HB1.out.size (.cells #[.int .i64 ((o1 : Int) + (k : Int)), .string (str x)] 49))
      clear b1 ho1 hown2 hnews q0 q1
      have hkb : k ≤ 100000 := by omega
      go_wp2_with (at_builtin; refine wpList_append_own _ rfl (.tmp 15) (.tmp 22) 32 rfl w0.heap.size 49 i0 (.agg #[.int .i64 0, .string ByteArray.empty]) 2 24 Tryd.underlying32 hi hz0 hz1 hz2 rfl (by decide) _ (layAt o1 (ss.take k)).length _ rfl HO2.out ⟨W1.heap.size, 0, none⟩ 1 1 [.int .i64 ((o1 : Int) + (k : Int)), .string (str x)] rfl rfl HNW.out (two_one (((o1 : Int) + (k : Int)), x)) ?_ ?_ HB2.out.size ?_)
      · rw [HLN.out]; unfold maxLen; omega
      · rw [HLN.out]; omega
      · intro v' w1 hown1 hgrow _
        have hb1 := HB2.out.grown hgrow HB2.out.size (fun j hj => (HO2.out.lt j hj).1)
        have hos := OWs.snoc (w1 := w1) (B := w0.heap.size) (v' := v') (l := layAt o1 (ss.take k)) (x := ((o1 : Int) + (k : Int), x)) (by rw [HLN.out]; exact hown1)
        have HOS := Lib.hid hos
        have HB3 := Lib.hid hb1
        clear hb1 hos hown1 hgrow
        go_wp2_with fail
        go_roundw
        case rel => exact ⟨k + 1, by omega, by go_num, by rw [HSN.out]; exact HOS.out, HB3.out⟩
        case measure => simp [intOf]; omega
    · obtain rfl : k = ss.length := by omega
      go_wp2_with fail
      go_ret
      have := HO.out
      rw [List.take_length] at this
      refine ⟨_, rfl, ?_, HB0.out.trans (HB.out.mono HB0.out.size)⟩
      exact ows_base this HB0.out.size
end Go.Proofs.YtjllpbckmioiiaaDoor.jr

/- A record's text, read. -/
namespace Go.Proofs.YtjllpbckmioiiaaDoor.jr
open Go Go.RowKit Go.Proofs.YtjllpbckmioiiaaDoor.dk Go.Proofs.YtjllpbckmioiiaaDoor.wi
set_option maxRecDepth 100000

def rdOne (t : Bt) : Option (Wr × Bt) := match rdNum t with
  | none => none
  | some (a, t1) => match rdText t1 with
    | none => none
    | some (v, t2) => some ((((min a 1024 : Nat) : Int), v), t2)

theorem rdW_one (n : Nat) (t : Bt) : rdW (n + 1) t = match rdOne t with | none => none | some (x, r) => match rdW n r with | none => none | some (l, q) => some (x :: l, q) := by
  rw [rdW]
  unfold rdOne
  cases rdNum t with
  | none => rfl
  | some p =>
    obtain ⟨a, t1⟩ := p
    dsimp only
    cases rdText t1 with
    | none => rfl
    | some q => rfl

theorem rdW_snoc : ∀ (k : Nat) (t : Bt), rdW (k + 1) t = match rdW k t with | none => none | some (l, r) => match rdOne r with | none => none | some (x, q) => some (l ++ [x], q)
  | 0, t => by
    rw [rdW_one]
    show _ = match rdOne t with | none => none | some (x, q) => some ([] ++ [x], q)
    cases rdOne t with
    | none => rfl
    | some p => rfl
  | k + 1, t => by
    rw [rdW_one]
    cases h : rdOne t with
    | none =>
      have h2 : rdW (k + 1) t = none := by rw [rdW_one, h]
      rw [h2]
    | some p =>
      obtain ⟨x, r⟩ := p
      have h2 : rdW (k + 1) t = match rdW k r with | none => none | some (l, q) => some (x :: l, q) := by rw [rdW_one, h]
      rw [h2]
      dsimp only
      rw [rdW_snoc k r]
      cases rdW k r with
      | none => rfl
      | some p2 =>
        obtain ⟨l, q⟩ := p2
        dsimp only
        cases rdOne q with
        | none => rfl
        | some p3 => rfl

theorem rdW_none : ∀ (n k : Nat) (t : Bt), k ≤ n → rdW k t = none → rdW n t = none
  | 0, k, t, h, hk => by
    obtain rfl : k = 0 := by omega
    exact hk
  | n + 1, k, t, h, hk => by
    by_cases e : k = n + 1
    · rw [← e]; exact hk
    · rw [rdW_snoc, rdW_none n k t (by omega) hk]

theorem rdW_len : ∀ (n : Nat) (t : Bt) (l : List Wr) (r : Bt), rdW n t = some (l, r) → l.length = n
  | 0, t, l, r, h => by simp [rdW] at h; simp [← h.1]
  | n + 1, t, l, r, h => by
    rw [rdW_one] at h
    cases h1 : rdOne t with
    | none => rw [h1] at h; cases h
    | some p =>
      obtain ⟨x, q⟩ := p
      rw [h1] at h
      dsimp only at h
      cases h2 : rdW n q with
      | none => rw [h2] at h; cases h
      | some p2 =>
        obtain ⟨l2, q2⟩ := p2
        rw [h2] at h
        simp at h
        rw [← h.1]
        simp [rdW_len n q l2 q2 h2]

/-- The cells of a slice that is being filled. -/
def Fill (cs : Array Value) (n : Nat) (l : List Wr) : Prop := cs.size = n * 2 ∧ ∀ i (h : i < l.length), cs[i * 2]? = some (.int .i64 l[i].1) ∧ cs[i * 2 + 1]? = some (.string (str l[i].2))

theorem fill_snoc {cs : Array Value} {n : Nat} {l : List Wr} (h : Fill cs n l) (hl : l.length < n) (x : Wr) : Fill ((cs.setIfInBounds (l.length * 2) (.int .i64 x.1)).setIfInBounds (l.length * 2 + 1) (.string (str x.2))) n (l ++ [x]) := by
  obtain ⟨h1, h2⟩ := h
  refine ⟨by simpa using h1, fun i hi => ?_⟩
  by_cases hil : i < l.length
  · rw [List.getElem_append_left hil]
    obtain ⟨g1, g2⟩ := h2 i hil
    constructor
    · rw [Array.getElem?_setIfInBounds_ne (by omega), Array.getElem?_setIfInBounds_ne (by omega)]
      exact g1
    · rw [Array.getElem?_setIfInBounds_ne (by omega), Array.getElem?_setIfInBounds_ne (by omega)]
      exact g2
  · have e : i = l.length := by simp at hi; omega
    subst e
    rw [List.getElem_append_right (Nat.le_refl _)]
    simp only [Nat.sub_self, List.getElem_cons_zero]
    constructor
    · rw [Array.getElem?_setIfInBounds_ne (by omega), Array.getElem?_setIfInBounds_self_of_lt (by omega)]
    · rw [Array.getElem?_setIfInBounds_self_of_lt (by rw [Array.size_setIfInBounds]; omega)]

def S0 (n : Nat) (r0 : Bt) (rb k : Nat) (cs : Array Value) (wr : World) : Prop :=
  (∃ l r, rdW k r0 = some (l, r) ∧ Fill cs n l ∧ RdAt rb r false wr ∧ ∀ x ∈ l, i64B x.1) ∨ (rdW n r0 = none ∧ ∃ m, RdAt rb m true wr)
def S1 (n : Nat) (r0 : Bt) (rb k : Nat) (cs : Array Value) (z : Nat) (wr : World) : Prop :=
  (∃ l r r1, rdW k r0 = some (l, r) ∧ Fill cs n l ∧ rdNum r = some (z, r1) ∧ RdAt rb r1 false wr ∧ ∀ x ∈ l, i64B x.1) ∨ (rdW n r0 = none ∧ ∃ m, RdAt rb m true wr)
def S2 (n : Nat) (r0 : Bt) (rb k : Nat) (cs : Array Value) (z : Nat) (t : Bt) (wr : World) : Prop :=
  (∃ l r, rdW k r0 = some (l, r) ∧ Fill cs n l ∧ (∀ x ∈ l, i64B x.1) ∧ ∃ q, rdW (k + 1) r0 = some (l ++ [(((min z 1024 : Nat) : Int), t)], q) ∧ RdAt rb q false wr) ∨ (rdW n r0 = none ∧ ∃ m, RdAt rb m true wr)

def NumPost (n : Nat) (r0 : Bt) (rb k : Nat) (cs : Array Value) (w : World) (e : Ending) (w' : World) : Prop :=
  ∃ z : Nat, e = .returned (.int .u64 (z : Int)) ∧ z < 18446744073709551616 ∧ w.grownBy w' (some rb) ∧ S1 n r0 rb k cs z w'
def TextPost (n : Nat) (r0 : Bt) (rb k : Nat) (cs : Array Value) (z : Nat) (w : World) (e : Ending) (w' : World) : Prop :=
  ∃ t : Bt, e = .returned (.string (str t)) ∧ w.grownBy w' (some rb) ∧ S2 n r0 rb k cs z t w'

theorem num_state {n : Nat} {r0 : Bt} {rb k : Nat} {cs : Array Value} {w : World} (hk : k < n) (h : S0 n r0 rb k cs w) : Calls Tryd.prog 44 #[.pointer (some ⟨rb, 0, none⟩)] w (NumPost n r0 rb k cs w) := by
  rcases h with ⟨l, r, h1, h2, h3, h4⟩ | ⟨h1, m, h2⟩
  · refine (num_good1 rb r w h3).mono ?_
    rintro e w' ⟨hg, ⟨z, r1, hn, rfl, hr⟩ | ⟨hn, rfl, hm⟩⟩
    · exact ⟨z, rfl, (rdNum_is _ _ _ hn).2, hg, .inl ⟨l, r, r1, h1, h2, hn, hr, h4⟩⟩
    · refine ⟨0, rfl, by decide, hg, .inr ⟨?_, hm⟩⟩
      refine rdW_none n (k + 1) r0 (by omega) ?_
      rw [rdW_snoc, h1]
      dsimp only
      have : rdOne r = none := by unfold rdOne; rw [hn]
      rw [this]
  · refine (num_bad1 rb m w h2).mono ?_
    rintro e w' ⟨rfl, rfl⟩
    exact ⟨0, rfl, by decide, grown_refl _ _, .inr ⟨h1, m, h2⟩⟩

theorem text_state {n : Nat} {r0 : Bt} {rb k : Nat} {cs : Array Value} {z : Nat} {w : World} (hk : k < n) (h : S1 n r0 rb k cs z w) : Calls Tryd.prog 77 #[.pointer (some ⟨rb, 0, none⟩)] w (TextPost n r0 rb k cs z w) := by
  rcases h with ⟨l, r, r1, h1, h2, hn, h3, h4⟩ | ⟨h1, m, h2⟩
  · refine (text_good1 rb r1 w h3).mono ?_
    rintro e w' ⟨hg, ⟨t, r2, ht, rfl, hr⟩ | ⟨ht, rfl, hm⟩⟩
    · refine ⟨t, rfl, hg, .inl ⟨l, r, h1, h2, h4, r2, ?_, hr⟩⟩
      rw [rdW_snoc, h1]
      dsimp only
      have : rdOne r = some ((((min z 1024 : Nat) : Int), t), r2) := by
        unfold rdOne
        rw [hn]
        dsimp only
        rw [ht]
      rw [this]
    · refine ⟨[], rfl, hg, .inr ⟨?_, hm⟩⟩
      refine rdW_none n (k + 1) r0 (by omega) ?_
      rw [rdW_snoc, h1]
      dsimp only
      have : rdOne r = none := by
        unfold rdOne
        rw [hn]
        dsimp only
        rw [ht]
      rw [this]
  · refine (text_bad1 rb m w h2).mono ?_
    rintro e w' ⟨rfl, rfl⟩
    exact ⟨[], rfl, grown_refl _ _, .inr ⟨h1, m, h2⟩⟩

def TakeRel (w : World) (rb g n : Nat) (r0 : Bt) (i : Value) (wr : World) : Prop :=
  ∃ (k : Nat) (cs : Array Value), k ≤ n ∧ i = .int .i64 (k : Int) ∧ Blk wr g 49 cs ∧ cs.size = n * 2 ∧ Below w.heap.size w wr ∧ S0 n r0 rb k cs wr

def TakePost (r : Option (List Wr)) (w : World) (e : Ending) (w' : World) : Prop :=
  Below w.heap.size w w' ∧ match r with
    | some l => ∃ A c, e = .returned (.tuple #[.slice A l.length c, .bool true]) ∧ WsAt w' A l
    | none => ∃ A n c, e = .returned (.tuple #[.slice A n c, .bool false])

theorem make_wr (n : Nat) (h : n ≤ 60) (W : World) : (Instr.makeSlice 32 (.int .u64 (n : Int)) (.int .u64 (n : Int))).run Tryd.prog W = .ok (.slice (some ⟨W.heap.size, 0, none⟩) n n) (W.alloc (.cells (madeCells #[.int .i64 0, .string ByteArray.empty] (n * 2)) 49)) := by
  obtain ⟨i0, hi, hz0, hz1, hz2⟩ := info_parts infoWr
  have hmk := run_make (P := Tryd.prog) W 32 49 i0 (.agg #[.int .i64 0, .string ByteArray.empty]) Tryd.underlying32 hi hz0 .u64 .u64 (n : Int) (n : Int) (by omega) (by omega) (by rw [hz2]; omega) (by omega)
  rw [hz1] at hmk
  simpa [Value.cells] using hmk

theorem rdAt_set {rb g i : Nat} {l : Bt} {x : Bool} {W : World} {cs : Array Value} {u : Value} (h : RdAt rb l x W) (hB : Blk W g 49 cs) : RdAt rb l x (W.setCell ⟨g, i, none⟩ u) := by
  obtain ⟨q, o, cap, h1, h2, h3, h4⟩ := h
  have n1 : rb ≠ g := by
    rintro rfl
    unfold Blk at hB
    rw [h1] at hB
    simp at hB
  have n2 : q ≠ g := by
    rintro rfl
    obtain ⟨cs', fr, hq, _⟩ := h2
    unfold Blk at hB
    rw [hq] at hB
    simp at hB
  exact ⟨q, o, cap, by rw [Below.heap_setCell W ⟨g, i, none⟩ u rb n1]; exact h1, h2.keep (Below.heap_setCell W ⟨g, i, none⟩ u q n2), h3, h4⟩

set_option maxHeartbeats 3200000 in
theorem take_any (s : ByteArray) (w : World) (hs : s.size ≤ 140737488355328) :
    Calls Tryd.prog 60 #[.string s] w (TakePost (takeB (bl s)) w) := by
  obtain ⟨res, hres⟩ : ∃ x, takeB (bl s) = x := ⟨_, rfl⟩
  rw [hres]
  have HRES := Lib.hid hres
  clear hres
  go_enter Tryd.func60, Tryd.ntmps60
  go_wp2_with fail
  refine (new_any s w hs).mono ?_
  rintro e W1 ⟨rb, rfl, hrb, hR, b1⟩
  have HR := Lib.hid hR
  have HB1 := Lib.hid b1
  clear hR b1
  go_wp2_with fail
  refine (num_good1 rb (bl s) W1 HR.out).mono ?_
  rintro e W2 ⟨g2, ⟨n, r0, hn, rfl, hR2⟩ | ⟨hn, rfl, m, hR2⟩⟩
  · have hres : res = if n < 1 ∨ 60 < n then none else match rdW n r0 with | some (l, []) => some l | _ => none := by
      have h := HRES.out
      unfold takeB at h
      rw [hn] at h
      exact h.symm
    have HR2 := Lib.hid hR2
    have HB2 := Lib.hid (HB1.out.grown g2 HB1.out.size (fun j hj => by simp at hj; omega))
    clear hR2 g2 HR HB1 HRES hn
    by_cases hlo : n < 1
    · have c1 : ((n : Int) < 1) := by omega
      rw [if_pos (.inl hlo)] at hres
      subst hres
      go_wp2_with fail
      go_ret2
      exact ⟨HB2.out, _, _, _, rfl⟩
    · by_cases hhi : 60 < n
      · have c1 : ¬ ((n : Int) < 1) := by omega
        have c2 : (60 : Int) < (n : Int) := by omega
        rw [if_pos (.inr hhi)] at hres
        subst hres
        go_wp2_with fail
        go_ret2
        exact ⟨HB2.out, _, _, _, rfl⟩
      · rw [if_neg (by omega)] at hres
        have c1 : ¬ ((n : Int) < 1) := by omega
        have c2 : ¬ (60 : Int) < (n : Int) := by omega
        have HRES := Lib.hid hres
        clear hres
        have hmk := make_wr n (by omega)
        have kb : Blk (W2.alloc (.cells (madeCells #[.int .i64 0, .string ByteArray.empty] (n * 2)) 49)) W2.heap.size _ _ := Blk.new W2 _ _
        have hR3 : RdAt rb r0 false (W2.alloc (.cells (madeCells #[.int .i64 0, .string ByteArray.empty] (n * 2)) 49)) := HR2.out.below ((Below.refl W2.heap.size W2).alloc (Nat.le_refl _) _)
        have hB3 : Below w.heap.size w (W2.alloc (.cells (madeCells #[.int .i64 0, .string ByteArray.empty] (n * 2)) 49)) := HB2.out.alloc HB2.out.size _
        have hgg : w.heap.size ≤ W2.heap.size := HB2.out.size
        have hcz : (madeCells #[.int .i64 0, .string ByteArray.empty] (n * 2)).size = n * 2 := size_madeCells _ _
        have HCZ := Lib.hid hcz
        clear hcz
        go_wp2_with fail
        clear hmk
        generalize W2.heap.size = g at *
        generalize madeCells #[.int .i64 0, .string ByteArray.empty] (n * 2) = cs0 at *
        generalize W2.alloc (.cells cs0 49) = W3 at *
        go_loopw [22] (fun i wr => TakeRel w rb g n r0 i wr) (fun i _ => n - (intOf i).toNat)
        case atStart => exact ⟨0, cs0, Nat.zero_le _, rfl, kb, HCZ.out, hB3, .inl ⟨[], r0, rfl, ⟨HCZ.out, fun i h => by simp at h⟩, hR3, fun x hx => by cases hx⟩⟩
        case round =>
          clear kb hR3 hB3 HB2 HR2 HCZ
          obtain ⟨k, cs, hk, rfl, hbk, hcs, hB, hst⟩ := hrel
          have HBK := Lib.hid hbk
          have HB := Lib.hid hB
          have HST := Lib.hid hst
          clear hbk hB hst
          have hgl := HBK.out.lt
          have hrbg : rb ≠ g := by
            intro e
            have hb2 := HBK.out
            unfold Blk at hb2
            rcases HST.out with ⟨_, _, _, _, ⟨_, _, _, h, _⟩, _⟩ | ⟨_, _, _, _, _, h, _⟩
            all_goals
              rw [e, hb2] at h
              simp at h
          by_cases hlt : k < n
          · have hklt : (k : Int) < (n : Int) := by omega
            go_wp2_with fail
            refine (num_state hlt HST.out).mono ?_
            rintro e Wa ⟨z, rfl, hz64, ga, hs1⟩
            have hba : Blk Wa g 49 cs := HBK.out.of_block (ga.block g hgl (by simpa using Ne.symm hrbg))
            have HBA := Lib.hid hba
            have HS1 := Lib.hid hs1
            have HB1 := Lib.hid (HB.out.grown ga HB.out.size (fun j hj => by simp at hj; omega))
            have hla := hba.lt
            obtain ⟨old0, hc0⟩ : ∃ u, cs[k * 2]? = some u := ⟨_, Array.getElem?_eq_getElem (by omega)⟩
            have ea : Wa.cell? ⟨g, k * 2, none⟩ = some old0 := by rw [hba.cell]; exact hc0
            have fa : Wa.frozen? ⟨g, k * 2, none⟩ = false := hba.frozen _
            have hmin : min (z : Int) 1024 = ((min z 1024 : Nat) : Int) := by omega
            have hmn : min z 1024 ≤ 1024 := Nat.min_le_right _ _
            obtain ⟨mz, hmz⟩ : ∃ x, min z 1024 = x := ⟨_, rfl⟩
            rw [hmz] at hmin hmn
            have HMZ := Lib.hid hmz
            have hmi : (mz : Int) ≤ 1024 := by omega
            clear hba ga hs1 hc0 hmz HB HBK HST
            go_wp2_with fail
            have hbb := HBA.out.set_ (k * 2) (.int .i64 (mz : Int))
            have hs1' : S1 n r0 rb k cs z (Wa.setCell ⟨g, k * 2, none⟩ (.int .i64 (mz : Int))) := by
              rcases HS1.out with ⟨l, r, r1, h1, h2, h3, h4, h5⟩ | ⟨h1, m, h2⟩
              · exact .inl ⟨l, r, r1, h1, h2, h3, rdAt_set h4 HBA.out, h5⟩
              · exact .inr ⟨h1, m, rdAt_set h2 HBA.out⟩
            have HBB := Lib.hid hbb
            have HS1' := Lib.hid hs1'
            have HB1' := Lib.hid (HB1.out.setCell (p := ⟨g, k * 2, none⟩) (Nat.le_trans hgg (Nat.le_refl _)) (.int .i64 (mz : Int)))
            clear hbb hs1' ea fa HBA HS1 HB1
            refine (text_state hlt HS1'.out).mono ?_
            rintro e Wc ⟨t, rfl, gc, hs2⟩
            have hbc : Blk Wc g 49 (cs.setIfInBounds (k * 2) (.int .i64 (mz : Int))) := HBB.out.of_block (gc.block g HBB.out.lt (by simpa using Ne.symm hrbg))
            have HBC := Lib.hid hbc
            have HS2 := Lib.hid hs2
            have HB2 := Lib.hid (HB1'.out.grown gc HB1'.out.size (fun j hj => by simp at hj; omega))
            have hlc := hbc.lt
            obtain ⟨old1, hc1⟩ : ∃ u, (cs.setIfInBounds (k * 2) (.int .i64 (mz : Int)))[k * 2 + 1]? = some u := ⟨_, Array.getElem?_eq_getElem (by rw [Array.size_setIfInBounds]; omega)⟩
            have ec : Wc.cell? ⟨g, k * 2 + 1, none⟩ = some old1 := by rw [hbc.cell]; exact hc1
            have fc : Wc.frozen? ⟨g, k * 2 + 1, none⟩ = false := hbc.frozen _
            clear hbc gc hs2 hc1 HBB HS1' HB1'
            go_wp2_with fail
            go_roundw
            case rel =>
              refine ⟨k + 1, _, by omega, by go_num, HBC.out.set_ (k * 2 + 1) (.string (str t)), by simp [hcs], HB2.out.setCell (p := ⟨g, k * 2 + 1, none⟩) (Nat.le_trans hgg (Nat.le_refl _)) _, ?_⟩
              rcases HS2.out with ⟨l, r, h1, h2, h3, q, h4, h5⟩ | ⟨h1, m, h2⟩
              · have hl := rdW_len k r0 l r h1
                subst hl
                rw [HMZ.out] at h4
                refine .inl ⟨_, q, h4, fill_snoc h2 hlt ((mz : Int), t), rdAt_set h5 HBC.out, fun x hx => ?_⟩
                rcases List.mem_append.1 hx with hx | hx
                · exact h3 x hx
                · obtain rfl : x = _ := by simpa using hx
                  unfold i64B
                  dsimp only
                  omega
              · exact .inr ⟨h1, m, rdAt_set h2 HBC.out⟩
            case measure => simp [intOf]; omega
          · obtain rfl : k = n := by omega
            have hres := HRES.out
            rcases HST.out with ⟨l, r, h1, h2, h3, h4⟩ | ⟨h1, m, h2⟩
            · have hl := rdW_len k r0 l r h1
              rw [h1] at hres
              have H3 := Lib.hid h3
              have H2 := Lib.hid h2
              have H4 := Lib.hid h4
              have HRS := Lib.hid hres
              clear h1 h2 h3 h4 hres HRES HST
              go_wp2_with (go_at_call 78; refine (end_good rb r _ H3.out).mono ?_; rintro e w' ⟨rfl, rfl⟩)
              go_ret2
              refine ⟨HB.out, ?_⟩
              rw [HRS.out]
              cases r with
              | nil =>
                subst hl
                refine ⟨_, _, rfl, fun i hi => ⟨g, 0, rfl, hgl, ?_, ?_, H4.out _ (List.getElem_mem hi)⟩⟩
                · rw [Nat.zero_add, HBK.out.cell]
                  exact (H2.out.2 i hi).1
                · rw [Nat.zero_add, HBK.out.cell]
                  exact (H2.out.2 i hi).2
              | cons x r => exact ⟨_, _, _, rfl⟩
            · rw [h1] at hres
              dsimp only at hres
              have H2 := Lib.hid h2
              have HRS := Lib.hid hres
              clear h1 h2 hres HRES HST
              go_wp2_with (go_at_call 78; refine (end_bad rb m _ H2.out).mono ?_; rintro e w' ⟨rfl, rfl⟩)
              go_ret2
              refine ⟨HB.out, ?_⟩
              rw [HRS.out]
              exact ⟨_, _, _, rfl⟩
  · have hres : res = none := by rw [← HRES.out]; unfold takeB; rw [hn]
    subst hres
    have HB2 := Lib.hid (HB1.out.grown g2 HB1.out.size (fun j hj => by simp at hj; omega))
    clear hR2 g2 HR HB1
    go_wp2_with fail
    go_ret2
    exact ⟨HB2.out, _, _, _, rfl⟩
end Go.Proofs.YtjllpbckmioiiaaDoor.jr


/- RcGuids, RcNew, AppAt, RcPush, RcSnap, RcRoll. -/
import Derived.Test.YtfinmfmbbgakhaaQ0
import Derived.Test.YtfinmfmbbgakhaaQ5
import Derived.Test.YtfinmfmbbgakhaaQ7
import Derived.Maps.AppendAt
import Derived.Tactics
import Derived.Great.BuildSlice
/- The document's List. -/
namespace Go.Proofs.Ytfinmfmbbgakhaa.ch
open Go Go.RowKit Go.Sort Go.Proofs.Ytfinmfmbbgakhaa.ib
set_option maxRecDepth 100000

theorem infoGd : (Try.prog.info? 37).map (fun i => (i.zero, i.size, i.bytes)) = some (some (.agg #[.int .u64 0, .int .u64 0]), 2, 16) := by kernel_rfl
def gdVals : List Gd → List Value
  | [] => []
  | x :: r => .int .u64 (x.1 : Int) :: .int .u64 (x.2 : Int) :: gdVals r
def OGds (w : World) (B : Nat) (v : Value) (l : List Gd) : Prop := w.ownsRow B 37 2 v l.length (gdVals l)
theorem gdVals_append : ∀ (l r : List Gd), gdVals (l ++ r) = gdVals l ++ gdVals r
  | [], _ => rfl
  | x :: l, r => by simp [gdVals, gdVals_append l r]
theorem gdVals_get : ∀ (l : List Gd) (i : Nat) (h : i < l.length), (gdVals l)[i * 2]? = some (.int .u64 (l[i].1 : Int)) ∧ (gdVals l)[i * 2 + 1]? = some (.int .u64 (l[i].2 : Int))
  | x :: l, 0, _ => ⟨rfl, rfl⟩
  | x :: l, i + 1, h => by
    have := gdVals_get l i (by simpa using h)
    rw [show (i + 1) * 2 = i * 2 + 1 + 1 from by omega]
    exact this
theorem OGds.view {w : World} {B : Nat} {v : Value} {l : List Gd} (h : OGds w B v l) (hz : ∀ x ∈ l, gdB x) : ∃ a c, v = .slice a l.length c ∧ GdL w a l ∧ ∀ b o, a = some ⟨b, o, none⟩ → B ≤ b ∧ b < w.heap.size := by
  rcases h.2 with ⟨rfl, h0⟩ | ⟨g, cap, cur, rfl, hg, hh, hcc, hm, hcs, hcur⟩
  · obtain rfl : l = [] := List.length_eq_zero_iff.1 h0
    exact ⟨none, 0, rfl, fun i h => by simp at h, fun b o e => by cases e⟩
  · refine ⟨some ⟨g, 0, none⟩, cap, rfl, fun i hi => ?_, fun b o e => ?_⟩
    · have key : ∀ (j : Nat) (u : Value), (gdVals l)[j]? = some u → w.cell? ⟨g, j, none⟩ = some u := by
        intro j u hu
        rw [cell_of_row w g j cur 37 (0, 0) hh]
        rw [← hcur, List.getElem?_take] at hu
        split at hu
        · simpa using hu
        · cases hu
      obtain ⟨g0, g1⟩ := gdVals_get l i hi
      exact ⟨g, 0, rfl, (Array.getElem?_eq_some_iff.1 hh).1, by rw [Nat.zero_add]; exact key _ _ g0, by rw [Nat.zero_add]; exact key _ _ g1, hz _ (List.getElem_mem hi)⟩
    · simp only [Option.some.injEq, Addr.mk.injEq, and_true] at e
      obtain ⟨rfl, _⟩ := e
      exact ⟨hg, (Array.getElem?_eq_some_iff.1 hh).1⟩
theorem two_ints (a b : Int) : ∀ u ∈ ([Value.int .u64 a, .int .u64 b] : List Value), u.oneCell' = true := by
  intro u hu
  simp at hu
  rcases hu with rfl | rfl <;> rfl
theorem news_2 (w : World) (t : TypeId) (v u : Value) : ∀ (j : Nat) (x : Value), ([v, u] : List Value)[j]? = some x → (w.alloc (.cells #[v, u] t)).cell? ((⟨w.heap.size, 0, none⟩ : Addr).add j) = some x := by
  intro j x hj
  match j, hj with
  | 0, hj =>
    simp at hj
    subst hj
    rw [addr_add]
    exact (Blk.new w t #[v, u]).cell 0
  | 1, hj =>
    simp at hj
    subst hj
    rw [addr_add]
    exact (Blk.new w t #[v, u]).cell 1

def LiRel (xs : List RSn) (w : World) (v i : Value) (wr : World) : Prop :=
  ∃ k : Nat, k ≤ xs.length ∧ i = .int .i64 (k : Int) ∧ OGds wr w.heap.size v ((xs.map (·.1.g)).take k) ∧ Below w.heap.size w wr

set_option maxHeartbeats 3200000 in
theorem rlist_any {own : Nat → Prop} {w : World} {p : Nat} {d : CH} (h : RcIs own w p d) : Calls Try.prog 44 #[.pointer (some ⟨p, 0, none⟩)] w (okGd d.list w) := by
  obtain ⟨i0, hi, hz0, hz1, hz2⟩ := info_parts infoGd
  obtain ⟨h0, gn, cn, v, xs, hr⟩ := h
  obtain ⟨c0, c1⟩ := blk2 hr.blk
  have hplt := hr.blk.lt
  obtain ⟨A, c, rfl, _, _, _, hx⟩ := row_view hr.row
  have h20 : xs.length ≤ 20 := by have := h0.few; rw [hr.len]; exact this
  have HX := Lib.hid hx
  have C1 := Lib.hid c1
  have HLI : Hid (xs.map (·.1.g) = d.list) := by
    unfold Hid CH.list
    rw [← hr.eq, List.map_map]
    rfl
  have HGB : Hid (∀ x ∈ d.list, gdB x) := fun x hx => by
    obtain ⟨s, hs, rfl⟩ := List.mem_map.1 hx
    exact h0.gds s hs
  clear hx c1 hr h0 c0
  go_enter Try.func44, Try.ntmps44
  go_wp2_with fail
  go_loopw [3, 4] (fun v i wr => LiRel xs w v i wr) (fun _ i _ => xs.length - (intOf i).toNat)
  case atStart => exact ⟨0, Nat.zero_le _, rfl, World.ownsRow_nil _ _ _ _, Below.refl _ _⟩
  case round =>
    obtain ⟨k, hk, rfl, ho, hB⟩ := hrel
    have HO := Lib.hid ho
    have HB := Lib.hid hB
    have c1 : wr.cell? ⟨p, 1, none⟩ = some (.slice A xs.length c) := by rw [HB.out.cell (p := ⟨p, 1, none⟩) hplt]; exact C1.out
    clear ho hB
    by_cases hlt : k < xs.length
    · obtain ⟨gr, rfl, hgl, _, g0, g1, _, _⟩ := HX.out k hlt
      have e0 : wr.cell? ⟨gr, k * 4, none⟩ = some (.int .u64 (xs[k].1.g.1 : Int)) := by rw [HB.out.cell (p := ⟨gr, k * 4, none⟩) hgl]; exact g0
      have e1 : wr.cell? ⟨gr, k * 4 + 1, none⟩ = some (.int .u64 (xs[k].1.g.2 : Int)) := by rw [HB.out.cell (p := ⟨gr, k * 4 + 1, none⟩) hgl]; exact g1
      have hki : (k : Int) < (xs.length : Int) := by omega
      have hsn : (xs.map (·.1.g)).take (k + 1) = (xs.map (·.1.g)).take k ++ [xs[k].1.g] := by rw [List.take_succ_eq_append_getElem (by simpa using hlt)]; simp
      have hln : ((xs.map (·.1.g)).take k).length = k := by rw [List.length_take, List.length_map]; omega
      have HSN := Lib.hid hsn
      have HLN := Lib.hid hln
      clear g0 g1 hsn hln
      generalize xs[k].1.g = G at *
      have HNW := Lib.hid (news_2 wr 37 (.int .u64 (G.1 : Int)) (.int .u64 (G.2 : Int)))
      have HB2 := Lib.hid (HB.out.alloc HB.out.size (.cells #[.int .u64 (G.1 : Int), .int .u64 (G.2 : Int)] 37))
      have ho := HO.out
      unfold OGds at ho
      rw [HLN.out] at ho
      have HO2 := Lib.hid (World.ownsRow.alloc ho (.cells #[.int .u64 (G.1 : Int), .int .u64 (G.2 : Int)] 37))
      clear ho HO
      go_wp2_with (at_builtin; refine wpList_append_own _ rfl (.tmp 14) (.tmp 23) 57 rfl w.heap.size 37 i0 (.agg #[.int .u64 0, .int .u64 0]) 2 16 Try.underlying57 hi hz0 hz1 hz2 rfl (by decide) _ k _ rfl HO2.out ⟨wr.heap.size, 0, none⟩ 1 1 [.int .u64 (G.1 : Int), .int .u64 (G.2 : Int)] rfl rfl HNW.out (two_ints _ _) ?_ ?_ HB2.out.size ?_)
      · unfold maxLen; omega
      · omega
      · intro v' w1 hown hgrow _
        have HB3 := Lib.hid (HB2.out.grown hgrow HB2.out.size (fun j hj => (HO2.out.lt j hj).1))
        have HOS : Hid (OGds w1 w.heap.size v' ((xs.map (·.1.g)).take (k + 1))) := by
          unfold Hid OGds
          rw [HSN.out, List.length_append, gdVals_append, HLN.out]
          show World.ownsRow _ _ _ _ _ (k + 1) (_ ++ [_, _])
          exact hown
        clear hown hgrow
        go_wp2_with fail
        go_roundw
        case rel => exact ⟨k + 1, by omega, by go_num, HOS.out, HB3.out⟩
        case measure => simp [intOf]; omega
    · have hki : ¬ (k : Int) < (xs.length : Int) := by omega
      have he : (xs.map (·.1.g)).take k = d.list := by rw [List.take_of_length_le (by rw [List.length_map]; omega)]; exact HLI.out
      have ho := HO.out
      rw [he] at ho
      obtain ⟨a, cc, rfl, hl, hb⟩ := ho.view HGB.out
      have HL := Lib.hid hl
      have HBB := Lib.hid hb
      clear ho he hl hb HO
      go_wp2_with fail
      go_ret
      exact ⟨a, cc, rfl, HL.out, HBB.out, HB.out⟩
end Go.Proofs.Ytfinmfmbbgakhaa.ch

/- The document's New. -/
namespace Go.Proofs.Ytfinmfmbbgakhaa.ch
open Go Go.RowKit Go.Sort Go.Proofs.Ytfinmfmbbgakhaa.ib
set_option maxRecDepth 100000

theorem ok_new (n : Nat) (h1 : 1 ≤ n) (h8 : n ≤ 8) : (chNew n).ok := by
  have hl : (chNew n).live.length = n := zvol_len n
  refine ⟨?_, ?_, ?_, fun s hs => by simp [chNew] at hs, by simp [chNew], fun s hs => by simp [chNew] at hs⟩
  · rw [hl]; exact zvol_ok n
  · rw [hl]; exact h1
  · rw [hl]; exact h8

set_option maxHeartbeats 1600000 in
theorem rnew_none (b : Int) (w : World) (hb : b < 1 ∨ 8 < b) : Calls Try.prog 9 #[.int .i64 b] w fun e w' => e = .returned (.pointer none) ∧ Below w.heap.size w w' := by
  have hcs : b < 1 ∨ (¬ b < 1 ∧ 8 < b) := by omega
  clear hb
  rcases hcs with h | ⟨h, h2⟩
  all_goals
    go_enter Try.func9, Try.ntmps9
    go_wp2_with fail
    go_ret
    exact ⟨rfl, Below.refl _ _⟩

set_option maxHeartbeats 1600000 in
theorem rnew_some (n : Nat) (w : World) (h1 : 1 ≤ n) (h8 : n ≤ 8) : Calls Try.prog 9 #[.int .i64 (n : Int)] w fun e w' => ∃ p own, e = .returned (.pointer (some ⟨p, 0, none⟩)) ∧ RcIs own w' p (chNew n) ∧ Below w.heap.size w w' ∧ ∀ j, own j → w.heap.size ≤ j := by
  have HZ := Lib.hid (rzeros_any n w h1 h8)
  have HOK := Lib.hid (ok_new n h1 h8)
  have k1 : ¬ (n : Int) < 1 := by omega
  have k2 : ¬ (8 : Int) < (n : Int) := by omega
  go_enter Try.func9, Try.ntmps9
  go_wp2_with fail
  refine HZ.out.mono ?_
  rintro e W ⟨g, c, rfl, hg, hc, ht, hb⟩
  rw [zvol_len] at hc ⊢
  have HT := Lib.hid ht
  have HB := Lib.hid hb
  clear ht hb
  go_wp2_with fail
  go_ret
  have hW := HT.out.lt
  have hl : (chNew n).live.length = n := zvol_len n
  refine ⟨W.heap.size, fun j => j = g ∨ j = W.heap.size, rfl, ⟨HOK.out, g, c, .slice none 0 0, [], ?_⟩, HB.out.alloc HB.out.size _, fun j hj => ?_⟩
  · refine ⟨?_, HT.out.of_block (Below.heap_alloc _ _ _ hW), ⟨rfl, .inl ⟨rfl, rfl⟩⟩, rfl, fun x hx => by simp at hx, ⟨by rw [hl]; exact hc, fun x hx => by simp at hx⟩, .inr rfl, .inl rfl, (fun k hk => by cases hk), fun x hx => by simp at hx, fun x hx => by simp at hx, fun j hj => ?_⟩
    · rw [hl]
      exact Blk.new W _ _
    · have : (W.alloc (.cells #[.slice (some ⟨g, 0, none⟩) n c, .slice none 0 0] 76)).heap.size = W.heap.size + 1 := by simp
      rcases hj with rfl | rfl <;> omega
  · have := HB.out.size
    rcases hj with rfl | rfl <;> omega
end Go.Proofs.Ytfinmfmbbgakhaa.ch

/- append, and where the list then lies. -/
namespace Go.Proofs.Ytfinmfmbbgakhaa
open Go Go.RowKit
set_option maxRecDepth 100000

theorem wpList_append_at {P : Program} {ops : Array Oper} {rest : List Oper} {o : Oper} {a : Act} {w : World} {Q : Exit → Act → World → Prop} (hgd : o.guard = none) (s x : Operand) (t : TypeId)
    (ho : o.op = .call { callee := .builtin .append, args := #[s, x], argTypes := #[t, t] })
    (base : Nat) (e : TypeId) (i : TypeInfo) (z : Value) (size bytes : Nat) (ht : P.underlying t = some (.slice e)) (hi : P.info? e = some i) (hz : i.zero = some z)
    (hsize : i.size = size) (hby : i.bytes = bytes) (hzs : z.cells.size = size) (hsz : 0 < size)
    (v : Value) (n : Nat) (xs : List Value) (hs : a.eval s = v) (hown : w.ownsRow base e size v n xs)
    (ad : Addr) (m c : Nat) (news : List Value) (hx : a.eval x = .slice (some ad) m c) (hl : news.length = m * size) (hnews : ∀ j u, news[j]? = some u → w.cell? (ad.add j) = some u) (h1 : ∀ u ∈ news, u.oneCell' = true)
    (h63 : n + m ≤ maxLen) (hbytes : (n + m) * bytes ≤ 140737488355328) (hbase : base ≤ w.heap.size)
    (h : ∀ v' w', w'.ownsRow base e size v' (n + m) (xs ++ news) → w.grownBy w' v.ownBlock → (v'.ownBlock = v.ownBlock ∨ v'.ownBlock = some w.heap.size) → wpList P ops Q rest (a.put o.dst v') w') : wpList P ops Q (o :: rest) a w := by
  refine wpList_plain hgd fun K hK => ?_
  obtain ⟨v', w', hrun, h2, h3, _, h5⟩ := run_append_own_at (P := P) w base t o.type e i z size bytes ht hi hz hsize hby hzs hsz v n xs hown ad m c news hl hnews h1 h63 hbytes hbase
  unfold Oper.wp
  simp [execOp, ho, resolve, invoke, builtin, hs, hx, hrun, Result.andThen]
  exact hK _ _ (h v' w' h2 h3 h5)
end Go.Proofs.Ytfinmfmbbgakhaa

/- A snapshot more in the document's chain, as memory. -/
namespace Go.Proofs.Ytfinmfmbbgakhaa.ch
open Go Go.RowKit Go.Sort Go.Proofs.Ytfinmfmbbgakhaa.ib
set_option maxRecDepth 100000

theorem wp_append_at {P : Program} {o : Oper} {a : Act} {w : World} {K : Act → World → Prop} {Q : Exit → Act → World → Prop} (s x : Operand) (t : TypeId)
    (ho : o.op = .call { callee := .builtin .append, args := #[s, x], argTypes := #[t, t] })
    (base : Nat) (e : TypeId) (i : TypeInfo) (z : Value) (size bytes : Nat) (ht : P.underlying t = some (.slice e)) (hi : P.info? e = some i) (hz : i.zero = some z)
    (hsize : i.size = size) (hby : i.bytes = bytes) (hzs : z.cells.size = size) (hsz : 0 < size)
    (v : Value) (n : Nat) (xs : List Value) (hs : a.eval s = v) (hown : w.ownsRow base e size v n xs)
    (ad : Addr) (m c : Nat) (news : List Value) (hx : a.eval x = .slice (some ad) m c) (hl : news.length = m * size) (hnews : ∀ j u, news[j]? = some u → w.cell? (ad.add j) = some u) (h1 : ∀ u ∈ news, u.oneCell' = true)
    (h63 : n + m ≤ maxLen) (hbytes : (n + m) * bytes ≤ 140737488355328) (hbase : base ≤ w.heap.size)
    (h : ∀ v' w', w'.ownsRow base e size v' (n + m) (xs ++ news) → w.grownBy w' v.ownBlock → (v'.ownBlock = v.ownBlock ∨ v'.ownBlock = some w.heap.size) → K (a.put o.dst v') w') : o.wp P a w K Q := by
  obtain ⟨v', w', hrun, h2, h3, _, h5⟩ := run_append_own_at (P := P) w base t o.type e i z size bytes ht hi hz hsize hby hzs hsz v n xs hown ad m c news hl hnews h1 h63 hbytes hbase
  unfold Oper.wp
  simp [execOp, ho, resolve, invoke, builtin, hs, hx, hrun, Result.andThen]
  exact h v' w' h2 h3 h5

theorem own_form {w : World} {base e size n : Nat} {v : Value} {xs : List Value} (h : w.ownsRow base e size v n xs) : ∃ A c, v = .slice A n c := by
  rcases h.2 with ⟨rfl, rfl⟩ | ⟨g, cap, cur, rfl, _⟩
  · exact ⟨none, 0, rfl⟩
  · exact ⟨_, cap, rfl⟩
theorem But.grow {S : Nat → Prop} {a w w' : World} {row : Option Nat} (h : But S a w) (hg : w.grownBy w' row) (hr : ∀ k, row = some k → S k ∨ a.heap.size ≤ k) : But S a w' :=
  h.trans (S' := fun k => row = some k) ⟨hg.os, hg.tape, hg.output, hg.size, fun k hk hn => hg.block k hk (fun e => hn e.symm)⟩ hr

/-- The blocks that a chain has, with one volume more, and another row. -/
def ownP (own : Nat → Prop) (g : Nat) (v : Value) : Nat → Prop := fun j => own j ∨ j = g ∨ v.ownBlock = some j

theorem RcAt.push {own : Nat → Prop} {w w1 : World} {p gn cn g c : Nat} {v v' : Value} {xs : List RSn} {d : CH} {s : Sn} (h : RcAt w own p gn cn v xs d) (ht : TxB w g s.bs) (hgn : g ≠ gn) (hc : s.bs.length ≤ c)
    (hown : w1.ownsRow 0 79 4 v' (xs.length + 1) (snRow xs ++ snV (s, g, c))) (hgr : w.grownBy w1 v.ownBlock) (hv : v'.ownBlock = v.ownBlock ∨ v'.ownBlock = some w.heap.size) :
    RcAt (w1.setCell ⟨p, 1, none⟩ v') (ownP own g v') p gn cn v' (xs ++ [(s, g, c)]) ⟨d.live, d.snaps ++ [s]⟩ := by
  have hp := h.low p h.op
  have hgl := ht.lt
  have hpv : some p ≠ v.ownBlock := fun e => h.vp p e.symm rfl
  have hgp : g ≠ p := by
    obtain ⟨e, hb⟩ := ht
    exact (blk_type h.blk hb (by decide)).symm
  have hgv : some g ≠ v.ownBlock := fun e => by
    obtain ⟨e2, hb⟩ := ht
    exact own_type h.row hb (by decide) g e.symm rfl
  have hv'p : ∀ j, v'.ownBlock = some j → j ≠ p := fun j hj => by
    rcases hv with e | e
    · exact h.vp j (e ▸ hj)
    · rw [e] at hj
      injection hj with hj
      omega
  refine ⟨?_, ?_, ?_, ?_, fun x hx => ?_, ⟨h.room.1, fun x hx => ?_⟩, .inl h.op, .inl h.on_, fun k hk => .inr (.inr hk), fun x hx => ?_, fun x hx => ?_, fun j hj => ?_⟩
  · exact (h.blk.of_block (hgr.block p hp hpv)).set_ 1 v'
  · have h1 := h.low gn h.on_
    exact (h.now.of_block (hgr.block gn h1 (fun e => h.vn gn e.symm rfl))).of_block (set_oth _ _ _ _ _ h.pn.symm)
  · rw [List.length_append, snRow_append]
    show World.ownsRow _ _ _ _ _ (xs.length + 1) (snRow xs ++ (snV (s, g, c) ++ []))
    rw [List.append_nil]
    exact row_of_block hown (fun j hj => set_oth _ _ _ _ _ (hv'p j hj))
  · rw [List.map_append, h.eq]
    rfl
  · rcases List.mem_append.1 hx with hx | hx
    · have h1 := h.low _ (h.ov x hx)
      exact ((h.vols x hx).of_block (hgr.block _ h1 (fun e => h.vx _ e.symm x hx rfl))).of_block (set_oth _ _ _ _ _ (h.px x hx))
    · obtain rfl : x = (s, g, c) := by simpa using hx
      exact (ht.of_block (hgr.block _ hgl hgv)).of_block (set_oth _ _ _ _ _ hgp)
  · rcases List.mem_append.1 hx with hx | hx
    · exact h.room.2 x hx
    · obtain rfl : x = (s, g, c) := by simpa using hx
      exact hc
  · rcases List.mem_append.1 hx with hx | hx
    · exact .inl (h.ov x hx)
    · obtain rfl : x = (s, g, c) := by simpa using hx
      exact .inr (.inl rfl)
  · rcases List.mem_append.1 hx with hx | hx
    · exact h.ne x hx
    · obtain rfl : x = (s, g, c) := by simpa using hx
      exact hgn
  · have e : (w1.setCell ⟨p, 1, none⟩ v').heap.size = w1.heap.size := by simp [World.setCell]
    have hs := hgr.size
    rw [e]
    rcases hj with hj | rfl | hj
    · have := h.low j hj
      omega
    · omega
    · exact (hown.lt j hj).2

theorem ok_push {d : CH} (h : d.ok) (s : Sn) (hl : d.snaps.length < 20) (hs : volOk d.live.length s.bs) (hg : gdB s.g) : CH.ok ⟨d.live, d.snaps ++ [s]⟩ := by
  refine ⟨h.live, h.n1, h.n8, fun x hx => ?_, ?_, fun x hx => ?_⟩
  · rcases List.mem_append.1 hx with hx | hx
    · exact h.snaps x hx
    · obtain rfl : x = s := by simpa using hx
      exact hs
  · show (d.snaps ++ [s]).length ≤ 20
    rw [List.length_append, List.length_singleton]
    omega
  · rcases List.mem_append.1 hx with hx | hx
    · exact h.gds x hx
    · obtain rfl : x = s := by simpa using hx
      exact hg
theorem own_push {own : Nat → Prop} {w w0 : World} {g : Nat} {v v' : Value} (ho : ∀ k, v.ownBlock = some k → own k) (hg : w.heap.size ≤ g) (hs : w.heap.size ≤ w0.heap.size) (hv : v'.ownBlock = v.ownBlock ∨ v'.ownBlock = some w0.heap.size) : ∀ j, ownP own g v' j → own j ∨ w.heap.size ≤ j := by
  rintro j (hj | rfl | hj)
  · exact .inl hj
  · exact .inr hg
  · rcases hv with e | e
    · exact .inl (ho j (e ▸ hj))
    · rw [e] at hj
      injection hj with hj
      exact .inr (by omega)
end Go.Proofs.Ytfinmfmbbgakhaa.ch

/- The document's Snap. -/
namespace Go.Proofs.Ytfinmfmbbgakhaa.ch
open Go Go.RowKit Go.Sort Go.Proofs.Ytfinmfmbbgakhaa.ib
set_option maxRecDepth 100000

theorem TxB.below {w w' : World} {g : Nat} {l : List Bt} (h : TxB w g l) (hb : Below w.heap.size w w') : TxB w' g l := h.of_block (hb.block _ h.lt)
def SnG (p : Nat) (A : Option Addr) (n c : Nat) (y1 y2 : Int) (gn cn B : Nat) (l : List Bt) : Nat → Value → World → Prop
  | 0, v, _ => v = .pointer (some ⟨p, 0, none⟩)
  | 1, v, _ => v = .pointer (some ⟨p, 0, none⟩)
  | 2, v, _ => v = .pointer (some ⟨p, 0, none⟩)
  | 3, v, _ => v = .pointer (some ⟨p, 1, none⟩)
  | 4, v, _ => v = .slice A n c
  | 5, v, _ => v = .agg #[.int .u64 y1, .int .u64 y2]
  | 6, v, _ => v = .pointer (some ⟨p, 0, none⟩)
  | 7, v, _ => v = .pointer (some ⟨p, 0, none⟩)
  | 8, v, _ => v = .pointer (some ⟨p, 0, none⟩)
  | 9, v, _ => v = .slice (some ⟨gn, 0, none⟩) l.length cn
  | 10, v, w => ∃ g cc, v = .slice (some ⟨g, 0, none⟩) l.length cc ∧ B ≤ g ∧ l.length ≤ cc ∧ TxB w g l
  | 11, v, w => ∃ g cc, v = .agg #[.int .u64 y1, .int .u64 y2, .slice (some ⟨g, 0, none⟩) l.length cc, .bool false] ∧ B ≤ g ∧ l.length ≤ cc ∧ TxB w g l
  | 12, v, w => ∃ g cc b, v = .slice (some ⟨b, 0, none⟩) 1 1 ∧ Blk w b 79 #[.int .u64 y1, .int .u64 y2, .slice (some ⟨g, 0, none⟩) l.length cc, .bool false] ∧ B ≤ g ∧ l.length ≤ cc ∧ TxB w g l
  | _, _, _ => True
theorem SnG_mono (p : Nat) (A : Option Addr) (n c : Nat) (y1 y2 : Int) (gn cn B : Nat) (l : List Bt) (i : Nat) (v : Value) (w w' : World) (hi : i < 13) (h : SnG p A n c y1 y2 gn cn B l i v w) (hb : Below w.heap.size w w') : SnG p A n c y1 y2 gn cn B l i v w' := by
  match i, hi, h with
  | 0, _, h | 1, _, h | 2, _, h | 3, _, h | 4, _, h | 5, _, h | 6, _, h | 7, _, h | 8, _, h | 9, _, h => exact h
  | 10, _, ⟨g, cc, h1, h2, h3, h4⟩ => exact ⟨g, cc, h1, h2, h3, h4.below hb⟩
  | 11, _, ⟨g, cc, h1, h2, h3, h4⟩ => exact ⟨g, cc, h1, h2, h3, h4.below hb⟩
  | 12, _, ⟨g, cc, b, h1, h2, h3, h4, h5⟩ => exact ⟨g, cc, b, h1, h2.below hb, h3, h4, h5.below hb⟩
theorem news_4 (w : World) (b : Nat) (t : TypeId) (x y z u : Value) (h : Blk w b t #[x, y, z, u]) : ∀ (j : Nat) (v : Value), ([x, y, z, u] : List Value)[j]? = some v → w.cell? ((⟨b, 0, none⟩ : Addr).add j) = some v := by
  intro j v hj
  rw [addr_add, Nat.zero_add, h.cell j]
  simpa using hj

set_option maxHeartbeats 6400000 in
theorem rsnap_any {own : Nat → Prop} {w : World} {p : Nat} {d : CH} (h : RcIs own w p d) (g : Gd) (hg : gdB g) : Calls Try.prog 35 #[.pointer (some ⟨p, 0, none⟩), gv g] w (Aft RcIs own p (d.snap g) w) := by
  obtain ⟨i0, hi, hz0, hz1, hz2⟩ := info_parts infoSn
  have hb0 := (Below.refl w.heap.size w).alloc (Nat.le_refl _) (.cells #[.int .u64 (g.1 : Int), .int .u64 (g.2 : Int)] 37)
  have hI := h.below hb0
  have HB0 := Lib.hid hb0
  obtain ⟨y1, hy1⟩ : ∃ y, (g.1 : Int) = y := ⟨_, rfl⟩
  obtain ⟨y2, hy2⟩ : ∃ y, (g.2 : Int) = y := ⟨_, rfl⟩
  have HM := Lib.hid (rmay_any hI g)
  have HI := Lib.hid hI
  have HIW := Lib.hid h
  have HG := Lib.hid hg
  have HY1 := Lib.hid hy1
  have HY2 := Lib.hid hy2
  unfold gv at HM ⊢
  rw [hy1, hy2] at HM HI HB0 ⊢
  clear hb0 hI h hg hy1 hy2
  have HSN : Hid (d.snap g = if d.may g = 0 then (⟨d.live, d.snaps ++ [⟨g, d.live, false⟩]⟩, 0) else (d, d.may g)) := rfl
  have HMZ := Lib.hid (fun h => may_zero (c := d) (g := g) h)
  obtain ⟨m, hm⟩ : ∃ m, d.may g = m := ⟨_, rfl⟩
  rw [hm] at HM HSN HMZ
  clear hm
  obtain ⟨W0, hW0⟩ : ∃ W, w.alloc (.cells #[.int .u64 y1, .int .u64 y2] 37) = W := ⟨_, rfl⟩
  rw [hW0] at HM HI HB0
  have q0 : W0.cell? ⟨w.heap.size, 0, none⟩ = some (.int .u64 y1) := by rw [← hW0]; exact (Blk.new w _ _).cell 0
  have q1 : W0.cell? ⟨w.heap.size, 1, none⟩ = some (.int .u64 y2) := by rw [← hW0]; exact (Blk.new w _ _).cell 1
  have HS0 : Hid (w.heap.size < W0.heap.size) := by unfold Hid; rw [← hW0]; simp
  have Q0 := Lib.hid q0
  have Q1 := Lib.hid q1
  go_enter Try.func35, Try.ntmps35
  go_wp2_with fail
  clear hW0
  refine HM.out.mono ?_
  rintro e W1 ⟨rfl, hb1⟩
  have HB1 := Lib.hid (HB0.out.trans (hb1.mono HB0.out.size))
  have HI1 := Lib.hid (HI.out.below hb1)
  have R0 : Hid (W1.cell? ⟨w.heap.size, 0, none⟩ = some (.int .u64 y1)) := (hb1.cell (p := ⟨w.heap.size, 0, none⟩) HS0.out).trans Q0.out
  have R1 : Hid (W1.cell? ⟨w.heap.size, 1, none⟩ = some (.int .u64 y2)) := (hb1.cell (p := ⟨w.heap.size, 1, none⟩) HS0.out).trans Q1.out
  have HS1 : Hid (w.heap.size < W1.heap.size) := Nat.lt_of_lt_of_le HS0.out hb1.size
  clear hb1 HM HI HB0 q0 q1 Q0 Q1 HS0
  by_cases hz : m = 0
  · subst hz
    have hsn := HSN.out
    rw [if_pos rfl] at hsn
    have HSD := Lib.hid hsn
    obtain ⟨_, hfew⟩ := HMZ.out rfl
    clear hsn HSN HMZ
    obtain ⟨h0, gn, cn, v, xs, hr⟩ := HI1.out
    obtain ⟨c0, c1⟩ := blk2 hr.blk
    have hplt := hr.blk.lt
    obtain ⟨A, c, rfl, _, _, _, _⟩ := row_view hr.row
    have h20 : xs.length ≤ 19 := by rw [hr.len]; omega
    have C0 := Lib.hid c0
    have C1 := Lib.hid c1
    have HR := Lib.hid hr
    have HH0 := Lib.hid h0
    have HFEW := Lib.hid hfew
    have HO := Lib.hid (fun W (hw : Below W1.heap.size W1 W) => rown_any (some ⟨gn, 0, none⟩) cn d.live W (hr.now.txl.below hw) h0.n1 (by have := h0.n8; omega) hr.room.1)
    clear hr h0 c0 c1 hfew HI1
    go_wp2_with fail
    refine wp_region_slots_t (by kernel_rfl) 13 [11, 12, 13, 14, 15, 16, 17, 18, 19, 20, 21, 22, 23] (by kernel_rfl) (SnG p A xs.length c y1 y2 gn cn W1.heap.size d.live) _ (.pointer (some ⟨p, 0, none⟩)) rfl (by decide) (by kernel_rfl) (by kernel_rfl) (by kernel_rfl) (fun _ _ _ h => h) (Or.inl ⟨by rfl, fun w => by go_simp⟩) (fun _ => rfl) (SnG_mono _ _ _ _ _ _ _ _ _ _) ?_ ?_
    · intro i o vs ρ W hi ho hρ hfn hb hG
      have t0 : ρ (.tmp 0) = .pointer (some ⟨p, 0, none⟩) := hρ.out 0 rfl
      have t3 : ρ (.tmp 3) = .pointer (some ⟨w.heap.size, 0, none⟩) := hρ.out 3 rfl
      have s1 := hρ.at_ 12 1 rfl
      have s2 := hρ.at_ 13 2 rfl
      have s3 := hρ.at_ 14 3 rfl
      have s5 := hρ.at_ 16 5 rfl
      have s6 := hρ.at_ 17 6 rfl
      have s7 := hρ.at_ 18 7 rfl
      have s8 := hρ.at_ 19 8 rfl
      have s9 := hρ.at_ 20 9 rfl
      have s10 := hρ.at_ 21 10 rfl
      have s11 := hρ.at_ 22 11 rfl
      have hc := hρ.const
      have c0 : W.cell? ⟨p, 0, none⟩ = some (.slice (some ⟨gn, 0, none⟩) d.live.length cn) := (hb.cell (p := ⟨p, 0, none⟩) hplt).trans C0.out
      have c1 : W.cell? ⟨p, 1, none⟩ = some (.slice A xs.length c) := (hb.cell (p := ⟨p, 1, none⟩) hplt).trans C1.out
      have r0 : W.cell? ⟨w.heap.size, 0, none⟩ = some (.int .u64 y1) := (hb.cell (p := ⟨w.heap.size, 0, none⟩) HS1.out).trans R0.out
      have r1 : W.cell? ⟨w.heap.size, 1, none⟩ = some (.int .u64 y2) := (hb.cell (p := ⟨w.heap.size, 1, none⟩) HS1.out).trans R1.out
      rcases i with _ | _ | _ | _ | _ | _ | _ | _ | _ | _ | _ | _ | _ | i
      all_goals (first | omega | skip)
      all_goals simp only [List.getElem?_toArray, List.getElem?_cons_zero, List.getElem?_cons_succ, Option.some.injEq] at ho
      all_goals subst ho
      · exact stepTo_value (w' := W) (by unfold execOp; simp only [t0]; go_simp) ⟨Below.refl _ _, rfl⟩
      · exact stepTo_value (w' := W) (by unfold execOp; simp only [t0]; go_simp) ⟨Below.refl _ _, rfl⟩
      · have g1 : vs 1 = _ := hG 1 (by kernel_rfl)
        exact stepTo_value (w' := W) (by unfold execOp; simp only [s1, g1]; go_simp) ⟨Below.refl _ _, rfl⟩
      · have g2 : vs 2 = _ := hG 2 (by kernel_rfl)
        exact stepTo_value (w' := W) (by unfold execOp; simp only [s2, g2]; go_simp) ⟨Below.refl _ _, rfl⟩
      · have g3 : vs 3 = _ := hG 3 (by kernel_rfl)
        exact stepTo_value (w' := W) (by unfold execOp; simp only [s3, g3]; go_simp) ⟨Below.refl _ _, rfl⟩
      · exact stepTo_value (w' := W) (by unfold execOp; simp only [t3]; go_simp) ⟨Below.refl _ _, rfl⟩
      · exact stepTo_value (w' := W) (by unfold execOp; simp only [t0]; go_simp) ⟨Below.refl _ _, rfl⟩
      · have g6 : vs 6 = _ := hG 6 (by kernel_rfl)
        exact stepTo_value (w' := W) (by unfold execOp; simp only [s6, g6]; go_simp) ⟨Below.refl _ _, rfl⟩
      · have g7 : vs 7 = _ := hG 7 (by kernel_rfl)
        exact stepTo_value (w' := W) (by unfold execOp; simp only [s7, g7]; go_simp) ⟨Below.refl _ _, rfl⟩
      · have g8 : vs 8 = _ := hG 8 (by kernel_rfl)
        exact stepTo_value (w' := W) (by unfold execOp; simp only [s8, g8]; go_simp) ⟨Below.refl _ _, rfl⟩
      · have g9 : vs 9 = _ := hG 9 (by kernel_rfl)
        refine stepTo_enter (f := 30) (args := #[.slice (some ⟨gn, 0, none⟩) d.live.length cn]) (w' := W) (by unfold execOp; simp only [hc, hfn, s9, g9]; go_simp) ((HO.out W hb).mono ?_)
        rintro e W' ⟨gg, cc, rfl, h1, h2, h3, h4⟩
        exact ⟨_, rfl, h4, gg, cc, rfl, by have := hb.size; omega, h2, h3⟩
      · have g5 : vs 5 = _ := hG 5 (by kernel_rfl)
        obtain ⟨gg, cc, g10, h1, h2, h3⟩ := hG 10 (by kernel_rfl)
        exact stepTo_value (w' := W) (by unfold execOp; simp only [s5, g5, s10, g10]; go_simp) ⟨Below.refl _ _, gg, cc, rfl, h1, h2, h3⟩
      · obtain ⟨gg, cc, g11, h1, h2, h3⟩ := hG 11 (by kernel_rfl)
        refine stepTo_value (w' := W.alloc (.cells #[.int .u64 y1, .int .u64 y2, .slice (some ⟨gg, 0, none⟩) d.live.length cc, .bool false] 79)) (v := .slice (some ⟨W.heap.size, 0, none⟩) 1 1) (by unfold execOp; simp only [s11, g11]; go_simp) ⟨(Below.refl _ W).alloc (Nat.le_refl _) _, gg, cc, W.heap.size, rfl, Blk.new _ _ _, h1, h2, h3.of_block (Below.heap_alloc _ _ _ h3.lt)⟩
    · intro vs W hb hG
      have g0 : vs 0 = _ := hG 0 (by decide)
      have g4 : vs 4 = _ := hG 4 (by decide)
      obtain ⟨gg, cc, bb, g12, hbk, h1, h2, h3⟩ := hG 12 (by decide)
      have B2 := Lib.hid (HB1.out.trans (hb.mono HB1.out.size))
      have HR2 := Lib.hid (HR.out.keep hb.size (fun k hk => hb.block k (HR.out.low k hk)))
      have HNW := Lib.hid (news_4 _ _ _ _ _ _ _ hbk)
      have HT := Lib.hid h3
      have HGG := Lib.hid h1
      have HCC := Lib.hid h2
      have HHB := Lib.hid hb
      simp only [putList, putSel, if_true]
      rw [g0, g4, g12]
      generalize vs 1 = z1
      generalize vs 2 = z2
      generalize vs 3 = z3
      generalize vs 5 = z5
      generalize vs 6 = z6
      generalize vs 7 = z7
      generalize vs 8 = z8
      generalize vs 9 = z9
      generalize vs 10 = z10
      generalize vs 11 = z11
      clear hG g0 g4 g12 hbk h1 h2 h3 hb
      simp only [Act.put, List.setIfInBounds_toArray, List.set_cons_succ, List.set_cons_zero]
      refine wpAny_one (i := 13) (by kernel_rfl) rfl rfl ?_
      refine wp_append_at (.tmp 15) (.tmp 23) 74 rfl 0 79 i0 (.agg #[.int .u64 0, .int .u64 0, .slice none 0 0, .bool false]) 4 48 Try.underlying74 hi hz0 hz1 hz2 rfl (by decide) _ xs.length _ rfl HR2.out.row ⟨bb, 0, none⟩ 1 1 [.int .u64 y1, .int .u64 y2, .slice (some ⟨gg, 0, none⟩) d.live.length cc, .bool false] rfl rfl HNW.out ?_ (by unfold maxLen; omega) (by omega) (Nat.zero_le _) ?_
      · intro u hu
        simp at hu
        rcases hu with rfl | rfl | rfl | rfl <;> rfl
      intro v' w1 hown hgrow hv
      obtain ⟨A', c', rfl⟩ := own_form hown
      have HOWN : Hid (w1.ownsRow 0 79 4 (.slice A' (xs.length + 1) c') (xs.length + 1) (snRow xs ++ snV ((⟨g, d.live, false⟩ : Sn), gg, cc))) := by
        unfold Hid snV
        dsimp only
        rw [HY1.out, HY2.out]
        exact hown
      have HP := Lib.hid (RcAt.push (s := (⟨g, d.live, false⟩ : Sn)) HR2.out HT.out (by have := HR.out.low gn HR.out.on_; have := HGG.out; omega) HCC.out HOWN.out hgrow hv)
      have HBU := Lib.hid ((Go.Proofs.Ytfinmfmbbgakhaa.ch.But.grow (But.of_below (S := own) B2.out) hgrow (fun k hk => .inl (HR.out.om k hk))).setCell ⟨p, 1, none⟩ (.slice A' (xs.length + 1) c') (.inl HR.out.op))
      have HOW := Lib.hid (own_push (own := own) (w := w) (w0 := W) (g := gg) (v := .slice A xs.length c) (v' := .slice A' (xs.length + 1) c') HR.out.om (by have := HB1.out.size; have := HGG.out; omega) B2.out.size hv)
      have f1 : w1.frozen? ⟨p, 1, none⟩ = false := by
        have hp := HR2.out.low p HR2.out.op
        exact (HR2.out.blk.of_block (hgrow.block p hp (fun e => HR2.out.vp p e.symm rfl))).frozen 1
      obtain ⟨b1, hb1⟩ : ∃ z, w1.cell? ⟨p, 1, none⟩ = some z := by
        have hp := HR2.out.low p HR2.out.op
        exact ⟨_, (HR2.out.blk.of_block (hgrow.block p hp (fun e => HR2.out.vp p e.symm rfl))).cell 1⟩
      clear hown hgrow hv HOWN
      go_simp
      refine wpAny_one (i := 14) (by kernel_rfl) rfl rfl ?_
      go_simp
      refine wpAny_one (i := 15) (by kernel_rfl) rfl rfl ?_
      go_simp
      refine wpAny_one (i := 16) (by kernel_rfl) rfl rfl ?_
      go_simp
      refine ⟨by kernel_rfl, ?_⟩
      go_wp2_with fail
      go_ret
      rw [HSD.out]
      exact ⟨rfl, _, ⟨ok_push HH0.out _ HFEW.out HH0.out.live HG.out, gn, cn, _, _, HP.out⟩, HBU.out, HOW.out⟩
  · have hc : (m == 0) = false := beq_false_of_ne hz
    have hsn := HSN.out
    rw [if_neg hz] at hsn
    have HSD := Lib.hid hsn
    clear hsn HSN HMZ HI1
    go_wp2_with fail
    go_ret
    rw [HSD.out]
    exact HIW.out.same HB1.out rfl
end Go.Proofs.Ytfinmfmbbgakhaa.ch

/- The document's Rollback. -/
namespace Go.Proofs.Ytfinmfmbbgakhaa.ch
open Go Go.RowKit Go.Sort Go.Proofs.Ytfinmfmbbgakhaa.ib
set_option maxRecDepth 100000

theorem ok_take {d : CH} (h : d.ok) (k : Nat) : CH.ok ⟨d.live, d.snaps.take k⟩ := by
  refine ⟨h.live, h.n1, h.n8, fun s hs => h.snaps s (List.mem_of_mem_take hs), ?_, fun s hs => h.gds s (List.mem_of_mem_take hs)⟩
  show (d.snaps.take k).length ≤ 20
  have := h.few
  rw [List.length_take]
  omega
theorem ok_live {d : CH} (h : d.ok) {l : List Bt} (hl : volOk d.live.length l) : CH.ok ⟨l, d.snaps⟩ := by
  have hn : l.length = d.live.length := hl.1
  refine ⟨?_, ?_, ?_, fun s hs => ?_, h.few, h.gds⟩
  · show volOk l.length l
    rw [hn]
    exact hl
  · show 1 ≤ l.length
    rw [hn]
    exact h.n1
  · show l.length ≤ 8
    rw [hn]
    exact h.n8
  · show volOk l.length s.bs
    rw [hn]
    exact h.snaps s hs

section
variable {own : Nat → Prop} {w : World} {p gn cn : Nat} {v : Value} {xs : List RSn} {d : CH}
theorem RcAt.take {A : Option Addr} {n c : Nat} (h : RcAt w own p gn cn (.slice A n c) xs d) (k : Nat) (hk : k ≤ xs.length) :
    RcAt (w.setCell ⟨p, 1, none⟩ (.slice A k c)) own p gn cn (.slice A k c) (xs.take k) ⟨d.live, d.snaps.take k⟩ := by
  have hob : ∀ j, (Value.slice A k c).ownBlock = some j → (Value.slice A n c).ownBlock = some j := fun j hj => by
    cases A with
    | none => cases hj
    | some a => exact hj
  have hlk : (xs.take k).length = k := by rw [List.length_take]; omega
  have hrow : w.ownsRow 0 79 4 (.slice A k c) k (snRow (xs.take k)) := by
    refine ⟨by rw [snRow_len, hlk], ?_⟩
    rcases h.row.2 with ⟨e, h0⟩ | ⟨g, cap, cur, e, hg, hh, hcc, hm, hcs, hcur⟩
    · simp only [Value.slice.injEq] at e
      obtain ⟨rfl, _, rfl⟩ := e
      obtain rfl : k = 0 := by omega
      exact .inl ⟨rfl, rfl⟩
    · simp only [Value.slice.injEq] at e
      obtain ⟨rfl, _, rfl⟩ := e
      refine .inr ⟨g, c, cur, rfl, hg, hh, by omega, hm, hcs, ?_⟩
      rw [← snRow_take, ← hcur, List.take_take]
      congr 1
      omega
  refine ⟨h.blk.set_ 1 _, h.now.of_block (set_oth _ _ _ _ _ h.pn.symm), ?_, ?_, fun x hx => (h.vols x (List.mem_of_mem_take hx)).of_block (set_oth _ _ _ _ _ (h.px x (List.mem_of_mem_take hx))), ⟨h.room.1, fun x hx => h.room.2 x (List.mem_of_mem_take hx)⟩, h.op, h.on_, fun j hj => h.om j (hob j hj), fun x hx => h.ov x (List.mem_of_mem_take hx), fun x hx => h.ne x (List.mem_of_mem_take hx), fun j hj => ?_⟩
  · rw [hlk]
    exact row_of_block hrow (fun j hj => set_oth _ _ _ _ _ (h.vp j (hob j hj)))
  · show (xs.take k).map (·.1) = d.snaps.take k
    rw [List.map_take, h.eq]
  · have := h.low j hj
    simpa [World.setCell] using this
/-- Another volume as the live one. -/
theorem RcAt.relive {g c : Nat} {l : List Bt} (h : RcAt w own p gn cn v xs d) (ht : TxB w g l) (hc : l.length ≤ c) (hne : ∀ x ∈ xs, x.2.1 ≠ g) :
    RcAt (w.setCell ⟨p, 0, none⟩ (.slice (some ⟨g, 0, none⟩) l.length c)) (fun j => own j ∨ j = g) p g c v xs ⟨l, d.snaps⟩ := by
  have hgp : g ≠ p := by
    obtain ⟨e, hb⟩ := ht
    exact (blk_type h.blk hb (by decide)).symm
  have hgl := ht.lt
  refine ⟨h.blk.set_ 0 _, ht.of_block (set_oth _ _ _ _ _ hgp), row_of_block h.row (fun j hj => set_oth _ _ _ _ _ (h.vp j hj)), h.eq, fun x hx => (h.vols x hx).of_block (set_oth _ _ _ _ _ (h.px x hx)), ⟨hc, h.room.2⟩, .inl h.op, .inr rfl, fun j hj => .inl (h.om j hj), fun x hx => .inl (h.ov x hx), hne, fun j hj => ?_⟩
  have e : (w.setCell ⟨p, 0, none⟩ (.slice (some ⟨g, 0, none⟩) l.length c)).heap.size = w.heap.size := by simp [World.setCell]
  rw [e]
  rcases hj with hj | rfl
  · exact h.low j hj
  · exact hgl
end

set_option maxHeartbeats 3200000 in
theorem rroll_any {own : Nat → Prop} {w : World} {p : Nat} {d : CH} (h : RcIs own w p d) (k : Int) : Calls Try.prog 36 #[.pointer (some ⟨p, 0, none⟩), .int .i64 k] w (Aft RcIs own p (d.roll k) w) := by
  have HI := Lib.hid h
  obtain ⟨h0, gn, cn, v, xs, hr⟩ := h
  obtain ⟨c0, c1⟩ := blk2 hr.blk
  obtain ⟨A, c, rfl, hcc, _, _, _⟩ := row_view hr.row
  have h20 : xs.length ≤ 20 := by have := h0.few; rw [hr.len]; exact this
  have HR := Lib.hid hr
  have HH0 := Lib.hid h0
  have HLN := Lib.hid hr.len
  clear hr h0 c0
  by_cases hbad : k < 0 ∨ (d.snaps.length : Int) < k
  · have HW : Hid (d.roll k = (d, 2)) := by unfold Hid CH.roll; rw [if_pos hbad]
    rw [HW.out]
    rw [← HLN.out] at hbad
    clear HW
    have hcs : k < 0 ∨ (¬ k < 0 ∧ (xs.length : Int) < k) := by omega
    clear hbad
    rcases hcs with hk | ⟨hk, hk2⟩
    all_goals
      go_enter Try.func36, Try.ntmps36
      go_wp2_with fail
      go_ret
      exact HI.out.same (Below.refl _ _) rfl
  · have HW : Hid (d.roll k = (⟨(⟨d.live, d.snaps.take k.toNat⟩ : CH).base, d.snaps.take k.toNat⟩, 0)) := by unfold Hid CH.roll; rw [if_neg hbad]
    rw [HW.out]
    rw [← HLN.out] at hbad
    obtain ⟨m, rfl⟩ : ∃ m : Nat, k = (m : Int) := ⟨k.toNat, by omega⟩
    have hm : m ≤ xs.length := by omega
    have hk3 : ¬ (m : Int) < 0 := by omega
    have hk4 : ¬ (xs.length : Int) < (m : Int) := by omega
    have hk5 : (m : Int) ≤ (c : Int) := by omega
    have f1 := HR.out.blk.frozen 1
    have HT := Lib.hid (HR.out.take m hm)
    have HOT := Lib.hid (ok_take HH0.out m)
    have HB := Lib.hid (rbase_any (⟨HOT.out, gn, cn, _, _, HT.out⟩ : RcIs own (w.setCell ⟨p, 1, none⟩ (.slice A m c)) p ⟨d.live, d.snaps.take m⟩))
    have HBO := Lib.hid HOT.out.base_ok
    rw [Int.toNat_natCast]
    clear hbad HW
    go_enter Try.func36, Try.ntmps36
    go_wp2_with fail
    refine HB.out.mono ?_
    rintro e W ⟨g, cc, rfl, hg, hcg, ht, hb⟩
    have hsz : (w.setCell ⟨p, 1, none⟩ (.slice A m c)).heap.size = w.heap.size := by simp [World.setCell]
    have HR2 := Lib.hid (HT.out.keep hb.size (fun j hj => hb.block j (HT.out.low j hj)))
    have HRL := Lib.hid (HR2.out.relive ht hcg (fun x hx e => by have := HT.out.low _ (HT.out.ov x hx); omega))
    have HBU := Lib.hid ((((But.refl own w).setCell ⟨p, 1, none⟩ (.slice A m c) (.inl HR.out.op)).trans (But.of_below (S := fun _ => False) hb) (fun _ h => h.elim)).setCell ⟨p, 0, none⟩ (.slice (some ⟨g, 0, none⟩) (⟨d.live, d.snaps.take m⟩ : CH).base.length cc) (.inl HR.out.op))
    have HGG : Hid (w.heap.size ≤ g) := by unfold Hid; omega
    have f0 := HR2.out.blk.frozen 0
    obtain ⟨b0, hb0⟩ : ∃ z, W.cell? ⟨p, 0, none⟩ = some z := ⟨_, HR2.out.blk.cell 0⟩
    clear hg hcg ht hb
    go_wp2_with fail
    go_ret
    refine ⟨rfl, _, ⟨ok_live HOT.out HBO.out, g, cc, _, _, HRL.out⟩, HBU.out, fun j hj => ?_⟩
    rcases hj with hj | rfl
    · exact .inl hj
    · exact .inr HGG.out
end Go.Proofs.Ytfinmfmbbgakhaa.ch


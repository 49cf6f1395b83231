/- RcChg, PgChg. -/
import Derived.Test.YtfinmfmbbgakhaaQ4
import Derived.Test.YtfinmfmbbgakhaaQ6
import Derived.Test.YtfinmfmbbgakhaaQ8
import Derived.Test.YtfinmfmbbgakhaaQ9
/- The document's Changes. -/
namespace Go.Proofs.Ytfinmfmbbgakhaa.ch
open Go Go.RowKit Go.Sort Go.Proofs.Ytfinmfmbbgakhaa.ib
set_option maxRecDepth 100000

def dTo (p q : List Bt) (k : Nat) : List (Int × Bt) := (List.range k).filterMap fun i => if q.getD i [] = p.getD i [] then none else some ((i : Int), q.getD i [])
theorem dTo_same (p q : List Bt) (k : Nat) (h : q.getD k [] = p.getD k []) : dTo p q (k + 1) = dTo p q k := by
  unfold dTo
  rw [List.range_succ, List.filterMap_append, List.filterMap_cons, if_pos h]
  simp
theorem dTo_more (p q : List Bt) (k : Nat) (h : ¬ q.getD k [] = p.getD k []) : dTo p q (k + 1) = dTo p q k ++ [((k : Int), q.getD k [])] := by
  unfold dTo
  rw [List.range_succ, List.filterMap_append, List.filterMap_cons, if_neg h]
  rfl
theorem dTo_b64 (p q : List Bt) (k : Nat) (hk : k ≤ 1000) : ∀ x ∈ dTo p q k, b64 x.1 := by
  intro x hx
  unfold dTo at hx
  obtain ⟨i, hi, h⟩ := List.mem_filterMap.1 hx
  have := List.mem_range.1 hi
  split at h
  · cases h
  · injection h with h
    subst h
    unfold b64
    dsimp only
    omega
theorem dTo_len (p q : List Bt) (k : Nat) : (dTo p q k).length ≤ k := by
  unfold dTo
  have := List.length_filterMap_le (fun i => if q.getD i [] = p.getD i [] then none else some ((i : Int), q.getD i [])) (List.range k)
  simpa using this

def DcRel (P Q : List Bt) (L : Nat) (w : World) (v i : Value) (wr : World) : Prop :=
  ∃ k : Nat, k ≤ L ∧ i = .int .i64 (k : Int) ∧ OChs wr w.heap.size v (dTo P Q k) ∧ Below w.heap.size w wr
def CellsB (w : World) (g : Nat) (L : Nat) (P : List Bt) : Prop := ∀ i, i < L → g < w.heap.size ∧ w.cell? ⟨g, i, none⟩ = some (.string (str (P.getD i [])))
theorem TxB.cells {w : World} {g : Nat} {P : List Bt} (h : TxB w g P) : CellsB w g P.length P := fun i hi => ⟨h.lt, by
  rw [h.cell i hi]
  simp [hi]⟩
theorem CellsB.below {w w' : World} {g L : Nat} {P : List Bt} (h : CellsB w g L P) (hb : Below w.heap.size w w') : CellsB w' g L P := fun i hi => by
  obtain ⟨h1, h2⟩ := h i hi
  exact ⟨Nat.lt_of_lt_of_le h1 hb.size, by rw [hb.cell (p := ⟨g, i, none⟩) h1]; exact h2⟩

set_option maxHeartbeats 6400000 in
theorem rchanges_any {own : Nat → Prop} {w : World} {p : Nat} {d : CH} (h : RcIs own w p d) (k : Int) : Calls Try.prog 40 #[.pointer (some ⟨p, 0, none⟩), .int .i64 k] w (okChE (d.changes k) w) := by
  obtain ⟨i0, hi, hz0, hz1, hz2⟩ := info_parts infoCh
  obtain ⟨h0, gn, cn, v, xs, hr⟩ := h
  obtain ⟨c0, c1⟩ := blk2 hr.blk
  have hplt := hr.blk.lt
  obtain ⟨A, c, rfl, _, _, _, hx⟩ := row_view hr.row
  have h20 : xs.length ≤ 20 := by have := h0.few; rw [hr.len]; exact this
  have HLN := Lib.hid hr.len
  by_cases hbad : k < 0 ∨ (d.snaps.length : Int) ≤ k
  · have HW : Hid (d.changes k = ([], 5)) := by unfold Hid CH.changes; rw [if_pos hbad]
    rw [HW.out]
    rw [← HLN.out] at hbad
    have hcs : k < 0 ∨ (¬ k < 0 ∧ (xs.length : Int) ≤ k) := by omega
    clear hbad HW hx hr h0 c0
    rcases hcs with hk | ⟨hk, hk2⟩
    all_goals
      go_enter Try.func40, Try.ntmps40
      go_wp2_with fail
      go_ret2
      exact ⟨none, 0, rfl, ChL.nil _ _, NewA.none _ _, Below.refl _ _⟩
  · have hwi : d.changes k = (diffs (d.prev k.toNat) (d.volAt k.toNat), 0) := by unfold CH.changes; rw [if_neg hbad]
    rw [← HLN.out] at hbad
    obtain ⟨m, rfl⟩ : ∃ m : Nat, k = (m : Int) := ⟨k.toNat, by omega⟩
    rw [Int.toNat_natCast] at hwi
    have hm : m < xs.length := by omega
    have hmem : xs[m] ∈ xs := List.getElem_mem hm
    have hok := h0.snaps xs[m].1 (by rw [← hr.eq]; exact List.mem_map_of_mem hmem)
    have hvol : d.volAt m = xs[m].1.bs := by
      unfold CH.volAt
      rw [hr.nth m hm]
    obtain ⟨gr, rfl, hgr, _, _, _, g2, _⟩ := hx m hm
    have HQC := Lib.hid ((hr.vols _ hmem).cells)
    have hql : xs[m].1.bs.length = d.live.length := hok.1
    rw [hql] at g2 HQC
    have HRC := Lib.hid g2
    have HZ := Lib.hid (rzeros_any d.live.length w h0.n1 h0.n8)
    have hL8 := h0.n8
    have HDF : Hid (diffs (d.prev m) (d.volAt m) = dTo (d.prev m) (d.volAt m) d.live.length) := by
      unfold Hid diffs dTo
      rw [hvol, hql]
    have hmi : (m : Int) < (xs.length : Int) := by omega
    have hmn : ¬ (m : Int) < 0 := by omega
    have hmx : ¬ (xs.length : Int) ≤ (m : Int) := by omega
    rw [hwi, HDF.out]
    rw [← hvol] at HQC
    generalize hgq : xs[m].2.1 = gq at *
    generalize xs[m].2.2 = cq at *
    have HPV : Hid (0 < m → ∃ gb cb, w.cell? ⟨gr, (m - 1) * 4 + 2, none⟩ = some (.slice (some ⟨gb, 0, none⟩) d.live.length cb) ∧ CellsB w gb d.live.length (d.prev m)) := fun hm0 => by
      have hm1 : m - 1 < xs.length := by omega
      have hmem1 : xs[m - 1] ∈ xs := List.getElem_mem hm1
      have hok1 := h0.snaps xs[m - 1].1 (by rw [← hr.eq]; exact List.mem_map_of_mem hmem1)
      obtain ⟨gr', e, _, _, _, _, g2', _⟩ := hx (m - 1) hm1
      simp only [Option.some.injEq, Addr.mk.injEq, and_true] at e
      obtain ⟨rfl, _⟩ := e
      have hl1 : xs[m - 1].1.bs.length = d.live.length := hok1.1
      have hp1 : d.prev m = xs[m - 1].1.bs := by
        unfold CH.prev CH.volAt
        rw [if_neg (by omega), hr.nth (m - 1) hm1]
      refine ⟨xs[m - 1].2.1, xs[m - 1].2.2, ?_, ?_⟩
      · rw [hl1] at g2'
        exact g2'
      · have := (hr.vols _ hmem1).cells
        rw [hl1, ← hp1] at this
        exact this
    have HP0 : Hid (m = 0 → d.prev m = zvol d.live.length) := fun e => by unfold CH.prev; rw [if_pos e]
    have C0 := Lib.hid c0
    have C1 := Lib.hid c1
    clear hbad hwi hok hvol hql hx hr h0 hmem g2 hgq HDF
    obtain ⟨P, hP⟩ : ∃ P, d.prev m = P := ⟨_, rfl⟩
    obtain ⟨Q, hQ⟩ : ∃ Q, d.volAt m = Q := ⟨_, rfl⟩
    rw [hP] at HPV HP0 ⊢
    rw [hQ] at HQC ⊢
    clear hP hQ
    generalize d.live.length = L at *
    go_enter Try.func40, Try.ntmps40
    go_wp2_with fail
    refine HZ.out.mono ?_
    rintro e W1 ⟨gz, cz, rfl, hgz, hcz, htz, hbz⟩
    rw [zvol_len] at hcz ⊢
    have HBZ := Lib.hid hbz
    have HQ1 := Lib.hid (HQC.out.below hbz)
    have c1 : W1.cell? ⟨p, 1, none⟩ = some (.slice (some ⟨gr, 0, none⟩) xs.length c) := (hbz.cell (p := ⟨p, 1, none⟩) hplt).trans C1.out
    have R2 : Hid (W1.cell? ⟨gr, m * 4 + 2, none⟩ = some (.slice (some ⟨gq, 0, none⟩) L cq)) := (hbz.cell (p := ⟨gr, m * 4 + 2, none⟩) hgr).trans HRC.out
    have hplt1 : p < W1.heap.size := Nat.lt_of_lt_of_le hplt hbz.size
    have hgr1 : gr < W1.heap.size := Nat.lt_of_lt_of_le hgr hbz.size
    have D1 := Lib.hid c1
    have hgo : ∃ gb cb, CellsB W1 gb L P ∧ ((m = 0 ∧ gb = gz ∧ cb = cz) ∨ (0 < m ∧ W1.cell? ⟨gr, (m - 1) * 4 + 2, none⟩ = some (.slice (some ⟨gb, 0, none⟩) L cb))) := by
      by_cases hm0 : m = 0
      · refine ⟨gz, cz, ?_, .inl ⟨hm0, rfl, rfl⟩⟩
        have := htz.cells
        rw [zvol_len, ← HP0.out hm0] at this
        exact this
      · obtain ⟨gb, cb, e1, e2⟩ := HPV.out (by omega)
        exact ⟨gb, cb, e2.below hbz, .inr ⟨by omega, (hbz.cell (p := ⟨gr, (m - 1) * 4 + 2, none⟩) hgr).trans e1⟩⟩
    obtain ⟨gb, cb, hpc, hcase⟩ := hgo
    have HPC := Lib.hid hpc
    clear hpc htz hbz HZ HQC HRC HPV HP0 C0 C1 hplt hgr
    have hcase2 : (m = 0 ∧ gb = gz ∧ cb = cz) ∨ (0 < (m : Int) ∧ IntKind.i64.wrap ((m : Int) - 1) = ((m - 1 : Nat) : Int) ∧ ((m - 1 : Nat) : Int) < (xs.length : Int) ∧ W1.cell? ⟨gr, (m - 1) * 4 + 2, none⟩ = some (.slice (some ⟨gb, 0, none⟩) L cb)) := by
      rcases hcase with h | ⟨h, h2⟩
      · exact .inl h
      · exact .inr ⟨by omega, by rw [IntWalk.i64_in _ (by omega)]; omega, by omega, h2⟩
    clear hcase
    obtain ⟨m1, hm1⟩ : ∃ z, m - 1 = z := ⟨_, rfl⟩
    rw [hm1] at hcase2
    clear hm1
    have hL8i : L ≤ 8 := hL8
    rcases hcase2 with ⟨hm00, rfl, rfl⟩ | ⟨hm0, hw1, hw2, r1⟩
    · have hm0 : ¬ (0 : Int) < (m : Int) := by omega
      have hm0n : ¬ 0 < m := by omega
      have hm0d : decide (0 < m) = false := decide_eq_false hm0n
      clear hm00
      go_wp2_with fail
      go_loopw [7, 8] (fun v i wr => DcRel P Q L W1 v i wr) (fun _ i _ => L - (intOf i).toNat)
      case atStart => exact ⟨0, Nat.zero_le _, rfl, World.ownsRow_nil _ _ _ _, Below.refl _ _⟩
      case round =>
        obtain ⟨k, hk, rfl, ho, hB⟩ := hrel
        have HO := Lib.hid ho
        have HB := Lib.hid hB
        have c1 : wr.cell? ⟨p, 1, none⟩ = some (.slice (some ⟨gr, 0, none⟩) xs.length c) := (HB.out.cell (p := ⟨p, 1, none⟩) hplt1).trans D1.out
        have r2 : wr.cell? ⟨gr, m * 4 + 2, none⟩ = some (.slice (some ⟨gq, 0, none⟩) L cq) := (HB.out.cell (p := ⟨gr, m * 4 + 2, none⟩) hgr1).trans R2.out
        clear ho hB
        by_cases hlt : k < L
        · have hki : (k : Int) < (L : Int) := by omega
          have e0 : wr.cell? ⟨gq, k, none⟩ = some (.string (str (Q.getD k []))) := ((HQ1.out.below HB.out) k hlt).2
          have e1 : wr.cell? ⟨gb, k, none⟩ = some (.string (str (P.getD k []))) := ((HPC.out.below HB.out) k hlt).2
          have hlen := dTo_len P Q k
          by_cases hne : Q.getD k [] = P.getD k []
          · have hsm := dTo_same P Q k hne
            rw [← hne] at e1
            have hxq : ((str (Q.getD k [])).toList == (str (Q.getD k [])).toList) = true := by simp
            have HSM := Lib.hid hsm
            clear hne hsm
            generalize str (Q.getD k []) = S at *
            go_wp2_with fail
            go_quiet (fail)
            go_wp2_with fail
            go_roundw
            case rel => exact ⟨k + 1, by omega, by go_num, by rw [HSM.out]; exact row_of_block HO.out (fun _ _ => rfl), by first | exact drewC HB.out _ | exact HB.out⟩
            case measure => simp [intOf]; omega
          · have hsm := dTo_more P Q k hne
            have hxq : ((str (Q.getD k [])).toList == (str (P.getD k [])).toList) = false := by rw [beq_bl, bl_str]; simp only [decide_eq_false_iff_not]; exact hne
            have HSM := Lib.hid hsm
            obtain ⟨S, hS⟩ : ∃ s, str (Q.getD k []) = s := ⟨_, rfl⟩
            have HS := Lib.hid hS
            rw [hS] at e0 hxq
            clear hne hsm hS
            generalize str (P.getD k []) = S2 at *
            have HNW : Hid (∀ n, ∀ (j : Nat) (x : Value), ([.int .i64 (k : Int), .string S] : List Value)[j]? = some x → ((wr.drewN n).alloc (.cells #[.int .i64 (k : Int), .string S] 60)).cell? ((⟨wr.heap.size, 0, none⟩ : Addr).add j) = some x) := fun n => news_2 (wr.drewN n) 60 (.int .i64 (k : Int)) (.string S)
            have HB2 : Hid (∀ n, Below W1.heap.size W1 ((wr.drewN n).alloc (.cells #[.int .i64 (k : Int), .string S] 60))) := fun n => (drewC HB.out n).alloc HB.out.size _
            have HO2 := Lib.hid (fun n => World.ownsRow.alloc (w := wr.drewN n) (row_of_block (w' := wr.drewN n) (show World.ownsRow _ _ _ _ _ _ _ from HO.out) (fun _ _ => rfl)) (.cells #[.int .i64 (k : Int), .string S] 60))
            have hone : ∀ u ∈ ([Value.int .i64 (k : Int), .string S] : List Value), u.oneCell' = true := by
              intro u hu
              simp at hu
              rcases hu with rfl | rfl <;> rfl
            have HONE := Lib.hid hone
            have HLD := Lib.hid hlen
            clear hone HO
            go_wp2_with fail
            go_quiet (fail)
            go_wp2_with (at_builtin; refine wpList_append_own _ rfl (.tmp 59) (.tmp 73) 50 rfl W1.heap.size 60 i0 (.agg #[.int .i64 0, .string ByteArray.empty]) 2 24 Try.underlying50 hi hz0 hz1 hz2 rfl (by decide) _ (dTo P Q k).length _ rfl (HO2.out _) ⟨wr.heap.size, 0, none⟩ 1 1 [.int .i64 (k : Int), .string S] rfl rfl (HNW.out _) HONE.out ?_ ?_ (HB2.out _).size ?_)
            · have := HLD.out; unfold maxLen; omega
            · have := HLD.out; omega
            · intro v' w1 hown hgrow _
              have HB3 := Lib.hid ((HB2.out nq).grown hgrow (HB2.out nq).size (fun j hj => ((HO2.out nq).lt j hj).1))
              have HOS : Hid (OChs w1 W1.heap.size v' (dTo P Q (k + 1))) := by
                unfold Hid
                rw [HSM.out]
                refine OChs.snoc (x := ((k : Int), Q.getD k [])) ?_
                dsimp only
                rw [HS.out]
                exact hown
              obtain ⟨A6, c6, hv6, _⟩ := HOS.out.view2 (dTo_b64 P Q (k + 1) (by omega))
              clear hown hgrow
              subst hv6
              go_wp2_with fail
              go_roundw
              case rel => exact ⟨k + 1, by omega, by go_num, HOS.out, HB3.out⟩
              case measure => simp [intOf]; omega
        · have hki : ¬ (k : Int) < (L : Int) := by omega
          obtain rfl : k = L := by omega
          obtain ⟨a, cc, rfl, hl, hb⟩ := HO.out.view2 (dTo_b64 P Q k (by omega))
          have HL := Lib.hid hl
          have HBB := Lib.hid hb
          clear hl hb HO
          go_wp2_with fail
          go_ret2
          exact ⟨a, cc, rfl, HL.out, fun b o e => by have := HBB.out b o e; have := HBZ.out.size; omega, HBZ.out.trans (HB.out.mono HBZ.out.size)⟩
    · have hm0n : 0 < m := by omega
      have hm0d : decide (0 < m) = true := decide_eq_true hm0n
      go_wp2_with fail
      go_loopw [7, 8] (fun v i wr => DcRel P Q L W1 v i wr) (fun _ i _ => L - (intOf i).toNat)
      case atStart => exact ⟨0, Nat.zero_le _, rfl, World.ownsRow_nil _ _ _ _, Below.refl _ _⟩
      case round =>
        obtain ⟨k, hk, rfl, ho, hB⟩ := hrel
        have HO := Lib.hid ho
        have HB := Lib.hid hB
        have c1 : wr.cell? ⟨p, 1, none⟩ = some (.slice (some ⟨gr, 0, none⟩) xs.length c) := (HB.out.cell (p := ⟨p, 1, none⟩) hplt1).trans D1.out
        have r2 : wr.cell? ⟨gr, m * 4 + 2, none⟩ = some (.slice (some ⟨gq, 0, none⟩) L cq) := (HB.out.cell (p := ⟨gr, m * 4 + 2, none⟩) hgr1).trans R2.out
        clear ho hB
        by_cases hlt : k < L
        · have hki : (k : Int) < (L : Int) := by omega
          have e0 : wr.cell? ⟨gq, k, none⟩ = some (.string (str (Q.getD k []))) := ((HQ1.out.below HB.out) k hlt).2
          have e1 : wr.cell? ⟨gb, k, none⟩ = some (.string (str (P.getD k []))) := ((HPC.out.below HB.out) k hlt).2
          have hlen := dTo_len P Q k
          by_cases hne : Q.getD k [] = P.getD k []
          · have hsm := dTo_same P Q k hne
            rw [← hne] at e1
            have hxq : ((str (Q.getD k [])).toList == (str (Q.getD k [])).toList) = true := by simp
            have HSM := Lib.hid hsm
            clear hne hsm
            generalize str (Q.getD k []) = S at *
            go_wp2_with fail
            go_quiet (fail)
            go_wp2_with fail
            go_roundw
            case rel => exact ⟨k + 1, by omega, by go_num, by rw [HSM.out]; exact row_of_block HO.out (fun _ _ => rfl), by first | exact drewC HB.out _ | exact HB.out⟩
            case measure => simp [intOf]; omega
          · have hsm := dTo_more P Q k hne
            have hxq : ((str (Q.getD k [])).toList == (str (P.getD k [])).toList) = false := by rw [beq_bl, bl_str]; simp only [decide_eq_false_iff_not]; exact hne
            have HSM := Lib.hid hsm
            obtain ⟨S, hS⟩ : ∃ s, str (Q.getD k []) = s := ⟨_, rfl⟩
            have HS := Lib.hid hS
            rw [hS] at e0 hxq
            clear hne hsm hS
            generalize str (P.getD k []) = S2 at *
            have HNW : Hid (∀ n, ∀ (j : Nat) (x : Value), ([.int .i64 (k : Int), .string S] : List Value)[j]? = some x → ((wr.drewN n).alloc (.cells #[.int .i64 (k : Int), .string S] 60)).cell? ((⟨wr.heap.size, 0, none⟩ : Addr).add j) = some x) := fun n => news_2 (wr.drewN n) 60 (.int .i64 (k : Int)) (.string S)
            have HB2 : Hid (∀ n, Below W1.heap.size W1 ((wr.drewN n).alloc (.cells #[.int .i64 (k : Int), .string S] 60))) := fun n => (drewC HB.out n).alloc HB.out.size _
            have HO2 := Lib.hid (fun n => World.ownsRow.alloc (w := wr.drewN n) (row_of_block (w' := wr.drewN n) (show World.ownsRow _ _ _ _ _ _ _ from HO.out) (fun _ _ => rfl)) (.cells #[.int .i64 (k : Int), .string S] 60))
            have hone : ∀ u ∈ ([Value.int .i64 (k : Int), .string S] : List Value), u.oneCell' = true := by
              intro u hu
              simp at hu
              rcases hu with rfl | rfl <;> rfl
            have HONE := Lib.hid hone
            have HLD := Lib.hid hlen
            clear hone HO
            go_wp2_with fail
            go_quiet (fail)
            go_wp2_with (at_builtin; refine wpList_append_own _ rfl (.tmp 59) (.tmp 73) 50 rfl W1.heap.size 60 i0 (.agg #[.int .i64 0, .string ByteArray.empty]) 2 24 Try.underlying50 hi hz0 hz1 hz2 rfl (by decide) _ (dTo P Q k).length _ rfl (HO2.out _) ⟨wr.heap.size, 0, none⟩ 1 1 [.int .i64 (k : Int), .string S] rfl rfl (HNW.out _) HONE.out ?_ ?_ (HB2.out _).size ?_)
            · have := HLD.out; unfold maxLen; omega
            · have := HLD.out; omega
            · intro v' w1 hown hgrow _
              have HB3 := Lib.hid ((HB2.out nq).grown hgrow (HB2.out nq).size (fun j hj => ((HO2.out nq).lt j hj).1))
              have HOS : Hid (OChs w1 W1.heap.size v' (dTo P Q (k + 1))) := by
                unfold Hid
                rw [HSM.out]
                refine OChs.snoc (x := ((k : Int), Q.getD k [])) ?_
                dsimp only
                rw [HS.out]
                exact hown
              obtain ⟨A6, c6, hv6, _⟩ := HOS.out.view2 (dTo_b64 P Q (k + 1) (by omega))
              clear hown hgrow
              subst hv6
              go_wp2_with fail
              go_roundw
              case rel => exact ⟨k + 1, by omega, by go_num, HOS.out, HB3.out⟩
              case measure => simp [intOf]; omega
        · have hki : ¬ (k : Int) < (L : Int) := by omega
          obtain rfl : k = L := by omega
          obtain ⟨a, cc, rfl, hl, hb⟩ := HO.out.view2 (dTo_b64 P Q k (by omega))
          have HL := Lib.hid hl
          have HBB := Lib.hid hb
          clear hl hb HO
          go_wp2_with fail
          go_ret2
          exact ⟨a, cc, rfl, HL.out, fun b o e => by have := HBB.out b o e; have := HBZ.out.size; omega, HBZ.out.trans (HB.out.mono HBZ.out.size)⟩
end Go.Proofs.Ytfinmfmbbgakhaa.ch

/- The program's changes of a volume. -/
namespace Go.Proofs.Ytfinmfmbbgakhaa.ch.pg
open Go Go.RowKit Go.Sort Go.Proofs.Ytfinmfmbbgakhaa.ib
set_option maxRecDepth 100000

theorem info32 : (Try.prog.info? 67).map (fun i => (i.zero, i.size, i.bytes)) = some (some (.agg (Lib.byteCells zz).toArray), 32, 32) := by kernel_rfl
theorem pad_getD (l : List Bt) (k : Nat) (h : k < l.length) : (pad l).getD k [] = l.getD k [] := by
  unfold pad
  rw [List.getD_eq_getElem?_getD, List.getD_eq_getElem?_getD, List.getElem?_append_left h]
theorem pad_getD_ge {n : Nat} {l : List Bt} (h : volOk n l) (k : Nat) (hk : n ≤ k) (h8 : k < 8) : (pad l).getD k [] = zz := by
  have h2 := h.1
  unfold pad
  rw [List.getD_eq_getElem?_getD, List.getElem?_append_right (by omega), List.getElem?_replicate, if_pos (by omega)]
  simp
theorem fmap_congr {α β : Type} {f g : α → Option β} : ∀ {l : List α}, (∀ x ∈ l, f x = g x) → l.filterMap f = l.filterMap g
  | [], _ => rfl
  | x :: l, h => by
    rw [List.filterMap_cons, List.filterMap_cons, h x (by simp), fmap_congr (l := l) fun y hy => h y (by simp [hy])]
theorem dTo_pad_le {p q : List Bt} (k : Nat) (hp : k ≤ p.length) (hq : k ≤ q.length) : dTo (pad p) (pad q) k = dTo p q k := by
  unfold dTo
  refine fmap_congr fun i hi => ?_
  have := List.mem_range.1 hi
  rw [pad_getD p i (by omega), pad_getD q i (by omega)]
theorem dTo_pad_ge {n : Nat} {p q : List Bt} (hp : volOk n p) (hq : volOk n q) : ∀ j, n + j ≤ 8 → dTo (pad p) (pad q) (n + j) = dTo p q n
  | 0, _ => dTo_pad_le n (by rw [hp.1]; omega) (by rw [hq.1]; omega)
  | j + 1, h => by
    rw [← Nat.add_assoc, dTo_same _ _ _ (by rw [pad_getD_ge hp _ (by omega) (by omega), pad_getD_ge hq _ (by omega) (by omega)]), dTo_pad_ge hp hq j (by omega)]
theorem dTo_pad {n : Nat} {p q : List Bt} (hp : volOk n p) (hq : volOk n q) (h8 : n ≤ 8) : dTo (pad p) (pad q) 8 = diffs p q := by
  have := dTo_pad_ge hp hq (8 - n) (by omega)
  rw [show n + (8 - n) = 8 by omega] at this
  rw [this]
  unfold diffs dTo
  rw [hq.1]
theorem diffs_same (p : List Bt) : diffs p p = [] := by
  unfold diffs
  simp

def GcG (b o k B : Nat) (X : Bt) : Nat → Value → World → Prop
  | 0, v, _ => v = .int .i64 (k : Int)
  | 1, v, _ => v = .pointer (some ⟨b, o, none⟩)
  | 2, v, _ => v = .pointer (some ⟨b, o + k * 32, none⟩)
  | 3, v, _ => v = .agg (Lib.byteCells X).toArray
  | 4, v, w => ∃ g, v = .pointer (some ⟨g, 0, none⟩) ∧ B ≤ g ∧ Blk w g 67 (Lib.byteCells zz).toArray
  | 5, v, _ => v = .int .i64 (k : Int)
  | _, _, _ => True
theorem GcG_mono (b o k B : Nat) (X : Bt) (i : Nat) (v : Value) (w w' : World) (hi : i < 6) (h : GcG b o k B X i v w) (hb : Below w.heap.size w w') : GcG b o k B X i v w' := by
  match i, hi, h with
  | 0, _, h | 1, _, h | 2, _, h | 3, _, h | 5, _, h => exact h
  | 4, _, ⟨g, h1, h2, h3⟩ => exact ⟨g, h1, h2, h3.below hb⟩

def GcRel (P Q : List Bt) (q : List Bt) (w : World) (v i : Value) (wr : World) : Prop :=
  ∃ k : Nat, k ≤ 8 ∧ i = .int .i64 (k : Int) ∧ OChs wr w.heap.size v (dTo P Q k) ∧ Below w.heap.size w wr ∧ Blk wr w.heap.size 69 (vc q).toArray

def okChV (D : List (Int × Bt)) (w : World) (e : Ending) (w' : World) : Prop := ∃ A cc, e = .returned (.slice A D.length cc) ∧ ChL w' A D ∧ NewA w w' A ∧ Below w.heap.size w w'
set_option maxHeartbeats 6400000 in
theorem changesV_any {w : World} {b o n : Nat} {t : TypeId} {cs : Array Value} {p q : List Bt} (h : Blk w b t cs) (hc : ∀ j u, (vc p)[j]? = some u → cs[o + j]? = some u) (hp : volOk n p) (hq : volOk n q) (h8 : n ≤ 8) :
    Calls Try.prog 48 #[.pointer (some ⟨b, o, none⟩), .agg (vc q).toArray] w (okChV (diffs q p) w) := by
  obtain ⟨i0, hi, hz0, hz1, hz2⟩ := info_parts infoCh
  obtain ⟨i2, hi2, hy0, hy1, hy2⟩ := info_parts info32
  have HB := Lib.hid h
  have HC := Lib.hid hc
  have HP := Lib.hid hp
  have HQ := Lib.hid hq
  have HBL : Hid (b < w.heap.size) := h.lt
  have HVQ : Hid ((vc q).length = 256) := vc_len hq h8
  have HVP : Hid ((vc p).length = 256) := vc_len hp h8
  have HN := Lib.hid (Blk.new w 69 (vc q).toArray)
  have HI2 := Lib.hid hi2
  have HY0 := Lib.hid hy0
  have HB1 := Lib.hid (h.of_block (Below.heap_alloc w (.cells (vc q).toArray 69) _ h.lt))
  have HDP : Hid (dTo (pad q) (pad p) 8 = diffs q p) := dTo_pad hq hp h8
  have HSM : Hid (p = q → diffs q p = []) := fun e => by rw [e]; exact diffs_same q
  obtain ⟨D, hD⟩ : ∃ D, diffs q p = D := ⟨_, rfl⟩
  rw [hD] at HDP HSM ⊢
  clear h hc hp hq hi2 hy0 hy1 hy2 hD
  go_enter Try.func48, Try.ntmps48
  go_wp2_with (refine wpList_value rfl (exec_box 69 (.tmp 1) (vc q).toArray rfl rfl (by rw [sizeVol, List.size_toArray, HVQ.out]) (cells_all (vc_one q))) ?_)
  refine wp_region_still_w 4 (by kernel_rfl) (by kernel_rfl) ?_
  simp only [List.take_succ_cons, List.take_zero, List.drop_succ_cons, List.drop_zero]
  iterate 2 still_step
  refine still_value rfl (exec_load_part _ _ rfl b o rfl _ cs (vc p) _ _ HB1.out Try.underlying69 rfl (by rw [sizeVol, HVP.out]) HC.out) ?_
  refine still_value rfl (exec_load_part _ _ rfl w.heap.size 0 rfl _ _ (vc q) _ _ HN.out Try.underlying69 rfl (by rw [sizeVol, HVQ.out]) (fun j u hu => by rw [Nat.zero_add]; simpa using hu)) ?_
  refine wpStill_nil ?_
  refine wpList_value rfl (exec_eqvol _ _ p q rfl rfl rfl HP.out HQ.out h8) ?_
  by_cases hpq : p = q
  · obtain rfl := HSM.out hpq
    rw [decide_eq_true hpq]
    clear hpq HDP
    go_wp2_with fail
    go_ret
    exact ⟨none, 0, rfl, ChL.nil _ _, NewA.none _ _, drewC ((Below.refl w.heap.size w).alloc (Nat.le_refl _) _) 1⟩
  · rw [decide_eq_false hpq]
    have HBW : Hid (Below w.heap.size w (w.alloc (.cells (vc q).toArray 69)).drew) := drewC ((Below.refl w.heap.size w).alloc (Nat.le_refl _) _) 1
    have HNW : Hid (Blk (w.alloc (.cells (vc q).toArray 69)).drew w.heap.size 69 (vc q).toArray) := HN.out
    clear hpq HN HB1 HSM
    generalize (w.alloc (.cells (vc q).toArray 69)).drew = W1 at *
    go_wp2_with fail
    go_loopw [5, 15] (fun v i wr => GcRel (pad q) (pad p) q w v i wr) (fun _ i _ => 8 - (intOf i).toNat)
    case atStart => exact ⟨0, Nat.zero_le _, rfl, World.ownsRow_nil _ _ _ _, HBW.out, HNW.out⟩
    case round =>
      obtain ⟨k, hk, rfl, ho, hB, hV⟩ := hrel
      have HO := Lib.hid ho
      have HBE := Lib.hid hB
      have HV := Lib.hid hV
      clear ho hB hV HBW HNW
      by_cases hlt : k < 8
      · have hki : (k : Int) < 8 := by omega
        have hp8 : k < (pad p).length := by rw [pad_len HP.out h8]; exact hlt
        have hq8 : k < (pad q).length := by rw [pad_len HQ.out h8]; exact hlt
        have HX : Hid ((pad p)[k].length = 32) := pad_32 HP.out _ (List.getElem_mem hp8)
        have HY : Hid ((pad q)[k].length = 32) := pad_32 HQ.out _ (List.getElem_mem hq8)
        have HXC : Hid (∀ j u, (Lib.byteCells (pad p)[k])[j]? = some u → cs[o + k * 32 + j]? = some u) := fun j u hu => by
          rw [Nat.add_assoc]
          exact HC.out _ _ (vc_get HP.out k hp8 j u hu)
        have HYC : Hid (∀ j u, (Lib.byteCells (pad q)[k])[j]? = some u → (vc q).toArray[k * 32 + j]? = some u) := fun j u hu => by
          simpa using vc_get HQ.out k hq8 j u hu
        have HXD : Hid ((pad p).getD k [] = (pad p)[k]) := by unfold Hid; rw [List.getD_eq_getElem?_getD, List.getElem?_eq_getElem hp8]; rfl
        have HYD : Hid ((pad q).getD k [] = (pad q)[k]) := by unfold Hid; rw [List.getD_eq_getElem?_getD, List.getElem?_eq_getElem hq8]; rfl
        have HDS := Lib.hid (dTo_same (pad q) (pad p) k)
        have HDM := Lib.hid (dTo_more (pad q) (pad p) k)
        have HDL := Lib.hid (dTo_len (pad q) (pad p) k)
        have HDB := Lib.hid (dTo_b64 (pad q) (pad p) (k + 1) (by omega))
        rw [HXD.out, HYD.out] at HDS HDM
        clear HXD HYD
        generalize (pad p)[k] = X at *
        generalize (pad q)[k] = Y at *
        clear hp8 hq8
        have HBR := Lib.hid (HB.out.of_block (HBE.out.block b HBL.out))
        go_wp2_with fail
        refine wp_region_slots_f (by kernel_rfl) 6 [17, 18, 19, 20, 7, 6] (by kernel_rfl) (GcG b o k wr.heap.size X) (GcG_mono _ _ _ _ _) ?_ ?_
        · intro i op vs ρ W hi6 hop hρ hfn hb hG
          have t13 : ρ (.tmp 13) = .pointer (some ⟨b, o, none⟩) := hρ.out 13 rfl
          have t15 : ρ (.tmp 15) = .int .i64 (k : Int) := hρ.out 15 rfl
          have s17 := hρ.at_ 17 0 rfl
          have s18 := hρ.at_ 18 1 rfl
          have s19 := hρ.at_ 19 2 rfl
          rcases i with _ | _ | _ | _ | _ | _ | i
          all_goals (first | omega | skip)
          all_goals simp only [List.getElem?_toArray, List.getElem?_cons_zero, List.getElem?_cons_succ, Option.some.injEq] at hop
          all_goals subst hop
          · exact stepTo_value (w' := W) (by unfold execOp; simp only [t15]; go_simp) ⟨Below.refl _ _, rfl⟩
          · exact stepTo_value (w' := W) (by unfold execOp; simp only [t13]; go_simp) ⟨Below.refl _ _, rfl⟩
          · have g1 : vs 1 = .pointer (some ⟨b, o, none⟩) := hG 1 (by kernel_rfl)
            exact stepTo_value (w' := W) (by unfold execOp; simp only [s18, g1, t15]; go_simp) ⟨Below.refl _ _, rfl⟩
          · have g2 : vs 2 = .pointer (some ⟨b, o + k * 32, none⟩) := hG 2 (by kernel_rfl)
            exact stepTo_value (w' := W) (exec_load_part 67 (.tmp 19) rfl b (o + k * 32) (s19.trans g2) _ cs (Lib.byteCells X) _ _ (HBR.out.below hb) Try.underlying67 rfl (by rw [sizeB32, Lib.byteCells_length, HX.out]) HXC.out) ⟨Below.refl _ _, rfl⟩
          · exact stepTo_value (exec_alloc 67 i2 _ rfl HI2.out HY0.out) ⟨(Below.refl _ W).alloc (Nat.le_refl _) _, W.heap.size, rfl, hb.size, Blk.new _ _ _⟩
          · have g0 : vs 0 = .int .i64 (k : Int) := hG 0 (by kernel_rfl)
            exact stepTo_value (w' := W) (by unfold execOp; simp only [s17, g0]; go_simp) ⟨Below.refl _ _, rfl⟩
        · intro vs W hb hG
          have g0 : vs 0 = _ := hG 0 (by decide)
          have g1 : vs 1 = _ := hG 1 (by decide)
          have g2 : vs 2 = _ := hG 2 (by decide)
          have g3 : vs 3 = _ := hG 3 (by decide)
          obtain ⟨gg, g4, hgB, hbk⟩ := hG 4 (by decide)
          have g5 : vs 5 = _ := hG 5 (by decide)
          simp only [putList, putSel, if_true]
          rw [g0, g1, g2, g3, g4, g5]
          have HBW2 := Lib.hid hb
          have HBK := Lib.hid hbk
          have HGB := Lib.hid hgB
          clear hG g0 g1 g2 g3 g4 g5 hb hbk hgB
          simp only [Act.put, List.setIfInBounds_toArray, List.set_cons_succ, List.set_cons_zero]
          refine wpAny_one (i := 6) (by kernel_rfl) rfl rfl ?_
          refine wp_skip (exec_store_part W 67 (.tmp 7) (.tmp 20) rfl gg 0 rfl (Lib.byteCells X) rfl 67 _ HBK.out (by rw [sizeB32, Lib.byteCells_length, HX.out]) (by rw [List.size_toArray, Lib.byteCells_length, Lib.byteCells_length, HX.out, zz_length]; omega) (Lib.byteCells_one X)) ?_
          have HBX : Hid (Blk (W.setRow gg ((Lib.byteCells zz).toArray.toList.take 0 ++ Lib.byteCells X ++ (Lib.byteCells zz).toArray.toList.drop (0 + (Lib.byteCells X).length)).toArray) gg 67 (Lib.byteCells X).toArray) := by
            have h := setRow_blk (c := ((Lib.byteCells zz).toArray.toList.take 0 ++ Lib.byteCells X ++ (Lib.byteCells zz).toArray.toList.drop (0 + (Lib.byteCells X).length)).toArray) HBK.out
            have e : ((Lib.byteCells zz).toArray.toList.take 0 ++ Lib.byteCells X ++ (Lib.byteCells zz).toArray.toList.drop (0 + (Lib.byteCells X).length)) = Lib.byteCells X := by
              rw [List.take_zero, List.nil_append, List.drop_of_length_le, List.append_nil]
              show (Lib.byteCells zz).length ≤ _
              rw [Lib.byteCells_length, Lib.byteCells_length, HX.out, zz_length]
              omega
            rw [e] at h ⊢
            exact h
          have HBT := Lib.hid (setRow_but W gg ((Lib.byteCells zz).toArray.toList.take 0 ++ Lib.byteCells X ++ (Lib.byteCells zz).toArray.toList.drop (0 + (Lib.byteCells X).length)).toArray)
          generalize W.setRow gg ((Lib.byteCells zz).toArray.toList.take 0 ++ Lib.byteCells X ++ (Lib.byteCells zz).toArray.toList.drop (0 + (Lib.byteCells X).length)).toArray = W2 at *
          have HB2 : Hid (Below wr.heap.size wr W2) := HBW2.out.trans (HBT.out.below (fun i hi => by rw [hi]; exact HGB.out) HBW2.out.size)
          have HV2 := Lib.hid (HV.out.below HB2.out)
          have HO2 := Lib.hid (row_of_block (w' := W2) (show World.ownsRow _ _ _ _ _ _ _ from HO.out) (fun j hj => HB2.out.block j (HO.out.lt j hj).2))
          have HE2 := Lib.hid (HBE.out.trans (HB2.out.mono HBE.out.size))
          clear HBT HBW2 HBK HV HO HBE HBR HB2 HGB
          refine ⟨by kernel_rfl, ?_⟩
          go_wp2_with fail
          refine wp_region_still_w 4 (by kernel_rfl) (by kernel_rfl) ?_
          simp only [List.take_succ_cons, List.take_zero, List.drop_succ_cons, List.drop_zero]
          refine still_value rfl (exec_load_part _ _ rfl gg 0 rfl _ _ (Lib.byteCells X) _ _ HBX.out Try.underlying67 rfl (by rw [sizeB32, Lib.byteCells_length, HX.out]) (fun j u hu => by rw [Nat.zero_add]; simpa using hu)) ?_
          iterate 2 still_step
          refine still_value rfl (exec_load_part _ _ rfl w.heap.size (k * 32) rfl _ _ (Lib.byteCells Y) _ _ HV2.out Try.underlying67 rfl (by rw [sizeB32, Lib.byteCells_length, HY.out]) HYC.out) ?_
          refine wpStill_nil ?_
          refine wpList_value rfl (exec_neq32 _ _ X Y rfl rfl rfl HX.out HY.out) ?_
          by_cases hxy : X = Y
          · rw [decide_eq_true hxy]
            have HSM := Lib.hid (HDS.out hxy)
            clear hxy HDM HDS HDL HDB
            go_wp2_with fail
            go_roundw
            case rel => exact ⟨k + 1, by omega, by go_num, by rw [HSM.out]; exact row_of_block HO2.out (fun _ _ => rfl), drewC HE2.out 1, HV2.out⟩
            case measure => simp [intOf]; omega
          · rw [decide_eq_false hxy]
            have HSM := Lib.hid (HDM.out hxy)
            clear hxy HDM HDS
            have HKX := Lib.hid (HBX.out.lt)
            have hconv := conv_block X gg 32 67 W2.drew HX.out HBX.out
            obtain ⟨S, hS⟩ : ∃ s, str X = s := ⟨_, rfl⟩
            have HS := Lib.hid hS
            rw [hS] at hconv
            clear hS
            have HNWS := Lib.hid (news_2 W2.drew 60 (.int .i64 (k : Int)) (.string S))
            have HB3 := Lib.hid ((drewC HE2.out 1).alloc HE2.out.size (.cells #[.int .i64 (k : Int), .string S] 60))
            have HO3 := Lib.hid (World.ownsRow.alloc (w := W2.drew) (row_of_block (w' := W2.drew) HO2.out (fun _ _ => rfl)) (.cells #[.int .i64 (k : Int), .string S] 60))
            have HV3 : Hid (Blk (W2.drew.alloc (.cells #[.int .i64 (k : Int), .string S] 60)) w.heap.size 69 (vc q).toArray) := HV2.out.of_block (Below.heap_alloc W2.drew _ _ HV2.out.lt)
            have hone : ∀ u ∈ ([Value.int .i64 (k : Int), .string S] : List Value), u.oneCell' = true := by
              intro u hu
              simp at hu
              rcases hu with rfl | rfl <;> rfl
            have HONE := Lib.hid hone
            clear hone HO2 HE2 HV2
            go_wp2_with (at_builtin; refine wpList_append_own _ rfl (.tmp 26) (.tmp 31) 50 rfl w.heap.size 60 i0 (.agg #[.int .i64 0, .string ByteArray.empty]) 2 24 Try.underlying50 hi hz0 hz1 hz2 rfl (by decide) _ (dTo (pad q) (pad p) k).length _ rfl HO3.out ⟨W2.heap.size, 0, none⟩ 1 1 [.int .i64 (k : Int), .string S] rfl rfl HNWS.out HONE.out ?_ ?_ HB3.out.size ?_)
            · have := HDL.out; unfold maxLen; omega
            · have := HDL.out; omega
            · intro v' w1 hown hgrow _
              have HB4 := Lib.hid (HB3.out.grown hgrow HB3.out.size (fun j hj => (HO3.out.lt j hj).1))
              have HV4 := Lib.hid (HV3.out.of_block (hgrow.block _ HV3.out.lt (fun e => own_type HO3.out HV3.out (by decide) _ e.symm rfl)))
              have HOS : Hid (OChs w1 w.heap.size v' (dTo (pad q) (pad p) (k + 1))) := by
                unfold Hid
                rw [HSM.out]
                refine OChs.snoc (x := ((k : Int), X)) ?_
                dsimp only
                rw [HS.out]
                exact hown
              obtain ⟨A6, c6, hv6, _⟩ := HOS.out.view2 HDB.out
              clear hown hgrow
              subst hv6
              go_wp2_with fail
              go_roundw
              case rel => exact ⟨k + 1, by omega, by go_num, HOS.out, HB4.out, HV4.out⟩
              case measure => simp [intOf]; omega
      · have hki : ¬ (k : Int) < 8 := by omega
        obtain rfl : k = 8 := by omega
        have ho := HO.out
        rw [HDP.out] at ho
        obtain ⟨a, cc, rfl, hl, hb⟩ := ho.view2 (by rw [← HDP.out]; exact dTo_b64 _ _ 8 (by omega))
        have HL := Lib.hid hl
        have HBB := Lib.hid hb
        clear ho hl hb HO
        go_wp2_with fail
        go_ret
        exact ⟨a, cc, rfl, HL.out, HBB.out, HBE.out⟩
end Go.Proofs.Ytfinmfmbbgakhaa.ch.pg


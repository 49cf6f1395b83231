/- JRec, JPoss, JHeadP, JRecov, SlotsF. -/
import Derived.Test.YtjllpbckmioiiaaDoorQ14
import Derived.Test.YtjllpbckmioiiaaDoorQ18
import Derived.Test.YtjllpbckmioiiaaDoorQ2
import Derived.Deep.QuietTactic
import Derived.BigQuiet
/- The record that a head tells of, read. -/
namespace Go.Proofs.YtjllpbckmioiiaaDoor.jr
open Go Go.RowKit Go.Proofs.YtjllpbckmioiiaaDoor.dk Go.Proofs.YtjllpbckmioiiaaDoor.wi
set_option maxRecDepth 100000

theorem recSecs_snoc (s : Sects) (a k : Nat) : recSecs s a (k + 1) = recSecs s a k ++ [rd s ((1 + a * 72 + k : Nat) : Int)] := by
  unfold recSecs
  rw [List.range_succ, List.map_append]
  rfl
theorem recSecs_len (s : Sects) (a k : Nat) : (recSecs s a k).length = k := by simp [recSecs]

def RecRel (w : World) (s : Sects) (a c : Nat) (v i : Value) (wr : World) : Prop :=
  ∃ k : Nat, k ≤ c ∧ i = .int .i64 (k : Int) ∧ OwnsStrs wr w.heap.size v (recSecs s a k) ∧ Below w.heap.size w wr

set_option maxHeartbeats 3200000 in
theorem record_any {most : Nat} {w : World} {own : Nat → Prop} {p : Nat} {d : DD} (h : DkIs most w own p d) (hon : d.on = true) (hn : 145 < d.n) (a c : Nat) (ha : a < 2) (hc : c ≤ 72) (ht : CTab w) :
    Calls Tryd.prog 41 #[.agg #[.int .i64 (a : Int), .int .i64 (c : Int)], .pointer (some ⟨p, 0, none⟩)] w (TakePost (recOf d.now a c) w) := by
  obtain ⟨i0, hi, hz0, hz1, hz2⟩ := info_parts Tryd.info9
  have HD := Lib.hid h
  have HT := Lib.hid ht
  have hg := ht.1
  have HOK := Lib.hid h.1
  have hrd : ∀ k, k < c → d.read ((1 + a * 72 + k : Nat) : Int) = (rd d.now ((1 + a * 72 + k : Nat) : Int), 0) := by
    intro k hk
    unfold DD.read
    have : d.has ((1 + a * 72 + k : Nat) : Int) = true := by
      have h72 : a * 72 ≤ 72 := by omega
      simp only [DD.has, Bool.and_eq_true, decide_eq_true_eq]
      omega
    rw [if_neg (by rw [hon]; simp), if_neg (by rw [this]; simp)]
    rfl
  have h32 : ∀ k, (rd d.now ((1 + a * 72 + k : Nat) : Int)).length = 32 := by
    intro k
    unfold rd
    cases hx : dk.look d.now ((1 + a * 72 + k : Nat) : Int) with
    | none => exact zz_length
    | some u => exact HOK.out.look1 hx
  have H32 := Lib.hid h32
  have HRD := Lib.hid hrd
  have hfst := fun (W : World) => first_any a c ha W
  have HF := Lib.hid hfst
  obtain ⟨res, hres⟩ : ∃ x, recOf d.now a c = x := ⟨_, rfl⟩
  rw [hres]
  have HRES := Lib.hid hres
  have kb : Blk (w.alloc (.cells #[.int .i64 (a : Int), .int .i64 (c : Int)] 54)) w.heap.size _ _ := Blk.new w _ _
  have k0 := kb.lt
  have hb0 : Below w.heap.size w (w.alloc (.cells #[.int .i64 (a : Int), .int .i64 (c : Int)] 54)) := (Below.refl w.heap.size w).alloc (Nat.le_refl _) _
  clear h ht hrd h32 hfst hres
  go_enter Tryd.func41, Tryd.ntmps41
  go_wp2_with fail
  obtain ⟨w0, hw0⟩ : ∃ x, w.alloc (.cells #[.int .i64 (a : Int), .int .i64 (c : Int)] 54) = x := ⟨_, rfl⟩
  rw [hw0] at kb k0 hb0
  rw [hw0]
  clear hw0
  have KB := Lib.hid kb
  have HB0 := Lib.hid hb0
  clear kb hb0
  go_loopw [6, 14] (fun v i wr => RecRel w0 d.now a c v i wr) (fun _ i _ => c - (intOf i).toNat)
  case atStart => exact ⟨0, Nat.zero_le _, rfl, World.ownsRow_nil _ _ _ _, Below.refl _ _⟩
  case round =>
    obtain ⟨k, hk, rfl, ho, hB⟩ := hrel
    have HO := Lib.hid ho
    have HB := Lib.hid hB
    have HBW := Lib.hid (HB0.out.trans (hB.mono HB0.out.size))
    clear ho hB
    by_cases hlt : k < c
    · have hkb : Blk wr w.heap.size _ _ := KB.out.of_block (HB.out.block _ k0)
      have q0 := hkb.cell 0
      have q1 := hkb.cell 1
      have lt2 := hkb.lt
      have hklt : (k : Int) < (c : Int) := by omega
      have hsn := recSecs_snoc d.now a k
      have hr1 := HRD.out k hlt
      have hr32 := H32.out k
      have hln := recSecs_len d.now a k
      clear hkb
      generalize rd d.now ((1 + a * 72 + k : Nat) : Int) = x at *
      have HSN := Lib.hid hsn
      have HR1 := Lib.hid hr1
      have HLN := Lib.hid hln
      obtain ⟨o1, ho1⟩ : ∃ n, 1 + a * 72 = n := ⟨_, rfl⟩
      have ho73 : o1 ≤ 73 := by omega
      have HF1 := HF
      rw [ho1] at HF1 HR1
      have hadd : (o1 : Int) + (k : Int) = ((o1 + k : Nat) : Int) := by omega
      have HAD := Lib.hid hadd
      clear hsn hr1 ho1 hadd
      go_wp2_with fail
      refine (HF1.out _).mono ?_
      rintro e W1 ⟨rfl, b1⟩
      have ho1 := owns_kept HO.out b1
      have HO1 := Lib.hid ho1
      have HB1 := Lib.hid (HB.out.trans (b1.mono HB.out.size))
      clear b1 ho1 q0 q1
      go_wp2_with fail
      rw [HAD.out]
      have HBX := Lib.hid (HB0.out.trans (HB1.out.mono HB0.out.size))
      refine (read_in (B := 0) ⟨own, HD.out.below HBX.out, fun _ _ => Nat.zero_le _⟩ ((o1 + k : Nat) : Int) x (str x) rfl 0 HR1.out).mono ?_
      rintro e W2 ⟨rfl, _, b2⟩
      have ho2 := owns_kept HO1.out b2
      rw [show OwnsStrs W2 w0.heap.size _ (recSecs d.now a k) = W2.ownsRow w0.heap.size 9 1 _ (recSecs d.now a k).length (strVals (recSecs d.now a k)) from rfl] at ho2
      have HB2 := Lib.hid (HB1.out.trans (b2.mono HB1.out.size))
      have hown2 := ho2.alloc (.cells #[.string (str x)] 9)
      have hnews := news_one W2 9 (.string (str x))
      have HO2 := Lib.hid hown2
      have HNW := Lib.hid hnews
      have HB3 := Lib.hid (HB2.out.alloc HB2.out.size (.cells #[.string (str x)] 9))
      clear b2 ho2 hown2 hnews HO HO1
      have hkb : k ≤ 1000 := by omega
      go_wp2_with (at_builtin; refine wpList_append_own _ rfl (.tmp 28) (.tmp 30) 34 rfl w0.heap.size 9 i0 (.string ByteArray.empty) 1 16 Tryd.underlying34 hi hz0 hz1 hz2 rfl (by decide) _ (recSecs d.now a k).length _ rfl HO2.out ⟨W2.heap.size, 0, none⟩ 1 1 [.string (str x)] rfl rfl HNW.out (fun u hu => by simp at hu; subst hu; rfl) ?_ ?_ HB3.out.size ?_)
      · rw [HLN.out]; unfold maxLen; omega
      · rw [HLN.out]; omega
      · intro v' w1 hown1 hgrow _
        have hb1 := HB3.out.grown hgrow HB3.out.size (fun j hj => (HO2.out.lt j hj).1)
        have hos : OwnsStrs w1 w0.heap.size v' (recSecs d.now a k ++ [x]) := by
          unfold OwnsStrs
          rw [strVals_snoc, List.length_append]
          rw [HLN.out]
          first | exact hown1 | (rw [HLN.out] at hown1; exact hown1)
        have HOS := Lib.hid hos
        have HB4 := Lib.hid hb1
        clear hb1 hos hown1 hgrow
        go_wp2_with fail
        go_roundw
        case rel => exact ⟨k + 1, by omega, by go_num, by rw [HSN.out]; exact HOS.out, HB4.out⟩
        case measure => simp [intOf]; omega
    · obtain rfl : k = c := by omega
      obtain ⟨A, cc, rfl, _, _, hsa, _, _⟩ := HO.out.view
      have hln := recSecs_len d.now a k
      have HSA := Lib.hid hsa
      have hct := HT.out.below HBW.out hg
      have HCT := Lib.hid hct
      clear hsa hct
      have hres := HRES.out
      unfold recOf at hres
      have hfl : (recSecs d.now a k).flatten.length ≤ 100000 := by
        rw [flatten_length32 _ (fun i hi => by simp only [recSecs, List.getElem_map, List.getElem_range]; exact H32.out i), hln]
        omega
      have HFL := Lib.hid hfl
      clear hfl
      generalize recSecs d.now a k = ps at *
      have HLP := Lib.hid hln
      by_cases hx : ∃ t, IsText ps t
      · obtain ⟨t, htx⟩ := hx
        have hun : unB ps = some t := by
          have hx : ∃ u, IsText ps u := ⟨t, htx⟩
          unfold unB
          rw [dif_pos hx]
          exact congrArg some (isText_one _ _ _ hx.choose_spec htx)
        rw [hun] at hres
        have HR := Lib.hid (show takeB t = res from hres)
        have HTX := Lib.hid htx
        clear hres hun htx hln
        go_wp2_with fail
        refine (unpack_some A cc ps t _ HSA.out HTX.out HCT.out).mono ?_
        rintro e W3 ⟨rfl, b3⟩
        have HB3 := Lib.hid (HBW.out.trans (b3.mono HBW.out.size))
        clear b3
        go_wp2_with fail
        refine (take_any (str t) _ (by rw [str_size]; have := HTX.out.1; omega)).mono ?_
        rintro e W4 ⟨b4, hq⟩
        rw [bl_str, HR.out] at hq
        have HB4 := Lib.hid (HB3.out.trans (b4.mono HB3.out.size))
        clear b4
        cases res with
        | some l =>
          obtain ⟨A2, c2, rfl, hw⟩ := hq
          have HW := Lib.hid hw
          clear hw
          go_wp2_with fail
          go_ret2
          exact ⟨HB4.out, _, _, rfl, HW.out⟩
        | none =>
          obtain ⟨A2, n2, c2, rfl⟩ := hq
          go_wp2_with fail
          go_ret2
          exact ⟨HB4.out, _, _, _, rfl⟩
      · have hun : unB ps = none := by
          unfold unB
          rw [dif_neg hx]
        rw [hun] at hres
        have hres2 : none = res := hres
        subst hres2
        have HX := Lib.hid hx
        clear hres hun hx hln
        go_wp2_with fail
        refine (unpack_none A cc ps _ HSA.out (by have := HLP.out; omega) HFL.out (fun t ht => HX.out ⟨t, ht⟩) HCT.out).mono ?_
        rintro e W3 ⟨rfl, b3⟩
        have HB3 := Lib.hid (HBW.out.trans (b3.mono HBW.out.size))
        clear b3
        go_wp2_with fail
        go_ret2
        exact ⟨HB3.out, _, _, _, rfl⟩
end Go.Proofs.YtjllpbckmioiiaaDoor.jr

/- Which writes could be a Commit's. -/
namespace Go.Proofs.YtjllpbckmioiiaaDoor.jr
open Go Go.RowKit Go.Proofs.YtjllpbckmioiiaaDoor.dk Go.Proofs.YtjllpbckmioiiaaDoor.wi
set_option maxRecDepth 100000

def PossRel (N : Nat) (l : List Wr) (w : World) (i : Value) (wr : World) : Prop :=
  ∃ k : Nat, k ≤ l.length ∧ i = .int .i64 (k : Int) ∧ SetIs wr w.heap.size (found [] (l.take k)) ∧ (l.take k).all (okW N) = true ∧ Below w.heap.size w wr

theorem found_snoc (l : List Wr) (k : Nat) (h : k < l.length) : found [] (l.take (k + 1)) = addTo (found [] (l.take k)) l[k].1 := by
  rw [List.take_succ_eq_append_getElem h]
  unfold found
  rw [List.foldl_append]
  rfl

theorem drewB {w wr : World} (h : Below w.heap.size w wr) (n : Nat) : Below w.heap.size w (wr.drewN n) := ⟨h.os, h.tape, h.output, h.size, h.block⟩

set_option maxHeartbeats 3200000 in
theorem poss_any {most : Nat} {w : World} {own : Nat → Prop} {p : Nat} {d : DD} (h : DkIs most w own p d) (a : Option Addr) (c : Nat) (l : List Wr) (hT : WsAt w a l) (hl : l.length ≤ 1000000) :
    Calls Tryd.prog 27 #[.pointer (some ⟨p, 0, none⟩), .slice a l.length c] w (okB (poss d.n l) w) := by
  obtain ⟨h0, m, v, hd⟩ := h
  have HD := Lib.hid hd
  have HN := Lib.hid h0.n1
  have HT := Lib.hid hT
  have hmm := @run_makeMap Tryd.prog
  clear h0 hd hT
  go_enter Tryd.func27, Tryd.ntmps27
  go_wp2_with fail
  clear hmm
  go_loopw [11] (fun i wr => PossRel d.n l w i wr) (fun i _ => l.length - (intOf i).toNat)
  case atStart => exact ⟨0, Nat.zero_le _, rfl, SetIs.made w, rfl, (Below.refl _ w).alloc (Nat.le_refl _) _⟩
  case round =>
    obtain ⟨k, hk, rfl, hs, hall, hB⟩ := hrel
    have HS := Lib.hid hs
    have HB := Lib.hid hB
    have HA := Lib.hid hall
    clear hs hB hall
    by_cases hlt : k < l.length
    · obtain ⟨b, o, rfl, hb, q0, q1, qb⟩ := HT.out k hlt
      have hfs := found_snoc l k hlt
      have hast : (l.take (k + 1)).all (okW d.n) = ((l.take k).all (okW d.n) && okW d.n l[k]) := by rw [List.take_succ_eq_append_getElem hlt, List.all_append, List.all_cons, List.all_nil, Bool.and_true]
      have hin : okW d.n l[k] = false → poss d.n l = false := fun hh => by
        unfold poss
        rw [Bool.and_eq_false_iff]
        left
        rw [List.all_eq_false]
        exact ⟨l[k], List.getElem_mem hlt, by rw [hh]; simp⟩
      generalize hxx : l[k] = x at *
      have e0 : wr.cell? ⟨b, o + k * 2, none⟩ = some (.int .i64 x.1) := by rw [HB.out.cell (p := ⟨b, o + k * 2, none⟩) hb]; exact q0
      have e1 : wr.cell? ⟨b, o + k * 2 + 1, none⟩ = some (.string (str x.2)) := by rw [HB.out.cell (p := ⟨b, o + k * 2 + 1, none⟩) hb]; exact q1
      have hb2 : b < wr.heap.size := Nat.lt_of_lt_of_le hb HB.out.size
      have hklt : (k : Int) < (l.length : Int) := by omega
      have HF := Lib.hid hfs
      have HAS := Lib.hid hast
      have HIN := Lib.hid hin
      have HQB := Lib.hid qb
      clear q0 q1 hfs hast hin qb hxx
      have d0 : wr.cell? ⟨p, 0, none⟩ = some (.int .i64 (d.n : Int)) := by rw [HB.out.cell (p := ⟨p, 0, none⟩) HD.out.1.lt]; exact HD.out.1.cell 0
      have hpl : p < wr.heap.size := Nat.lt_of_lt_of_le HD.out.1.lt HB.out.size
      have hdw : ∀ n, DkAt ((wr.alloc (.cells #[.int .i64 x.1, .string (str x.2)] 49)).drewN n) own p m v d := fun n => by
        have hb' := drewB (HB.out.alloc HB.out.size (.cells #[.int .i64 x.1, .string (str x.2)] 49)) n
        exact HD.out.keep hb'.size (fun j hj => hb'.block j (HD.out.2.2.2.2.2.2 j hj))
      have hln : ∀ n, Calls Tryd.prog 19 #[.pointer (some ⟨p, 0, none⟩)] ((wr.alloc (.cells #[.int .i64 x.1, .string (str x.2)] 49)).drewN n) fun e w' => e = .returned (.int .i64 (d.n : Int)) ∧ w' = (wr.alloc (.cells #[.int .i64 x.1, .string (str x.2)] 49)).drewN n := fun n => (len_any (hdw n)).mono fun e w' g => ⟨g.1, g.2.symm⟩
      have HLN := Lib.hid hln
      clear hdw hln
      by_cases c1 : x.1 < 145
      · have hf := Lib.hid (HIN.out (by simp [okW]; omega))
        go_wp2_with fail
        go_quiet (fail)
        go_wp2_with fail
        go_ret
        exact ⟨by rw [hf.out]; rfl, drewB (HB.out.alloc HB.out.size _) _⟩
      · have c1' : decide (x.1 < 145) = false := by simpa using c1
        by_cases c2 : (d.n : Int) ≤ x.1
        · have hf := Lib.hid (HIN.out (by simp [okW]; omega))
          go_wp2_with fail
          go_quiet (first | (go_at_call 19; exact Calls.quiet_of_same (HLN.out _)))
          go_wp2_with fail
          go_ret
          exact ⟨by rw [hf.out]; rfl, drewB (HB.out.alloc HB.out.size _) _⟩
        · have c2' : decide ((d.n : Int) ≤ x.1) = false := by simpa using c2
          by_cases c3 : x.2.length = 32
          · have c3' : (((str x.2).size : Int) != 32) = false := by rw [bne_eq_false_iff_eq, str_size]; omega
            have hok : okW d.n x = true := by simp [okW]; omega
            have HOK := Lib.hid hok
            clear hok
            go_wp2_with fail
            go_quiet (first | (go_at_call 19; exact Calls.quiet_of_same (HLN.out _)))
            have hsw : SetIs ((wr.alloc (.cells #[.int .i64 x.1, .string (str x.2)] 49)).drewN nq) w.heap.size (found [] (l.take k)) := HS.out.of_block (Below.heap_alloc wr _ _ HS.out.lt)
            have HSW := Lib.hid hsw
            have HBW := Lib.hid (drewB (HB.out.alloc HB.out.size (.cells #[.int .i64 x.1, .string (str x.2)] 49)) nq)
            have hfl : (found [] (l.take k)).length < maxLen := by
              have := found_len (l.take k) []
              simp at this
              unfold maxLen
              omega
            have HFL := Lib.hid hfl
            clear hsw hfl
            go_wp2_with (at_mapUpdate; refine wpList_store_set rfl _ _ _ rfl rfl HSW.out x.1 rfl rfl HQB.out.1 HQB.out.2 HFL.out ?_; intro w2 hs2 ht2; have HS2 := Lib.hid hs2; have HB2 := Lib.hid (turned_but ht2); clear hs2 ht2)
            go_roundw
            case rel => exact ⟨k + 1, by omega, by go_num, by rw [HF.out]; exact HS2.out, by rw [HAS.out, HA.out, HOK.out]; rfl, HBW.out.trans (HB2.out.below (fun i e => by subst e; exact Nat.le_refl _) HBW.out.size)⟩
            case measure => simp [intOf]; omega
          · have c3' : (((str x.2).size : Int) != 32) = true := by rw [bne_iff_ne, str_size]; omega
            have hf := Lib.hid (HIN.out (by simp [okW]; omega))
            go_wp2_with fail
            go_quiet (first | (go_at_call 19; exact Calls.quiet_of_same (HLN.out _)))
            go_wp2_with fail
            go_ret
            exact ⟨by rw [hf.out]; rfl, drewB (HB.out.alloc HB.out.size _) _⟩
    · obtain rfl : k = l.length := by omega
      have hln := Lib.hid (HS.out)
      have hres : poss d.n l = ((((found [] l).length : Int)) == (l.length : Int)) := by
        have ha := HA.out
        rw [List.take_length] at ha
        unfold poss
        rw [ha, Bool.true_and, Bool.eq_iff_iff]
        simp
        omega
      have HR := Lib.hid hres
      clear hres
      go_wp2_with (at_len; refine wpList_value rfl (exec_len_set _ rfl rfl HS.out) ?_)
      go_ret
      exact ⟨by rw [HR.out]; rfl, HB.out⟩
end Go.Proofs.YtjllpbckmioiiaaDoor.jr

/- What is asked of a head's two calls; Format and Recover by that. -/
namespace Go.Proofs.YtjllpbckmioiiaaDoor.jr
open Go Go.RowKit Go.Proofs.YtjllpbckmioiiaaDoor.dk Go.Proofs.YtjllpbckmioiiaaDoor.wi
set_option maxRecDepth 100000

/-- A head's write. -/
def HeadW : Prop := ∀ (a c : Nat) (w : World), a < 2 → c ≤ 72 →
  Calls Tryd.prog 32 #[.agg #[.int .i64 (a : Int), .int .i64 (c : Int)]] w fun e w' => e = .returned (.agg #[.int .i64 0, .string (str (hdB a c))]) ∧ Below w.heap.size w w'

def HeadPost (r : Option (Nat × Nat)) (w : World) (e : Ending) (w' : World) : Prop :=
  Below w.heap.size w w' ∧ match r with
    | some (a, c) => e = .returned (.tuple #[.agg #[.int .i64 (a : Int), .int .i64 (c : Int)], .bool true])
    | none => ∃ x y : Int, e = .returned (.tuple #[.agg #[.int .i64 x, .int .i64 y], .bool false])
/-- .. and what is read of the sector 0. -/
def HeadR : Prop := ∀ (most : Nat) (w : World) (own : Nat → Prop) (p : Nat) (d : DD), DkIs most w own p d → d.on = true → 0 < d.n →
  Calls Tryd.prog 28 #[.pointer (some ⟨p, 0, none⟩)] w (HeadPost (hdOf (rd d.now 0)) w)

section
variable {most : Nat} {w : World} {own : Nat → Prop} {p : Nat} {d : DD}

/-- One batch in a slice of batches that was just laid. -/
theorem bsAt_one {W : World} {A : Option Addr} {c : Nat} {l : List Wr} (h : WsAt W A l) : BsAt (W.alloc (.cells #[.slice A l.length c] 32)) (some ⟨W.heap.size, 0, none⟩) [l] := fun i hi => by
  obtain rfl : i = 0 := by simp at hi; exact hi
  exact ⟨W.heap.size, 0, A, c, rfl, by simp, (Blk.new W _ _).cell 0, h.below ((Below.refl W.heap.size W).alloc (Nat.le_refl _) _) (Nat.le_refl _)⟩

theorem wsAt_one {W : World} (k : Int) (x : Bt) (hk : i64B k) : WsAt (W.alloc (.cells #[.int .i64 k, .string (str x)] 49)) (some ⟨W.heap.size, 0, none⟩) [(k, x)] := fun i hi => by
  obtain rfl : i = 0 := by simp at hi; exact hi
  exact ⟨W.heap.size, 0, rfl, by simp, (Blk.new W _ _).cell 0, (Blk.new W _ _).cell 1, hk⟩

set_option maxHeartbeats 1600000 in
theorem format_any (HW : HeadW) (h : DkIs most w own p d) (hm : d.more.length + 2 ≤ most) (hmost : most ≤ 100000) :
    Calls Tryd.prog 24 #[.pointer (some ⟨p, 0, none⟩)] w (DkPost most own p (jformat d).2 (.int .i64 (jformat d).1) w) := by
  have HD := Lib.hid h
  have HP := Lib.hid (power_any h)
  obtain ⟨h0, m, v, hd⟩ := h
  have HL := Lib.hid (len_any hd)
  have hpl := hd.1.lt
  have HW' := Lib.hid HW
  clear h0 hd HW
  unfold jformat
  cases hon : d.on with
  | false =>
    rw [hon] at HP
    rw [if_pos rfl]
    go_enter Tryd.func24, Tryd.ntmps24
    go_wp2_with (go_at_call 26; refine HP.out.mono ?_; rintro e w' ⟨rfl, rfl⟩)
    go_ret
    exact ⟨rfl, own, HD.out, But.refl _ _, Grows.refl _ _⟩
  | true =>
    rw [hon] at HP
    rw [if_neg (by simp)]
    by_cases hn : d.n ≤ 145
    · rw [if_pos hn]
      have hn' : (d.n : Int) ≤ 145 := by omega
      go_enter Tryd.func24, Tryd.ntmps24
      go_wp2_with (first | (go_at_call 26; refine HP.out.mono ?_; rintro e w' ⟨rfl, rfl⟩) | (go_at_call 19; refine HL.out.mono ?_; rintro e w' ⟨rfl, rfl⟩))
      go_ret
      exact ⟨rfl, own, HD.out, But.refl _ _, Grows.refl _ _⟩
    · rw [if_neg hn]
      have hn' : ¬ (d.n : Int) ≤ 145 := by omega
      go_enter Tryd.func24, Tryd.ntmps24
      go_wp2_with (first | (go_at_call 26; refine HP.out.mono ?_; rintro e w' ⟨rfl, rfl⟩) | (go_at_call 19; refine HL.out.mono ?_; rintro e w' ⟨rfl, rfl⟩))
      refine (HW'.out 0 0 _ (by decide) (by decide)).mono ?_
      rintro e W1 ⟨rfl, b1⟩
      have HB1 := Lib.hid b1
      clear b1
      go_wp2_with fail
      have hb2 : Below w.heap.size w ((W1.alloc (.cells #[.int .i64 0, .string (str (hdB 0 0))] 49)).alloc (.cells #[.slice (some ⟨W1.heap.size, 0, none⟩) 1 1] 32)) := (below_new HB1.out _).alloc (below_new HB1.out _).size _
      have hw1 := wsAt_one (W := W1) 0 (hdB 0 0) (by unfold i64B; omega)
      have hbs := bsAt_one (c := 1) hw1
      have hsz : (W1.alloc (.cells #[.int .i64 0, .string (str (hdB 0 0))] 49)).heap.size = W1.heap.size + 1 := by simp
      rw [hsz] at hbs
      have HB2 := Lib.hid hb2
      have HBS := Lib.hid hbs
      clear hw1 hbs hsz hb2
      refine (writing_any p _ 1 [[(0, hdB 0 0)]] _ (Nat.lt_of_lt_of_le hpl HB2.out.size) HBS.out (by decide) (fun l hl => by simp at hl; subst hl; decide)).mono ?_
      rintro e W3 ⟨v, rfl, hg⟩
      have HG := Lib.hid hg
      clear hg
      go_wp2_with fail
      refine (run_after (HD.out.below HB2.out) HG.out (by simpa [stepsOf, wsOf] using hm) hmost).mono ?_
      rintro e W4 hpost
      have HPO := Lib.hid (DkPost.from hpost HB2.out HD.out.low)
      obtain ⟨rfl, _⟩ := hpost
      go_wp2_with fail
      go_ret
      exact HPO.out
end
end Go.Proofs.YtjllpbckmioiiaaDoor.jr

/- Recover, by what a head's two calls do. -/
namespace Go.Proofs.YtjllpbckmioiiaaDoor.jr
open Go Go.RowKit Go.Proofs.YtjllpbckmioiiaaDoor.dk Go.Proofs.YtjllpbckmioiiaaDoor.wi
set_option maxRecDepth 100000

section
variable {most : Nat} {w : World} {own : Nat → Prop} {p : Nat} {d : DD}

theorem takePost_cases {r : Option (List Wr)} {w : World} {e : Ending} {w' : World} (h : TakePost r w e w') : Below w.heap.size w w' ∧ ((∃ l A c, r = some l ∧ e = .returned (.tuple #[.slice A l.length c, .bool true]) ∧ WsAt w' A l) ∨ (r = none ∧ ∃ A n c, e = .returned (.tuple #[.slice A n c, .bool false]))) := by
  obtain ⟨h1, h2⟩ := h
  refine ⟨h1, ?_⟩
  cases r with
  | some l =>
    obtain ⟨A, c, g1, g2⟩ := h2
    exact .inl ⟨l, A, c, rfl, g1, g2⟩
  | none =>
    obtain ⟨A, n, c, g⟩ := h2
    exact .inr ⟨rfl, A, n, c, g⟩

theorem headPost_cases {r : Option (Nat × Nat)} {w : World} {e : Ending} {w' : World} (h : HeadPost r w e w') : Below w.heap.size w w' ∧ ((∃ a c : Nat, r = some (a, c) ∧ e = .returned (.tuple #[.agg #[.int .i64 (a : Int), .int .i64 (c : Int)], .bool true])) ∨ (r = none ∧ ∃ x y : Int, e = .returned (.tuple #[.agg #[.int .i64 x, .int .i64 y], .bool false]))) := by
  obtain ⟨h1, h2⟩ := h
  refine ⟨h1, ?_⟩
  cases r with
  | some q =>
    obtain ⟨a, c⟩ := q
    exact .inl ⟨a, c, rfl, h2⟩
  | none =>
    obtain ⟨x, y, g⟩ := h2
    exact .inr ⟨rfl, x, y, g⟩

theorem still_post {w' : World} {r : Value} (h : DkIs most w own p d) (hb : Below w.heap.size w w') : DkPost most own p d r w (.returned r) w' := ⟨rfl, own, h.below hb, But.of_below hb, Grows.refl _ _⟩

theorem takeB_len {t : Bt} {l : List Wr} (h : takeB t = some l) : l.length ≤ 60 := by
  unfold takeB at h
  cases hn : rdNum t with
  | none => rw [hn] at h; cases h
  | some q =>
    obtain ⟨n, r⟩ := q
    rw [hn] at h
    dsimp only at h
    split at h
    · cases h
    · rename_i hh
      cases hr : rdW n r with
      | none => rw [hr] at h; cases h
      | some q2 =>
        obtain ⟨l2, r2⟩ := q2
        have hl := rdW_len n r l2 r2 hr
        rw [hr] at h
        cases r2 with
        | nil =>
          simp at h
          subst h
          omega
        | cons => cases h

theorem recOf_len {s : Sects} {a c : Nat} {l : List Wr} (h : recOf s a c = some l) : l.length ≤ 60 := by
  unfold recOf at h
  cases hu : unB (recSecs s a c) with
  | none => rw [hu] at h; cases h
  | some t => rw [hu] at h; exact takeB_len h

set_option maxHeartbeats 3200000 in
theorem recover_calls (HR : HeadR) (h : DkIs most w own p d) (hn : 145 < d.n) (ht : CTab w) (hm : d.more.length + 100 ≤ most) (hmost : most ≤ 100000) :
    Calls Tryd.prog 17 #[.pointer (some ⟨p, 0, none⟩)] w (DkPost most own p (jrecover d).2 (.int .i64 (jrecover d).1) w) := by
  have HD := Lib.hid h
  have HP := Lib.hid (power_any h)
  have hpl : p < w.heap.size := by obtain ⟨_, _, _, hd⟩ := h; exact hd.1.lt
  have HT := Lib.hid ht
  have hg := ht.1
  have HH := Lib.hid HR
  clear ht HR h
  obtain ⟨R, hR⟩ : ∃ x, jrecover d = x := ⟨_, rfl⟩
  rw [hR]
  unfold jrecover at hR
  cases hon : d.on with
  | false =>
    rw [hon] at HP
    rw [if_pos hon] at hR
    subst hR
    go_enter Tryd.func17, Tryd.ntmps17
    go_wp2_with (go_at_call 26; refine HP.out.mono ?_; rintro e w' ⟨rfl, rfl⟩)
    go_ret
    exact still_post HD.out (Below.refl _ _)
  | true =>
    rw [hon] at HP
    rw [if_neg (by rw [hon]; simp)] at hR
    have HRR := Lib.hid hR
    have HON := Lib.hid hon
    clear hR hon
    go_enter Tryd.func17, Tryd.ntmps17
    go_wp2_with (go_at_call 26; refine HP.out.mono ?_; rintro e w' ⟨rfl, rfl⟩)
    refine (HH.out most w own p d HD.out HON.out (by omega)).mono ?_
    intro e W1 hpost
    obtain ⟨b1, ⟨a, c, hq, rfl⟩ | ⟨hq, x, y, rfl⟩⟩ := headPost_cases hpost
    · have hRR := HRR.out
      rw [hq] at hRR
      dsimp only at hRR
      obtain ⟨ha, hc, _⟩ := hdOf_some hq
      have HB1 := Lib.hid b1
      clear b1 hpost hq HRR
      by_cases hc0 : c = 0
      · subst hc0
        rw [if_pos rfl] at hRR
        subst hRR
        go_wp2_with fail
        go_ret
        exact still_post HD.out (below_new HB1.out _)
      · rw [if_neg hc0] at hRR
        have hc0' : ((c : Int) == 0) = false := by simpa using hc0
        have hkb : Blk (W1.alloc (.cells #[.int .i64 (a : Int), .int .i64 (c : Int)] 54)) W1.heap.size _ _ := Blk.new W1 _ _
        have HB2 := Lib.hid (below_new HB1.out (.cells #[.int .i64 (a : Int), .int .i64 (c : Int)] 54))
        have HRR := Lib.hid hRR
        clear hRR hkb
        go_wp2_with fail
        refine (record_any (HD.out.below HB2.out) HON.out hn a c ha hc (HT.out.below HB2.out hg)).mono ?_
        intro e W3 hpost
        obtain ⟨b3, ⟨l, A, c3, hq, rfl, hw⟩ | ⟨hq, A, n3, c3, rfl⟩⟩ := takePost_cases hpost
        · have hRR := HRR.out
          rw [hq] at hRR
          dsimp only at hRR
          have hl60 := recOf_len hq
          have HB3 := Lib.hid (below_step HB2.out b3)
          have HW := Lib.hid hw
          clear hpost b3 hw hq HRR
          have HPS := Lib.hid (poss_any (HD.out.below HB3.out) A c3 l HW.out (by omega))
          cases hps : poss d.n l with
          | false =>
            rw [hps] at HPS hRR
            rw [if_pos rfl] at hRR
            subst hRR
            go_wp2_with (go_at_call 27; refine HPS.out.mono ?_; rintro e w' ⟨rfl, b4⟩)
            go_wp2_with fail
            go_ret
            exact still_post HD.out (below_step HB3.out b4)
          | true =>
            rw [hps] at HPS hRR
            rw [if_neg (by simp)] at hRR
            have HRR := Lib.hid hRR
            clear hRR
            go_wp2_with (go_at_call 27; refine HPS.out.mono ?_)
            rintro e W4 ⟨rfl, b4⟩
            have HB4 := Lib.hid (below_step HB3.out b4)
            have HW4 := Lib.hid (HW.out.below b4 (Nat.le_refl _))
            clear b4 HW
            go_wp2_with fail
            have HBS := Lib.hid (bsAt_one (c := c3) HW4.out)
            have HB5 := Lib.hid (below_new HB4.out (.cells #[.slice A l.length c3] 32))
            refine (writing_any p _ 1 [l] _ (Nat.lt_of_lt_of_le hpl HB5.out.size) HBS.out (by simp) (fun m hm2 => by simp at hm2; subst hm2; omega)).mono ?_
            rintro e W5 ⟨v, rfl, hgg⟩
            have HG := Lib.hid hgg
            clear hgg
            go_wp2_with fail
            refine (run_after (HD.out.below HB5.out) HG.out (by simp [stepsOf, wsOf]; omega) hmost).mono ?_
            rintro e W6 hpost
            have HPO := Lib.hid (DkPost.from hpost HB5.out HD.out.low)
            obtain ⟨rfl, _⟩ := hpost
            rw [HRR.out] at HPO ⊢
            go_wp2_with fail
            go_ret
            exact HPO.out
        · have hRR := HRR.out
          rw [hq] at hRR
          dsimp only at hRR
          subst hRR
          have HB3 := Lib.hid (below_step HB2.out b3)
          clear hpost b3 hq HRR
          go_wp2_with fail
          go_ret
          exact still_post HD.out HB3.out
    · have hRR := HRR.out
      rw [hq] at hRR
      dsimp only at hRR
      subst hRR
      have HB1 := Lib.hid b1
      clear b1 hpost hq HRR
      go_wp2_with fail
      go_ret
      exact still_post HD.out (below_new HB1.out _)
end
end Go.Proofs.YtjllpbckmioiiaaDoor.jr

/- The rule of slots with a reader that knows functions; a step that enters a callee. -/
namespace Go.Proofs.YtjllpbckmioiiaaDoor
open Go Go.RowKit
set_option maxRecDepth 100000

theorem stepTo_enter {P : Program} {o : Oper} {ρ : Operand → Value} {w w' : World} {f : FuncId} {args : Array Value} {K : Value → World → Prop} (h : (execOp ρ o).run P w = .ok (.enter f args) w') (hk : Calls P f args w' fun e w'' => ∃ v, e = .returned v ∧ K v w'') : stepTo P K ((execOp ρ o).run P w) := by
  rw [h]
  exact hk

theorem wp_region_slots_f {P : Program} {ops : Array Oper} {Q : Exit → Act → World → Prop} {id : Nat} {a : Act} {w : World} (hm : P.follows .mixedOrders = true) (m : Nat) (ds : List Tmp) (hok : slotsB ops m ds a.tmps.size = true) (G : Nat → Value → World → Prop)
    (mono : ∀ i v w w', i < m → G i v w → Below w.heap.size w w' → G i v w')
    (step : ∀ i o vs ρ w', i < m → ops[i]? = some o → Reads a ds vs ρ → (∀ f, ρ (.func f) = a.eval (.func f)) → Below w.heap.size w w' → (∀ j, afterB ops i j = true → G j (vs j) w') →
      stepTo P (fun v w'' => Below w'.heap.size w' w'' ∧ G i v w'') ((execOp ρ o).run P w'))
    (fin : ∀ vs w', Below w.heap.size w w' → (∀ i, i < m → G i (vs i) w') → wpAny P .any ops Q (ops.size - m) (listedTo ops.size m) (putList vs ds a) w') :
    (Code.region id ops true).wp P Q a w :=
  wp_region_slots hm m ds hok G mono (fun i o vs w' hi ho hb hG => step i o vs (valOf a ds vs) w' hi ho ⟨fun _ _ h => valOf_some h, fun _ h => valOf_none h, fun _ => rfl⟩ (fun _ => rfl) hb hG) fin

end Go.Proofs.YtjllpbckmioiiaaDoor


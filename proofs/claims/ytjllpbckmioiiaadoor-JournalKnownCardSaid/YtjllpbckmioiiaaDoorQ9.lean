/- DkWake. -/
import Derived.Test.YtjllpbckmioiiaaDoorQ7
import Derived.Test.YtjllpbckmioiiaaDoorQ8
import Derived.RegionTactic
import Derived.BigRegion
/- What Wake of package disk does. -/
namespace Go.Proofs.YtjllpbckmioiiaaDoor.dk
open Go Go.RowKit Go.Shelf
set_option maxRecDepth 100000

attribute [local go_sem] Oper.semAt_some

def BoolsAt (w : World) (a : Option Addr) (bs : List Bool) : Prop :=
  ∀ i (h : i < bs.length), ∃ b o, a = some ⟨b, o, none⟩ ∧ b < w.heap.size ∧ w.cell? ⟨b, o + i, none⟩ = some (.bool bs[i])

theorem lift {α : Type} {P : α → Prop} (l : List α) (h : ∀ x ∈ l, P x) : ∃ L : List { x // P x }, L.map (·.1) = l :=
  ⟨l.attachWith P h, by simp [List.attachWith, List.map_pmap]⟩

theorem un_ok : ∀ (l : List (Nat × Bt)) (s : Sects), (∀ x ∈ l, x.1 < s.length ∧ x.2.length = 32) → (∀ v, some v ∈ s → v.length = 32) → ∀ x ∈ unOf s l, x.1 < s.length ∧ x.2.1.length = 32 ∧ x.2.2.1.length = 32
  | [], _, _, _, x, hx => by simp [unOf] at hx
  | (k, v) :: r, s, h, hs, x, hx => by
    simp only [unOf, List.mem_cons] at hx
    have h0 := h (k, v) (by simp)
    rcases hx with rfl | hx
    · refine ⟨h0.1, h0.2, ?_⟩
      show ((look s (k : Int)).getD zz).length = 32
      cases hl : look s (k : Int) with
      | none => exact zz_length
      | some u => exact hs u (look_mem hl)
    · have hl : (put s k v).length = s.length := by simp [put]
      have := un_ok r (put s k v) (fun y hy => by rw [hl]; exact h y (by simp [hy])) (fun u hu => by
        rcases mem_set hu with h' | h'
        · exact hs u h'
        · injection h' with h'; subst h'; exact h0.2) x hx
      rw [hl] at this
      exact this

theorem zip_two (t : Array Value) (a b : Value) : Array.foldl (fun t (x : Tmp × Value) => t.setIfInBounds x.fst x.snd) t (#[29, 30].zip #[a, b]) = (t.setIfInBounds 29 a).setIfInBounds 30 b := by simp

theorem undo_fold_length {n : Nat} : ∀ (pre : List (Nat × Wr n)) (s : Sects), (pre.foldl (fun s y => undo s y.2.1) s).length = s.length
  | [], _ => rfl
  | y :: pre, s => by
    rw [List.foldl_cons, undo_fold_length pre]
    unfold undo put
    split <;> simp

theorem undo_all {n : Nat} (base : Sects) (more : List (Nat × Bt)) (L : List (Wr n)) (hL : L.map (fun x => x.1) = unOf base more) : (backs L).foldl (fun s y => undo s y.2.1) (play base more) = base := by
  have hlen : L.length = more.length := by rw [← unOf_length more base, ← hL, List.length_map]
  have key : ∀ r, r ≤ L.length → ((backs L).take r).foldl (fun s y => undo s y.2.1) (play base more) = play base (more.take (more.length - r)) := by
    intro r
    induction r with
    | zero => intro _; simp
    | succ r ih =>
      intro h
      have hr : r < L.length := by omega
      have hj : L.length - 1 - r < more.length := by omega
      rw [List.take_add_one, backs_get L r hr, Option.toList_some, List.foldl_append, ih (by omega)]
      simp only [List.foldl_cons, List.foldl_nil]
      have hx : (unOf base more)[L.length - 1 - r]? = some (L[L.length - 1 - r]'(by omega)).1 := by
        rw [← hL, List.getElem?_map, List.getElem?_eq_getElem (by omega)]
        rfl
      have := undo_play more base (L.length - 1 - r) hj _ hx
      rw [show more.length - r = L.length - 1 - r + 1 by omega, this, show more.length - (r + 1) = L.length - 1 - r by omega]
  have := key L.length (Nat.le_refl _)
  rw [List.take_of_length_le (by rw [backs_length]; exact Nat.le_refl _), hlen, Nat.sub_self] at this
  simpa [play] using this

section
variable {w : World} {p m : Nat} {v : Value} {d : DD} {own : Nat → Prop}

theorem wake_on {most : Nat} (h : DkIs most w own p d) (hon : d.on = true) (A : Option Addr) (n c : Nat) (bs : List Bool) :
    Calls Tryd.prog 16 #[.pointer (some ⟨p, 0, none⟩), .slice A n c] w (DkPost most own p (d.wake bs) (.tuple #[]) w) := by
  have H := Lib.hid h
  have hl := h.low
  have hd : d.wake bs = d := by unfold DD.wake; rw [hon]; rfl
  rw [hd]
  obtain ⟨h0, m, v, h1⟩ := h
  obtain ⟨c0, c1, c2, c3, c4, c5⟩ := blk6 h1.1
  rw [hon] at c4
  have hp := h1.1.lt
  have HL := Lib.hid hl
  clear h0 h1 c0 c1 c2 c3 c5 hon hd hl
  go_enter Tryd.func16, Tryd.ntmps16
  go_wp2_with fail
  go_end0
  exact ⟨rfl, own, H.out.keep (by simp) (fun j hj => Below.heap_alloc _ _ _ (HL.out j hj)), (But.refl _ _).alloc _, Grows.refl _ _⟩

set_option maxRecDepth 100000 in
set_option maxHeartbeats 2000000 in
theorem wake_off {most : Nat} (h : DkIs most w own p d) (hmost : most ≤ 100000) (hon : d.on = false) (A : Option Addr) (c : Nat) (bs : List Bool) (hb : BoolsAt w A bs) (hbo : ∀ b o, A = some ⟨b, o, none⟩ → 0 < bs.length → ¬ own b) :
    Calls Tryd.prog 16 #[.pointer (some ⟨p, 0, none⟩), .slice A bs.length c] w (DkPost most own p (d.wake bs) (.tuple #[]) w) := by
  have H := Lib.hid h
  have hl := h.low
  obtain ⟨h0, m, v, h1⟩ := h
  obtain ⟨c0, c1, c2, c3, c4, c5⟩ := blk6 h1.1
  rw [hon] at c4
  have hp := h1.1.lt
  have hm := h1.2.1.lt
  have f3 := h1.1.frozen 3
  have f4 := h1.1.frozen 4
  have HL := Lib.hid hl
  have H0 := Lib.hid h0
  have H1 := Lib.hid h1
  have HB := Lib.hid hb
  have HON := Lib.hid hon
  obtain ⟨Av, cv, hv⟩ := own_form h1.2.2.1
  subst hv
  clear h0 h1 hon hl hb
  refine (callsIn_wide (n := 9)).1 (callsIn_of_wp_marks Tryd.func16 rfl trivial ?_ rfl)
  refine wpIn_wide.2 ?_
  simp only [Tryd.ntmps16, List.size_toArray, List.length_cons, List.length_nil, Nat.reduceAdd, Nat.reduceSub, Array.replicate_succ, Array.replicate_zero, List.push_toArray, List.append_toArray, List.nil_append, List.cons_append]
  go_wp2_with fail
  go_region
  have HBO := Lib.hid hbo
  have hne := H1.out.ne
  have HNE := Lib.hid hne
  have HP1 : Hid (Blk (((w.setCell ⟨p, 4, none⟩ (.bool true)).setCell ⟨p, 3, none⟩ (.slice none 0 0)).alloc (.cells #[.pointer (some ⟨p, 0, none⟩)] 28)).drew p 74 #[.int .i64 (d.n : Int), .int .i64 d.room, .map (some m), .slice none 0 0, .bool true, .int .i64 d.fuse]) :=
    ((H1.out.1.set_ 4 (.bool true)).set_ 3 (.slice none 0 0)).of_block (Below.heap_alloc _ _ _ (by simp [size_set]; omega))
  have hrest : ∀ j, j < w.heap.size → j ≠ p → (((w.setCell ⟨p, 4, none⟩ (.bool true)).setCell ⟨p, 3, none⟩ (.slice none 0 0)).alloc (.cells #[.pointer (some ⟨p, 0, none⟩)] 28)).drew.heap[j]? = w.heap[j]? := fun j hj hn =>
    ((Below.heap_alloc _ _ j (by simp [size_set]; omega)).trans (set_other _ _ _ _ _ hn)).trans (set_other _ _ _ _ _ hn)
  have HM1 : Hid (MapIs (((w.setCell ⟨p, 4, none⟩ (.bool true)).setCell ⟨p, 3, none⟩ (.slice none 0 0)).alloc (.cells #[.pointer (some ⟨p, 0, none⟩)] 28)).drew m d.now) := H1.out.2.1.of_block (hrest m hm (fun e => hne.1 e.symm))
  have HO1 : Hid ((((w.setCell ⟨p, 4, none⟩ (.bool true)).setCell ⟨p, 3, none⟩ (.slice none 0 0)).alloc (.cells #[.pointer (some ⟨p, 0, none⟩)] 28)).drew.ownsRow 0 80 66 (.slice Av d.more.length cv) d.more.length (wrRow (unOf d.base d.more))) :=
    own_of_block H1.out.2.2.1 (fun j hj => hrest j (own_lt H1.out.2.2.1 j hj) (hne.2 j hj).1)
  have HX1 : Hid (Blk (((w.setCell ⟨p, 4, none⟩ (.bool true)).setCell ⟨p, 3, none⟩ (.slice none 0 0)).alloc (.cells #[.pointer (some ⟨p, 0, none⟩)] 28)).drew w.heap.size 28 #[.pointer (some ⟨p, 0, none⟩)]) := by
    have := heap_alloc_new ((w.setCell ⟨p, 4, none⟩ (.bool true)).setCell ⟨p, 3, none⟩ (.slice none 0 0)) (.cells #[.pointer (some ⟨p, 0, none⟩)] 28)
    rwa [size_set, size_set] at this
  have HBut1 : Hid (But own w (((w.setCell ⟨p, 4, none⟩ (.bool true)).setCell ⟨p, 3, none⟩ (.slice none 0 0)).alloc (.cells #[.pointer (some ⟨p, 0, none⟩)] 28)).drew) :=
    ((((But.refl _ _).setCell _ _ (.inl H1.out.2.2.2.1)).setCell _ _ (.inl H1.out.2.2.2.1)).alloc _).drew
  have HS1 : Hid ((((w.setCell ⟨p, 4, none⟩ (.bool true)).setCell ⟨p, 3, none⟩ (.slice none 0 0)).alloc (.cells #[.pointer (some ⟨p, 0, none⟩)] 28)).drew.heap.size = w.heap.size + 1) := by unfold Hid; simp [size_set]
  generalize hW1 : (((w.setCell ⟨p, 4, none⟩ (.bool true)).setCell ⟨p, 3, none⟩ (.slice none 0 0)).alloc (.cells #[.pointer (some ⟨p, 0, none⟩)] 28)).drew = W1 at *
  clear hW1 hrest hne hbo c0 c1 c2 c3 c4 c5 f3 f4
  have hN : d.more.length ≤ 1000000 := by have := H0.out.more1; omega
  obtain ⟨L, hL⟩ := lift (P := fun x => x.1 < d.n ∧ x.2.1.length = 32 ∧ x.2.2.1.length = 32) (unOf d.base d.more) (un_ok d.more d.base H0.out.at1 H0.out.base1)
  have hLl : L.length = d.more.length := by rw [← unOf_length d.more d.base, ← hL, List.length_map]
  have HLL := Lib.hid hLl
  have HLM := Lib.hid hL
  clear hL hLl
  go_wp2_with (go_at_call 39; refine (callsIn_wide (n := 9).1 (backward_in Fence.wide 9 trivial rfl _ _ _ _)).mono ?_; rintro e w' ⟨rfl, rfl⟩)
  have hsz2 : (W1.alloc (.cells #[.slice Av d.more.length cv] 72)).heap.size = w.heap.size + 1 + 1 := by rw [World.size_alloc, HS1.out]
  have HBs : Hid (Blk (W1.alloc (.cells #[.slice Av d.more.length cv] 72)) W1.heap.size 72 #[.slice Av d.more.length cv]) := Blk.new _ _ _
  have hold2 : ∀ j, j < W1.heap.size → (W1.alloc (.cells #[.slice Av d.more.length cv] 72)).heap[j]? = W1.heap[j]? := fun j hj => Below.heap_alloc _ _ j hj
  have HP2 : Hid (Blk (W1.alloc (.cells #[.slice Av d.more.length cv] 72)) p _ _) := HP1.out.of_block (hold2 p HP1.out.lt)
  have HM2 : Hid (MapIs (W1.alloc (.cells #[.slice Av d.more.length cv] 72)) m d.now) := HM1.out.of_block (hold2 m HM1.out.lt)
  have HO2 : Hid ((W1.alloc (.cells #[.slice Av d.more.length cv] 72)).ownsRow 0 80 66 (.slice Av d.more.length cv) d.more.length (wrRow (unOf d.base d.more))) := own_of_block HO1.out (fun j hj => hold2 j (own_lt HO1.out j hj))
  have HX2 : Hid (Blk (W1.alloc (.cells #[.slice Av d.more.length cv] 72)) w.heap.size 28 #[.pointer (some ⟨p, 0, none⟩)]) := HX1.out.of_block (hold2 _ HX1.out.lt)
  have HBut2 : Hid (But own w (W1.alloc (.cells #[.slice Av d.more.length cv] 72))) := HBut1.out.alloc _
  have HS1' := HS1.out
  generalize hW2 : W1.alloc (.cells #[.slice Av d.more.length cv] 72) = W2 at *
  rw [HS1'] at HBs
  have hstops := back_stops Fence.wide 8 trivial rfl (by decide) (w.heap.size + 1) (.slice Av d.more.length cv) L (by have := HLL.out; omega) W2 HBs.out (by rw [HLL.out, HLM.out]; exact HO2.out)
  have HST := Lib.hid hstops
  have HSZ2 := Lib.hid hsz2
  clear hW2 hold2 hstops hsz2
  rw [HS1']
  clear HS1' HS1 HP1 HM1 HO1 HX1 HBut1
  have hs2 := HSZ2.out
  refine wpIn_wide.1 (wpIn_rangeFunc_ownH (F := Fence.wide) (n := 9) rfl (by decide) (gf := 58) (lb := #[.pointer (some ⟨w.heap.size + 1, 0, none⟩)]) rfl trivial (enters_of Tryd.func58 (by kernel_rfl) rfl) HST.out
    (fun h k b hb => (k b hb).trans (h b hb)) ?hKb (Below.refl _ _) (fun _ => rfl)
    (fun pre W => MapIs W m (pre.foldl (fun s y => undo s y.2.1) d.now) ∧ But (fun k => k = m) W2 W) (fun _ _ _ => False) ?hI (fun _ _ _ _ _ hs _ _ => hs) ⟨HM2.out, But.refl _ _⟩
    (fun x a' W => ∃ Bx, W2.heap.size ≤ Bx ∧ Blk W Bx 80 (wrCells x.2.1).toArray ∧ a' = { tmps := #[.pointer (some ⟨p, 0, none⟩), .slice A bs.length c, .pointer (some ⟨w.heap.size, 0, none⟩), undef, .slice Av d.more.length cv, undef, .pointer (some ⟨Bx, 0, none⟩), undef, undef, .pointer (some ⟨p, 0, none⟩), .bool false, .bool false, .pointer (some ⟨p, 0, none⟩), .pointer (some ⟨p, 0, none⟩), .pointer (some ⟨p, 4, none⟩), .bool false, .bool false, .pointer (some ⟨p, 0, none⟩), .pointer (some ⟨p, 0, none⟩), .pointer (some ⟨p, 3, none⟩), .slice Av d.more.length cv, .pointer (some ⟨p, 0, none⟩), .pointer (some ⟨p, 0, none⟩), .pointer (some ⟨p, 0, none⟩), .pointer (some ⟨p, 4, none⟩), .pointer (some ⟨p, 0, none⟩), .pointer (some ⟨p, 3, none⟩), .slice Av d.more.length cv, .func (.func 58) #[] #[.pointer (some ⟨w.heap.size + 1, 0, none⟩)], .int .i64 (x.1 : Int), .agg (wrCells x.2.1).toArray, undef, undef, undef, undef, undef, undef, undef, undef, undef, undef, undef, undef, undef, undef, undef, undef, undef, undef, undef, undef, undef, undef, undef, undef, undef, undef, undef, undef, undef], defers := [] })
    ?hAx ?assign ?body ?done ?stop)
  case hKb =>
    intro W l o o' hl ho _ _ b hb
    refine World.putObj_heap_other ?_
    rcases hb with rfl | hb
    · omega
    · have := own_lt HO2.out b hb
      omega
  case hI =>
    intro pre W W' row ⟨h1, h2⟩ hg hr
    have hm2 := HM2.out.lt
    refine ⟨h1.of_block (hg.block m h1.lt (fun e => by have := (hr m e.symm).1; omega)), ?_⟩
    exact h2.grown hg (fun k e => .inr (hr k e).1)
  case hAx =>
    intro x a' _ W W' row ⟨Bx, h1, h2, h3⟩ hg hr
    refine ⟨Bx, h1, h2.of_block (hg.block Bx h2.lt (fun e => ?_)), h3⟩
    obtain ⟨_, o, ho, hc⟩ := hr Bx e.symm
    unfold Blk at h2
    rw [h2] at ho
    injection ho with ho
    subst ho
    cases hc
  case assign =>
    rintro l pre x W K ⟨hi1, hi2⟩ hK
    have HK := Lib.hid hK
    have HI1 := Lib.hid hi1
    have HI2 := Lib.hid hi2
    have hx66 : (wrCells x.2.1).length = 66 := wrCells_len _ x.2.2.2.1 x.2.2.2.2
    have HX66 := Lib.hid hx66
    have HXA := Lib.hid (wr_all x.2.1)
    clear hK hi1 hi2 hx66
    dsimp only [encW]
    rw [zip_two]
    simp only [List.setIfInBounds_toArray, List.set_cons_succ, List.set_cons_zero]
    gi_wp2_with (first | (refine wpListIn_value rfl (fun c h => by cases h) (about_alloc _ rfl) (exec_alloc70 rfl) ?_) | (refine wpListIn_skip_ rfl (fun c h => by cases h) (about_store _ _ _ rfl) (exec_store_new W 80 _ _ (.tmp 6) (.tmp 30) rfl rfl rfl (by rw [size70, List.size_toArray, HX66.out]) (by rw [List.size_toArray, List.size_toArray, HX66.out]; exact wrCells_len _ zz_length zz_length) HXA.out) ?_))
    refine HK.out _ _ ((KeepsOthers.alloc _ _).from _) (fun b hb => Below.heap_alloc _ _ b ?_) ⟨HI1.out.of_block (Below.heap_alloc _ _ _ HI1.out.lt), HI2.out.alloc _⟩ ⟨W.heap.size, HI2.out.size, Blk.new _ _ _, rfl⟩
    have h1 := HI2.out.size
    rcases hb with rfl | hb
    · omega
    · have := own_lt HO2.out b hb
      omega
  case body =>
    rintro l pre x a' W hl _ ⟨hi1, hi2⟩ ⟨Bx, hBx, hX, rfl⟩ hlen
    have hm2 := HM2.out.lt
    have hkeep : ∀ j, j < W2.heap.size → j ≠ m → W.heap[j]? = W2.heap[j]? := fun j hj hn => hi2.block j hj hn
    have hPW : Blk W p _ _ := HP2.out.of_block (hkeep p HP2.out.lt HNE.out.1)
    have hXW : Blk W w.heap.size _ _ := HX2.out.of_block (hkeep _ HX2.out.lt (by omega))
    have kx : W.cell? ⟨w.heap.size, 0, none⟩ = some (.pointer (some ⟨p, 0, none⟩)) := hXW.cell 0
    have k2 : W.cell? ⟨p, 2, none⟩ = some (.map (some m)) := hPW.cell 2
    have hpl := hPW.lt
    have hlen2 : (pre.foldl (fun s y => undo s y.2.1) d.now).length = d.n := (undo_fold_length pre d.now).trans d.now_length
    have hx66 : (wrCells x.2.1).length = 66 := wrCells_len _ x.2.2.2.1 x.2.2.2.2
    have hlose := lose_any hpl k2 hi1 x.2.1 (wrCells x.2.1).toArray (rowOf _ x.2.2.2.1 x.2.2.2.2) (by rw [hlen2]; exact x.2.2.1) (by rw [hlen2]; exact H0.out.n1) x.2.2.2.2
    have HLo := Lib.hid hlose
    have HI2 := Lib.hid hi2
    have HX := Lib.hid hX
    have HX66 := Lib.hid hx66
    have HBX := Lib.hid hBx
    clear hlose hi2 hX hx66 hBx hi1 hkeep hPW hXW hlen2 hlen k2
    gi_wp2_with (first | (refine wpListIn_value rfl (fun c h => by cases h) (about_load _ _ rfl) (exec_load70 _ rfl Bx rfl _ HX.out (by rw [List.size_toArray, HX66.out])) ?_) | (refine ⟨trivial, ?_⟩; gi_at_call 40; refine (CallsIn.inRound l (callsIn_wide.2 HLo.out)).mono ?_; rintro e W3 ⟨rfl, hm3, hb3⟩))
    have hmW := HI2.out.size
    refine ⟨⟨hb3.size, fun j o hj h0 ho => (hb3.block j (Array.getElem?_eq_some_iff.1 h0).1 (by omega)).trans h0⟩, ?_, ?_, HI2.out.trans hb3 (fun _ e => .inl e)⟩
    · intro b hb
      rcases hb with rfl | hb
      · exact hb3.block _ (by omega) (by omega)
      · have h1 := own_lt HO2.out b hb
        exact hb3.block b (by omega) (HNE.out.2 b hb).2
    · rw [List.foldl_append]
      exact hm3
  case stop =>
    rintro D c pre W _ _ h _
    exact h.elim
  case done =>
    rintro D ys W hD rfl ⟨hi1, hi2⟩ hK
    rw [show d.now = play d.base d.more from rfl, undo_all d.base d.more L HLM.out] at hi1
    have hm2 := HM2.out.lt
    have hkeep : ∀ j, j < W2.heap.size → j ≠ m → W.heap[j]? = W2.heap[j]? := fun j hj hn => hi2.block j hj hn
    have hPW : Blk W p _ _ := HP2.out.of_block (hkeep p HP2.out.lt HNE.out.1)
    have hXW : Blk W w.heap.size _ _ := HX2.out.of_block (hkeep _ HX2.out.lt (by omega))
    have hOW := own_of_block HO2.out (fun j hj => hkeep j (own_lt HO2.out j hj) (HNE.out.2 j hj).2)
    have hButW : But own w W := HBut2.out.trans hi2 (fun j e => .inl (by subst e; exact H1.out.2.2.2.2.1))
    have HPW := Lib.hid hPW
    have HXW := Lib.hid hXW
    have HOW := Lib.hid hOW
    have HButW := Lib.hid hButW
    have HMW := Lib.hid hi1
    have HKW := Lib.hid hK
    have HD := Lib.hid hD
    have HW2 := Lib.hid hi2.size
    have HBW : Hid (∀ W3, But (fun k => k = m) W W3 → BoolsAt W3 A bs) := fun W3 hW3 i hi => by
      obtain ⟨b, o, hA, hlt, hcell⟩ := HB.out i hi
      have hnb := HBO.out b o hA (by omega)
      have hbW := HButW.out.size
      refine ⟨b, o, hA, by have := hW3.size; omega, ?_⟩
      rw [World.cell?_of_block (a := ⟨b, o + i, none⟩) ((hW3.block b (by omega) (fun e => hnb (by rw [e]; exact H1.out.2.2.2.2.1))).trans (HButW.out.block b hlt hnb))]
      exact hcell
    clear hi1 hi2 hK hkeep hPW hXW hOW hButW hD HP2 HX2 HO2 HBut2 HM2 HST HBs
    have hlenI : (d.more.length : Int) ≤ 1000000 := by omega
    go_wp2_with fail
    go_loopw [36] (fun i wr => ∃ k : Nat, k ≤ d.more.length ∧ i = .int .i64 (k : Int) ∧ MapIs wr m (play d.base (stay (d.more.take k) bs)) ∧ But (fun k => k = m) W wr) (fun i _ => d.more.length - (intOf i).toNat)
    case atStart => exact ⟨0, Nat.zero_le _, rfl, HMW.out, But.refl _ _⟩
    case round =>
      obtain ⟨k, hk, rfl, hmr, hbr⟩ := hrel
      have HMR := Lib.hid hmr
      have HBR := Lib.hid hbr
      clear hmr hbr
      by_cases hlt : k < d.more.length
      · have hxok := un_ok d.more d.base H0.out.at1 H0.out.base1
        have hul : k < (unOf d.base d.more).length := by rw [unOf_length]; exact hlt
        have hOr : wr.ownsRow 0 80 66 (.slice Av d.more.length cv) (unOf d.base d.more).length (wrRow (unOf d.base d.more)) := by
          rw [unOf_length]
          exact own_of_block HOW.out (fun j hj => HBR.out.block j (own_lt HOW.out j hj) (HNE.out.2 j hj).2)
        obtain ⟨g, c', cur, hv, hlc, hcm, hg, hcur⟩ := own_get hOr (fun y hy => wrCells_len _ (hxok y hy).2.1 (hxok y hy).2.2) k hul
        rw [unOf_length] at hv hlc
        simp only [Value.slice.injEq, true_and] at hv
        obtain ⟨rfl, rfl⟩ := hv
        have hx := unOf_get d.more d.base k hlt
        rw [List.getElem?_eq_getElem hul] at hx
        injection hx with hx
        have hxo := hxok _ (List.getElem_mem hul)
        have hx1 : (unOf d.base d.more)[k].1 = d.more[k].1 := by rw [hx]
        have hx2 : (unOf d.base d.more)[k].2.1 = d.more[k].2 := by rw [hx]
        generalize (unOf d.base d.more)[k] = x at *
        clear hx hxok hOr hul
        have hx66 : (wrCells x).length = 66 := wrCells_len _ hxo.2.1 hxo.2.2
        have hRow := rowOf x hxo.2.1 hxo.2.2
        have hstay := stay_snoc d.more bs k hlt
        have hsl : (play d.base (stay (d.more.take k) bs)).length = d.n := play_length _ _
        have HG := Lib.hid hg
        have HCUR := Lib.hid hcur
        have HX66 := Lib.hid hx66
        have HROW := Lib.hid hRow
        have HXO := Lib.hid hxo
        have HX1 := Lib.hid hx1
        have HX2 := Lib.hid hx2
        have HST := Lib.hid hstay
        have HSL := Lib.hid hsl
        have HCM := Lib.hid hcm
        have HLC := Lib.hid hlc
        have HBL := Lib.hid (HBW.out (wr.alloc (.cells (wrCells x).toArray 80)) (HBR.out.alloc _))
        have hXr : wr.cell? ⟨w.heap.size, 0, none⟩ = some (.pointer (some ⟨p, 0, none⟩)) := by
          rw [World.cell?_of_block (a := ⟨w.heap.size, 0, none⟩) (HBR.out.block _ HXW.out.lt (Nat.ne_of_gt hm))]
          exact HXW.out.cell 0
        have hPr : wr.cell? ⟨p, 2, none⟩ = some (.map (some m)) := by
          rw [World.cell?_of_block (a := ⟨p, 2, none⟩) (HBR.out.block _ HPW.out.lt HNE.out.1)]
          exact HPW.out.cell 2
        have hxl : w.heap.size < wr.heap.size := by have := HBR.out.size; have := HXW.out.lt; omega
        have hpl : p < wr.heap.size := by omega
        clear hg hcur hx66 hRow hxo hx1 hx2 hstay hsl hcm hlc
        by_cases hbl : k < bs.length
        · obtain ⟨bb, bo, rfl, hbb, hcb⟩ := HBL.out k hbl
          have hget : bs[k]?.getD false = bs[k] := by rw [List.getElem?_eq_getElem hbl]; rfl
          have HGET := Lib.hid hget
          have HHB := Lib.hid HB
          have hbi : (k : Int) < (bs.length : Int) := by omega
          have hblen : (bs.length : Int) ≤ 9223372036854775807 ∨ True := .inr trivial
          clear HBL HBW HB HBO hget hblen
          cases hbv : bs[k] with
          | true =>
            rw [hbv] at hcb HGET
            clear hbv
            go_wp2_with (first | (refine wpList_value rfl (exec_load_part 80 (.tmp 39) rfl g (k * 66) rfl _ cur (wrCells x) _ _ HG.out Tryd.underlying80 rfl (by rw [size70, HX66.out]) HCUR.out) ?_) | (refine wpList_value rfl (exec_alloc70 rfl) ?_) | (refine wpList_skip rfl (exec_store_new wr 80 _ _ (.tmp 8) (.tmp 40) rfl rfl rfl (by rw [size70, List.size_toArray, HX66.out]) (by rw [List.size_toArray, List.size_toArray, HX66.out]; exact wrCells_len _ zz_length zz_length) (wr_all _)) ?_))
            have hBr2 : Blk (wr.alloc (.cells (wrCells x).toArray 80)) wr.heap.size 80 (wrCells x).toArray := Blk.new _ _ _
            have HBR2 := Lib.hid hBr2
            have HMR2 := Lib.hid (HMR.out.of_block (Below.heap_alloc wr (.cells (wrCells x).toArray 80) _ HMR.out.lt))
            have HBut2 := Lib.hid (HBR.out.alloc (.cells (wrCells x).toArray 80))
            have q0 : (wr.alloc (.cells (wrCells x).toArray 80)).cell? ⟨wr.heap.size, 0, none⟩ = some (.int .i64 (x.1 : Int)) := by rw [hBr2.cell 0]; exact HROW.out.at_
            have qx : (wr.alloc (.cells (wrCells x).toArray 80)).cell? ⟨w.heap.size, 0, none⟩ = some (.pointer (some ⟨p, 0, none⟩)) := (World.cell?_of_block (a := ⟨w.heap.size, 0, none⟩) (Below.heap_alloc _ _ _ hxl)).trans hXr
            have qp : (wr.alloc (.cells (wrCells x).toArray 80)).cell? ⟨p, 2, none⟩ = some (.map (some m)) := (World.cell?_of_block (a := ⟨p, 2, none⟩) (Below.heap_alloc _ _ _ hpl)).trans hPr
            have hbd : (Lib.byteCells x.2.1).length = 32 := by rw [Lib.byteCells_length, HXO.out.2.1]
            have HBD := Lib.hid hbd
            clear hBr2 hcb hXr hPr hbd
            generalize wr.alloc (.cells (wrCells x).toArray 80) = wr2 at *
            refine wp_region_still_w 8 (by kernel_rfl) (by kernel_rfl) ?_
            simp only [List.take_succ_cons, List.take_zero, List.drop_succ_cons, List.drop_zero]
            iterate 7 still_step
            refine still_value rfl (exec_load_part _ _ rfl wr.heap.size 1 rfl _ _ (Lib.byteCells x.2.1) _ _ HBR2.out Tryd.underlying77 rfl (by rw [info67, HBD.out]) HROW.out.data) ?_
            refine wpStill_nil ?_
            refine wpList_store_dk (w := wr2.drew) rfl _ _ _ rfl rfl HMR2.out x.1 rfl x.2.1 rfl (by rw [HSL.out]; exact HXO.out.1) (by rw [HSL.out]; exact H0.out.n1) ?_
            intro w9 hm9 ht9
            have HM9 := Lib.hid hm9
            have HT9 := Lib.hid (turned_but ht9)
            clear hm9 ht9
            go_wp2_with fail
            go_roundw
            case rel =>
              refine ⟨k + 1, by omega, by go_num, ?_, HBut2.out.drew.trans HT9.out (fun _ e => .inl e)⟩
              rw [HST.out, HGET.out]
              simp only [if_true]
              rw [show d.more[k] = (d.more[k].1, d.more[k].2) from rfl, play_snoc, ← HX1.out, ← HX2.out]
              exact HM9.out
            case measure => simp [intOf]; omega
          | false =>
            rw [hbv] at hcb HGET
            clear hbv
            go_wp2_with (first | (refine wpList_value rfl (exec_load_part 80 (.tmp 39) rfl g (k * 66) rfl _ cur (wrCells x) _ _ HG.out Tryd.underlying80 rfl (by rw [size70, HX66.out]) HCUR.out) ?_) | (refine wpList_value rfl (exec_alloc70 rfl) ?_) | (refine wpList_skip rfl (exec_store_new wr 80 _ _ (.tmp 8) (.tmp 40) rfl rfl rfl (by rw [size70, List.size_toArray, HX66.out]) (by rw [List.size_toArray, List.size_toArray, HX66.out]; exact wrCells_len _ zz_length zz_length) (wr_all _)) ?_))
            go_roundw
            case rel =>
              refine ⟨k + 1, by omega, by go_num, ?_, HBR.out.alloc _⟩
              rw [HST.out, HGET.out]
              simp only [Bool.false_eq_true, if_false, List.append_nil]
              exact HMR.out.of_block (Below.heap_alloc _ _ _ HMR.out.lt)
            case measure => simp [intOf]; omega
        · have hget : bs[k]?.getD false = false := by rw [List.getElem?_eq_none (by omega)]; rfl
          have HGET := Lib.hid hget
          clear hget HBL HBW HB HBO
          go_wp2_with (first | (refine wpList_value rfl (exec_load_part 80 (.tmp 39) rfl g (k * 66) rfl _ cur (wrCells x) _ _ HG.out Tryd.underlying80 rfl (by rw [size70, HX66.out]) HCUR.out) ?_) | (refine wpList_value rfl (exec_alloc70 rfl) ?_) | (refine wpList_skip rfl (exec_store_new wr 80 _ _ (.tmp 8) (.tmp 40) rfl rfl rfl (by rw [size70, List.size_toArray, HX66.out]) (by rw [List.size_toArray, List.size_toArray, HX66.out]; exact wrCells_len _ zz_length zz_length) (wr_all _)) ?_))
          go_roundw
          case rel =>
            refine ⟨k + 1, by omega, by go_num, ?_, HBR.out.alloc _⟩
            rw [HST.out, HGET.out]
            simp only [Bool.false_eq_true, if_false, List.append_nil]
            exact HMR.out.of_block (Below.heap_alloc _ _ _ HMR.out.lt)
          case measure => simp [intOf]; omega
      · have hkn : k = d.more.length := by omega
        subst hkn
        go_wp2_with fail
        refine ⟨by simp, .inl ⟨_, _, rfl, run_takeDeferred (b := D) (ds := []) ?_, ?_⟩⟩
        · exact (HBR.out.block D (Array.getElem?_eq_some_iff.1 HKW.out).1 (by have := HD.out; exact Nat.ne_of_gt (by omega))).trans HKW.out
        · have hDm : D ≠ m := by have := HD.out; omega
          have hput : ∀ j, j < W2.heap.size → (wr.putObj D (.deferred none)).heap[j]? = wr.heap[j]? := fun j hj => World.putObj_heap_other (by have := HD.out; omega)
          have hps : (wr.putObj D (.deferred none)).heap.size = wr.heap.size := by simp
          have hpl := HPW.out.lt
          have hb1 := HBR.out.size
          have hdw : d.wake bs = { d with base := play d.base (stay d.more bs), more := [], on := true } := by
            unfold DD.wake
            rw [HON.out]
            rfl
          rw [hdw]
          have hml := HMR.out
          rw [List.take_of_length_le (Nat.le_refl _)] at hml
          refine ⟨_, results_none rfl _ _ _, rfl, own, ⟨?_, m, .slice none 0 0, ?_⟩, ?_, Grows.refl _ _⟩
          · have hst : ∀ y ∈ stay d.more bs, y.1 < d.n ∧ y.2.length = 32 := fun y hy => H0.out.at1 y (stay_mem _ _ _ hy)
            refine { H0.out with n0 := ?_, n1 := ?_, more1 := Nat.zero_le _, at1 := fun _ h => by simp at h, base1 := play_all H0.out.base1 (fun y hy => (hst y hy).2) }
            · show 1 ≤ (play d.base (stay d.more bs)).length
              rw [play_length]
              exact H0.out.n0
            · show (play d.base (stay d.more bs)).length ≤ 1024
              rw [play_length]
              exact H0.out.n1
          · refine ⟨?_, ?_, ⟨rfl, .inl ⟨rfl, rfl⟩⟩, H1.out.2.2.2.1, H1.out.2.2.2.2.1, fun j hj => by simp [Value.ownBlock] at hj, fun j hj => ?_⟩
            · have e : (DD.n { d with base := play d.base (stay d.more bs), more := [], on := true }) = d.n := play_length _ _
              rw [e]
              refine (HPW.out.of_block (HBR.out.block p hpl HNE.out.1)).of_block (hput p (by omega))
            · exact hml.of_block (hput m (by omega))
            · have h1 := HL.out j hj
              have h2 := HButW.out.size
              rw [hps]
              omega
          · refine (HButW.out.trans HBR.out (fun j e => .inl (by subst e; exact H1.out.2.2.2.2.1))).grown (grownBy_putObj' wr D _) (fun j e => .inr ?_)
            injection e with e
            have h1 := HD.out
            have h2 := HSZ2.out
            omega
end
end Go.Proofs.YtjllpbckmioiiaaDoor.dk


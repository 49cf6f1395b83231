/- WiNum, WiNumG, WiText, FMem. -/
import Derived.Test.YtjllpbckmioiiaaDoorQ0
import Derived.Test.YtjllpbckmioiiaaDoorQ11
import Derived.Test.YtjllpbckmioiiaaDoorQ3
import Derived.Test.YtjllpbckmioiiaaDoorQ6
import Derived.WalkKit
import Derived.WalkSpells
import Derived.WalkLawsBesides
import Derived.BigCall
import Derived.Lib.Hide
/- What reading a number and a text off a reader does: num, text, read, Num and Text of package wire. -/
namespace Go.Proofs.YtjllpbckmioiiaaDoor.wi
open Go.RowKit
set_option maxRecDepth 100000

def okNum (b : Nat) (l : List UInt8) (x : Bool) (w : World) (e : Ending) (w' : World) : Prop :=
  w.grownBy w' (some b) ∧
    ((∃ n r, rdNum l = some (n, r) ∧ e = .returned (.tuple #[.int .u64 (n : Int), .bool true]) ∧ RdAt b r x w') ∨
     (rdNum l = none ∧ e = .returned (.tuple #[.int .u64 0, .bool false]) ∧ ∃ m, RdAt b m x w'))

set_option maxHeartbeats 400000 in
theorem num_empty (b : Nat) (x : Bool) (w : World) (h : RdAt b [] x w) :
    Calls Tryd.prog 62 #[.func (.func 80) #[.pointer (some ⟨b, 0, none⟩)] #[]] w (okNum b [] x w) := by
  obtain ⟨g, o, cap, hR⟩ := h
  have hR' : RdAt b [] x w := ⟨g, o, cap, hR⟩
  go_enter Tryd.func62, Tryd.ntmps62
  go_wp2_with (go_at_call 80; refine (take_no b g o cap [] x 1 _ hR (by simp)).mono ?_; rintro e w' ⟨rfl, rfl⟩)
  go_ret2
  exact ⟨grown_refl _ _, .inr ⟨rfl, rfl, [], hR'⟩⟩

theorem Row.cell0 {w : World} {g o : Nat} {k : UInt8} {r : List UInt8} (h : Row w g o (k :: r)) : w.cell? ⟨g, o, none⟩ = some (.int .u8 (k.toNat : Int)) := by
  have := h.cell 0 (by simp)
  simpa using this

set_option maxHeartbeats 400000 in
theorem num_big (b : Nat) (k : UInt8) (r : List UInt8) (x : Bool) (w : World) (h : RdAt b (k :: r) x w) (hk : 8 < k.toNat) :
    Calls Tryd.prog 62 #[.func (.func 80) #[.pointer (some ⟨b, 0, none⟩)] #[]] w (okNum b (k :: r) x w) := by
  obtain ⟨g, o, cap, hR⟩ := h
  have hki : (8 : Int) < (k.toNat : Int) := by omega
  have hnone : rdNum (k :: r) = none := by simp [rdNum, hk]
  have Hn := Lib.hid hnone
  clear hnone
  go_enter Tryd.func62, Tryd.ntmps62
  go_wp2_with (go_at_call 80; refine (take_yes b g o cap (k :: r) x 1 _ hR (by decide) (by simp)).mono ?_)
  rintro e w1 ⟨rfl, h1, h2, h3⟩
  have hc : w1.cell? ⟨g, o, none⟩ = some (.int .u8 (k.toNat : Int)) := Row.cell0 (r := []) h3
  have H1 := Lib.hid h1
  have H2 := Lib.hid h2
  clear h1 h2 h3
  go_wp2
  go_ret2
  exact ⟨H2.out, .inr ⟨Hn.out, rfl, r, ⟨_, _, _, H1.out⟩⟩⟩

set_option maxHeartbeats 400000 in
theorem num_short (b : Nat) (k : UInt8) (r : List UInt8) (x : Bool) (w : World) (h : RdAt b (k :: r) x w) (hk : k.toNat ≤ 8) (hr : r.length < k.toNat) :
    Calls Tryd.prog 62 #[.func (.func 80) #[.pointer (some ⟨b, 0, none⟩)] #[]] w (okNum b (k :: r) x w) := by
  obtain ⟨g, o, cap, hR⟩ := h
  have hki : ¬ (8 : Int) < (k.toNat : Int) := by omega
  have hnone : rdNum (k :: r) = none := by simp [rdNum, Nat.not_lt.2 hk, hr]
  have Hn := Lib.hid hnone
  clear hnone
  go_enter Tryd.func62, Tryd.ntmps62
  go_wp2_with (go_at_call 80; refine (take_yes b g o cap (k :: r) x 1 _ hR (by decide) (by simp)).mono ?_)
  rintro e w1 ⟨rfl, h1, h2, h3⟩
  have hc : w1.cell? ⟨g, o, none⟩ = some (.int .u8 (k.toNat : Int)) := Row.cell0 (r := []) h3
  have H1 := Lib.hid h1
  have H2 := Lib.hid h2
  clear h1 h2 h3
  go_wp2_with (go_at_call 80; refine (take_no b g _ _ r x _ _ H1.out (by omega)).mono ?_; rintro e w' ⟨rfl, rfl⟩)
  go_ret2
  exact ⟨H2.out, .inr ⟨Hn.out, rfl, r, ⟨_, _, _, H1.out⟩⟩⟩

set_option maxHeartbeats 400000 in
theorem num_zero (b : Nat) (k : UInt8) (r : List UInt8) (x : Bool) (w : World) (h : RdAt b (k :: r) x w) (hk : k.toNat ≤ 8) (hr : k.toNat ≤ r.length) (h0 : (r.take k.toNat).head? = some 0) :
    Calls Tryd.prog 62 #[.func (.func 80) #[.pointer (some ⟨b, 0, none⟩)] #[]] w (okNum b (k :: r) x w) := by
  obtain ⟨g, o, cap, hR⟩ := h
  have hki : ¬ (8 : Int) < (k.toNat : Int) := by omega
  have hnone : rdNum (k :: r) = none := by simp [rdNum, Nat.not_lt.2 hk, Nat.not_lt.2 hr]; exact h0
  have Hn := Lib.hid hnone
  have hkp : (0 : Int) < (k.toNat : Int) := by
    have : k.toNat ≠ 0 := by
      intro e
      rw [e] at h0
      simp at h0
    omega
  have H0 := Lib.hid h0
  clear hnone h0
  go_enter Tryd.func62, Tryd.ntmps62
  go_wp2_with (go_at_call 80; refine (take_yes b g o cap (k :: r) x 1 _ hR (by decide) (by simp)).mono ?_)
  rintro e w1 ⟨rfl, h1, h2, h3⟩
  have hc : w1.cell? ⟨g, o, none⟩ = some (.int .u8 (k.toNat : Int)) := Row.cell0 (r := []) h3
  obtain ⟨o1, c1, h1⟩ : ∃ o1 c1, RdOf b g o1 c1 r x w1 := ⟨_, _, h1⟩
  have H1 := Lib.hid h1
  have H2 := Lib.hid h2
  clear h1 h2 h3
  go_wp2_with (go_at_call 80; refine (take_yes b g o1 c1 r x (k.toNat : Int) _ H1.out (by omega) (by omega)).mono ?_)
  rintro e w2 ⟨rfl, h1, h2, h3⟩
  rw [Int.toNat_natCast] at h1 h3
  have hc0 : w2.cell? ⟨g, o1, none⟩ = some (.int .u8 0) := by
    have e0 := H0.out
    cases hd : r.take k.toNat with
    | nil => rw [hd] at e0; simp at e0
    | cons y q =>
      rw [hd] at e0 h3
      simp at e0
      subst e0
      exact Row.cell0 h3
  have H3 := Lib.hid h1
  have H4 := Lib.hid h2
  clear h1 h2 h3 hc
  go_wp2
  go_ret2
  exact ⟨grown_trans H2.out H4.out, .inr ⟨Hn.out, rfl, _, ⟨_, _, _, H3.out⟩⟩⟩

end Go.Proofs.YtjllpbckmioiiaaDoor.wi

/- Reading a number's bytes that are good ones. -/
namespace Go.Proofs.YtjllpbckmioiiaaDoor.wi
open Go.RowKit
set_option maxRecDepth 100000

theorem val_step (l : List UInt8) (k : Nat) (h : k < l.length) : val (l.take (k + 1)) = val (l.take k) * 256 + l[k].toNat := by
  rw [List.take_succ_eq_append_getElem h, val_snoc]

theorem or_byte (v z : Nat) (hv : v < 72057594037927936) (hz : z < 256) : bits BinOp.or IntKind.u64 ((v : Int) * 256) (z : Int) = ((v * 256 + z : Nat) : Int) := by
  have e : (v : Int) * 256 = ((v * 256 : Nat) : Int) := by omega
  rw [e, u64_or_nat _ _ (by omega) (by omega)]
  have := Nat.shiftLeft_add_eq_or_of_lt (i := 8) (b := z) (by omega) v
  rw [Nat.shiftLeft_eq, show (2 : Nat) ^ 8 = 256 from rfl] at this
  rw [← this]

def NumRel (d : List UInt8) (n i : Value) : Prop := ∃ j : Nat, j ≤ d.length ∧ i = .int .i64 (j : Int) ∧ n = .int .u64 (val (d.take j) : Int)

set_option maxHeartbeats 800000 in
theorem num_good (b : Nat) (k : UInt8) (r : List UInt8) (x : Bool) (w : World) (h : RdAt b (k :: r) x w) (hk : k.toNat ≤ 8) (hr : k.toNat ≤ r.length) (h0 : ¬ (r.take k.toNat).head? = some 0) :
    Calls Tryd.prog 62 #[.func (.func 80) #[.pointer (some ⟨b, 0, none⟩)] #[]] w (okNum b (k :: r) x w) := by
  obtain ⟨g, o, cap, hR⟩ := h
  have hki : ¬ (8 : Int) < (k.toNat : Int) := by omega
  have hsome : rdNum (k :: r) = some (val (r.take k.toNat), r.drop k.toNat) := by simp [rdNum, Nat.not_lt.2 hk, Nat.not_lt.2 hr, h0]
  have Hn := Lib.hid hsome
  have H0 := Lib.hid h0
  clear hsome h0
  go_enter Tryd.func62, Tryd.ntmps62
  go_wp2_with (go_at_call 80; refine (take_yes b g o cap (k :: r) x 1 _ hR (by decide) (by simp)).mono ?_)
  rintro e w1 ⟨rfl, h1, h2, h3⟩
  have hc : w1.cell? ⟨g, o, none⟩ = some (.int .u8 (k.toNat : Int)) := Row.cell0 (r := []) h3
  obtain ⟨o1, c1, h1⟩ : ∃ o1 c1, RdOf b g o1 c1 r x w1 := ⟨_, _, h1⟩
  have H1 := Lib.hid h1
  have H2 := Lib.hid h2
  clear h1 h2 h3
  go_wp2_with (go_at_call 80; refine (take_yes b g o1 c1 r x (k.toNat : Int) _ H1.out (by omega) (by omega)).mono ?_)
  rintro e w2 ⟨rfl, h1, h2, h3⟩
  rw [Int.toNat_natCast] at h1 h3
  have H3 := Lib.hid h1
  have H4 := Lib.hid h2
  have hlen : (r.take k.toNat).length = k.toNat := by simp; omega
  obtain ⟨d, hd⟩ : ∃ d, d = r.take k.toNat := ⟨_, rfl⟩
  have hE : Hid (rdNum (k :: r) = some (val d, r.drop k.toNat)) := by rw [hd]; exact Hn
  have hZ : Hid (¬ d.head? = some 0) := by rw [hd]; exact H0
  rw [← hd] at hlen h3
  clear hd Hn H0 h1 h2 hc hR
  have hkb : k.toNat ≤ 8 := hk
  cases d with
  | nil =>
    have hk0 : ¬ (0 : Int) < (k.toNat : Int) := by simp at hlen; omega
    have Hl := Lib.hid hlen
    have H5 := Lib.hid h3
    clear hlen h3 hZ
    go_wp2
    go_loop [7, 47] (fun n i => NumRel [] n i) (fun _ i => k.toNat - (intOf i).toNat)
    case atStart => exact ⟨0, Nat.zero_le _, rfl, rfl⟩
    case round =>
      obtain ⟨j, hj, rfl, rfl⟩ := hrel
      have hlt : ¬ j < k.toNat := by omega
      go_wp2
      go_ret2
      exact ⟨grown_trans H2.out H4.out, .inl ⟨val [], _, hE.out, by simp, _, _, _, H3.out⟩⟩
  | cons y q =>
    have hk0 : (0 : Int) < (k.toNat : Int) := by simp at hlen; omega
    have hc := Row.cell0 h3
    have hy : ((y.toNat : Int) == 0) = false := by
      have hz := hZ.out
      simp at hz
      have : y.toNat ≠ 0 := fun e => hz (by apply UInt8.toNat_inj.1; simpa using e)
      simp; omega
    have Hl := Lib.hid hlen
    have H5 := Lib.hid h3
    clear hlen h3 hZ
    go_wp2
    go_loop [7, 47] (fun n i => NumRel (y :: q) n i) (fun _ i => k.toNat - (intOf i).toNat)
    case atStart => exact ⟨0, Nat.zero_le _, rfl, rfl⟩
    case round =>
      obtain ⟨j, hj, rfl, rfl⟩ := hrel
      by_cases hlt : j < k.toNat
      · have hl := Hl.out
        have hc := H5.out.cell j (by omega)
        have hb : val ((y :: q).take j) < 72057594037927936 := by
          have a := val_lt ((y :: q).take j)
          have b : 256 ^ ((y :: q).take j).length ≤ 256 ^ 7 := Nat.pow_le_pow_right (by omega) (by rw [List.length_take]; omega)
          have e : (256 : Nat) ^ 7 = 72057594037927936 := by decide
          omega
        have hs := val_step (y :: q) j (by omega)
        have Hs := Lib.hid hs
        generalize val ((y :: q).take j) = v at *
        generalize (y :: q)[j] = z at *
        have hzb : z.toNat < 256 := z.toNat_lt
        clear hs
        go_wp2
        rw [or_byte v z.toNat hb hzb]
        exact ⟨⟨j + 1, by omega, by go_num, by rw [Hs.out]⟩, by simp [intOf]; omega⟩
      · have hl := Hl.out
        have hjl : j = (y :: q).length := by omega
        have ht : val ((y :: q).take j) = val (y :: q) := by rw [hjl, List.take_length]
        have Ht := Lib.hid ht
        clear ht hjl hl
        go_wp2
        go_ret2
        exact ⟨grown_trans H2.out H4.out, .inl ⟨val (y :: q), _, hE.out, by rw [← Ht.out]; rfl, _, _, _, H3.out⟩⟩

theorem num_any (b : Nat) (l : List UInt8) (x : Bool) (w : World) (h : RdAt b l x w) :
    Calls Tryd.prog 62 #[.func (.func 80) #[.pointer (some ⟨b, 0, none⟩)] #[]] w (okNum b l x w) := by
  cases l with
  | nil => exact num_empty b x w h
  | cons k r =>
    by_cases hk : k.toNat ≤ 8
    · by_cases hr : k.toNat ≤ r.length
      · by_cases h0 : (r.take k.toNat).head? = some 0
        · exact num_zero b k r x w h hk hr h0
        · exact num_good b k r x w h hk hr h0
      · exact num_short b k r x w h hk (by omega)
    · exact num_big b k r x w h (by omega)

end Go.Proofs.YtjllpbckmioiiaaDoor.wi

/- What reading a number and a text off a reader does: text, read, Num and Text of package wire. -/
namespace Go.Proofs.YtjllpbckmioiiaaDoor.wi
open Go.RowKit
set_option maxRecDepth 100000

def okText (b : Nat) (l : List UInt8) (x : Bool) (w : World) (e : Ending) (w' : World) : Prop :=
  w.grownBy w' (some b) ∧
    ((∃ t r, rdText l = some (t, r) ∧ e = .returned (.tuple #[.string (str t), .bool true]) ∧ RdAt b r x w') ∨
     (rdText l = none ∧ e = .returned (.tuple #[.string (str []), .bool false]) ∧ ∃ m, RdAt b m x w'))

set_option maxHeartbeats 400000 in
theorem text_any (b : Nat) (l : List UInt8) (x : Bool) (w : World) (h : RdAt b l x w) :
    Calls Tryd.prog 88 #[.func (.func 80) #[.pointer (some ⟨b, 0, none⟩)] #[]] w (okText b l x w) := by
  go_enter Tryd.func88, Tryd.ntmps88
  go_wp2_with (go_at_call 62; refine (num_any b l x _ h).mono ?_)
  rintro e w1 ⟨hg, ⟨n, r, hn, rfl, hr⟩ | ⟨hn, rfl, m, hm⟩⟩
  · have hn64 := (rdNum_is l n r hn).2
    have Hn := Lib.hid hn
    have Hg := Lib.hid hg
    obtain ⟨g, o, cap, hR⟩ := hr
    by_cases hlt : r.length < n
    · have hT : rdText l = none := by unfold rdText; rw [Hn.out]; simp [hlt]
      have HT := Lib.hid hT
      clear hT hg hn
      go_wp2_with (go_at_call 80; refine (take_no b g o cap r x (n : Int) _ hR (by omega)).mono ?_; rintro e w' ⟨rfl, rfl⟩)
      go_ret2
      exact ⟨Hg.out, .inr ⟨HT.out, rfl, r, g, o, cap, hR⟩⟩
    · have hT : rdText l = some (r.take n, r.drop n) := by unfold rdText; rw [Hn.out]; simp [hlt]
      have HT := Lib.hid hT
      have hln : (r.take n).length = n := by simp; omega
      have Hln := Lib.hid hln
      clear hT hg hn hln
      go_wp2_with (go_at_call 80; refine (take_yes b g o cap r x (n : Int) _ hR (by omega) (by omega)).mono ?_)
      rintro e w2 ⟨rfl, h1, h2, h3⟩
      rw [Int.toNat_natCast] at h1 h3
      have hcv := run_convert_bytes_back (P := Tryd.prog) w2 68 9 5 ⟨g, o, none⟩ n (r.take n) Tryd.underlying68 Tryd.underlying5 Tryd.underlying9 (by
        intro j hj
        rw [addr_add]
        exact h3.cell j hj)
      rw [Hln.out] at hcv
      have hcv' : (convert 68 9 (.slice (some ⟨g, o, none⟩) n n)).run Tryd.prog w2 = .ok (.string (str (r.take n))) w2 := hcv
      have H1 := Lib.hid h1
      have H2 := Lib.hid h2
      clear h1 h2 h3 hcv
      go_wp2
      go_ret2
      exact ⟨grown_trans Hg.out H2.out, .inl ⟨_, _, HT.out, rfl, _, _, _, H1.out⟩⟩
  · have hT : rdText l = none := by unfold rdText; rw [hn]
    have HT := Lib.hid hT
    have Hg := Lib.hid hg
    clear hT hg hn
    go_wp2
    go_ret2
    exact ⟨Hg.out, .inr ⟨HT.out, rfl, m, hm⟩⟩

theorem RdAt.flag {b : Nat} {l : List UInt8} {x : Bool} {w : World} (h : RdAt b l x w) (y : Bool) : RdAt b l y (w.setCell ⟨b, 1, none⟩ (.bool y)) := by
  obtain ⟨g, o, cap, hb, hr, h1, h2⟩ := h
  have hgb : g ≠ b := by
    intro e
    subst e
    obtain ⟨cs, fr, hg', _⟩ := hr
    rw [hb] at hg'
    simp at hg'
  have hw := heap_setCell_same w b 1 _ 111 (.bool y) hb
  exact ⟨g, o, cap, by rw [hw]; simp, hr.keep (Below.heap_setCell w _ _ g hgb), h1, h2⟩

theorem RdAt.flagGrown (b : Nat) (w : World) (v : Value) : w.grownBy (w.setCell ⟨b, 1, none⟩ v) (some b) :=
  ⟨rfl, rfl, rfl, by simp [World.setCell], fun k _ hk => Below.heap_setCell _ _ _ _ (fun e => hk (by simp [e]))⟩

theorem RdAt.cell1 {b : Nat} {l : List UInt8} {x : Bool} {w : World} (h : RdAt b l x w) : w.cell? ⟨b, 1, none⟩ = some (.bool x) ∧ w.frozen? ⟨b, 1, none⟩ = false := by
  obtain ⟨g, o, cap, hb, _⟩ := h
  exact ⟨by simp [World.cell?, hb], by simp [World.frozen?, hb]⟩

def okRdNum (b : Nat) (l : List UInt8) (w : World) (e : Ending) (w' : World) : Prop :=
  w.grownBy w' (some b) ∧
    ((∃ n r, rdNum l = some (n, r) ∧ e = .returned (.int .u64 (n : Int)) ∧ RdAt b r false w') ∨
     (rdNum l = none ∧ e = .returned (.int .u64 0) ∧ ∃ m, RdAt b m true w'))

set_option maxHeartbeats 400000 in
theorem readNum_any (b : Nat) (l : List UInt8) (w : World) (h : RdAt b l false w) :
    Calls Tryd.prog 61 #[.pointer (some ⟨b, 0, none⟩), .func (.func 62) #[] #[]] w (okRdNum b l w) := by
  go_enter Tryd.func61, Tryd.ntmps61
  go_wp2_with (go_at_call 79; refine (ok_yes b l _ h).mono ?_; rintro e w' ⟨rfl, rfl⟩)
  go_wp2_with (go_at_call 62; refine (num_any b l false _ h).mono ?_)
  rintro e w1 ⟨hg, ⟨n, r, hn, rfl, hr⟩ | ⟨hn, rfl, m, hm⟩⟩
  · have Hn := Lib.hid hn
    have Hg := Lib.hid hg
    obtain ⟨hc, hf⟩ := hr.cell1
    have Hr := Lib.hid (hr.flag false)
    clear hn hg hr
    go_wp2
    go_ret
    exact ⟨grown_trans Hg.out (RdAt.flagGrown _ _ _), .inl ⟨n, r, Hn.out, rfl, Hr.out⟩⟩
  · have Hn := Lib.hid hn
    have Hg := Lib.hid hg
    obtain ⟨hc, hf⟩ := hm.cell1
    have Hr := Lib.hid (hm.flag true)
    clear hn hg hm
    go_wp2
    go_ret
    exact ⟨grown_trans Hg.out (RdAt.flagGrown _ _ _), .inr ⟨Hn.out, rfl, m, Hr.out⟩⟩

theorem readNum_bad (b : Nat) (l : List UInt8) (w : World) (h : RdAt b l true w) :
    Calls Tryd.prog 61 #[.pointer (some ⟨b, 0, none⟩), .func (.func 62) #[] #[]] w fun e w' => e = .returned (.int .u64 0) ∧ w = w' := by
  go_enter Tryd.func61, Tryd.ntmps61
  go_wp2_with (go_at_call 79; refine (ok_no b l _ h).mono ?_; rintro e w' ⟨rfl, rfl⟩)
  go_ret
  exact ⟨rfl, rfl⟩

theorem readNum_nil (w : World) :
    Calls Tryd.prog 61 #[.pointer none, .func (.func 62) #[] #[]] w fun e w' => e = .returned (.int .u64 0) ∧ w = w' := by
  go_enter Tryd.func61, Tryd.ntmps61
  go_wp2_with (go_at_call 79; refine (ok_nil _).mono ?_; rintro e w' ⟨rfl, rfl⟩)
  go_ret
  exact ⟨rfl, rfl⟩

def okRdText (b : Nat) (l : List UInt8) (w : World) (e : Ending) (w' : World) : Prop :=
  w.grownBy w' (some b) ∧
    ((∃ t r, rdText l = some (t, r) ∧ e = .returned (.string (str t)) ∧ RdAt b r false w') ∨
     (rdText l = none ∧ e = .returned (.string (str [])) ∧ ∃ m, RdAt b m true w'))

set_option maxHeartbeats 400000 in
theorem readText_any (b : Nat) (l : List UInt8) (w : World) (h : RdAt b l false w) :
    Calls Tryd.prog 87 #[.pointer (some ⟨b, 0, none⟩), .func (.func 88) #[] #[]] w (okRdText b l w) := by
  go_enter Tryd.func87, Tryd.ntmps87
  go_wp2_with (go_at_call 79; refine (ok_yes b l _ h).mono ?_; rintro e w' ⟨rfl, rfl⟩)
  go_wp2_with (go_at_call 88; refine (text_any b l false _ h).mono ?_)
  rintro e w1 ⟨hg, ⟨n, r, hn, rfl, hr⟩ | ⟨hn, rfl, m, hm⟩⟩
  · have Hn := Lib.hid hn
    have Hg := Lib.hid hg
    obtain ⟨hc, hf⟩ := hr.cell1
    have Hr := Lib.hid (hr.flag false)
    clear hn hg hr
    go_wp2
    go_ret
    exact ⟨grown_trans Hg.out (RdAt.flagGrown _ _ _), .inl ⟨n, r, Hn.out, rfl, Hr.out⟩⟩
  · have Hn := Lib.hid hn
    have Hg := Lib.hid hg
    obtain ⟨hc, hf⟩ := hm.cell1
    have Hr := Lib.hid (hm.flag true)
    clear hn hg hm
    go_wp2
    go_ret
    exact ⟨grown_trans Hg.out (RdAt.flagGrown _ _ _), .inr ⟨Hn.out, rfl, m, Hr.out⟩⟩

theorem readText_bad (b : Nat) (l : List UInt8) (w : World) (h : RdAt b l true w) :
    Calls Tryd.prog 87 #[.pointer (some ⟨b, 0, none⟩), .func (.func 88) #[] #[]] w fun e w' => e = .returned (.string (str [])) ∧ w = w' := by
  go_enter Tryd.func87, Tryd.ntmps87
  go_wp2_with (go_at_call 79; refine (ok_no b l _ h).mono ?_; rintro e w' ⟨rfl, rfl⟩)
  go_ret
  exact ⟨rfl, rfl⟩

theorem readText_nil (w : World) :
    Calls Tryd.prog 87 #[.pointer none, .func (.func 88) #[] #[]] w fun e w' => e = .returned (.string (str [])) ∧ w = w' := by
  go_enter Tryd.func87, Tryd.ntmps87
  go_wp2_with (go_at_call 79; refine (ok_nil _).mono ?_; rintro e w' ⟨rfl, rfl⟩)
  go_ret
  exact ⟨rfl, rfl⟩

theorem num_good1 (b : Nat) (l : List UInt8) (w : World) (h : RdAt b l false w) : Calls Tryd.prog 44 #[.pointer (some ⟨b, 0, none⟩)] w (okRdNum b l w) := by
  go_enter Tryd.func44, Tryd.ntmps44
  go_wp2_with (go_at_call 61; refine (readNum_any b l _ h).mono ?_)
  rintro e w1 ⟨hg, ⟨n, r, hn, rfl, hr⟩ | ⟨hn, rfl, hm⟩⟩
  · have H : Hid (okRdNum b l w (.returned (.int .u64 (n : Int))) w1) := ⟨hg, .inl ⟨n, r, hn, rfl, hr⟩⟩
    clear hg hn hr
    go_wp2
    go_ret
    exact H.out
  · have H : Hid (okRdNum b l w (.returned (.int .u64 0)) w1) := ⟨hg, .inr ⟨hn, rfl, hm⟩⟩
    clear hg hn hm
    go_wp2
    go_ret
    exact H.out

theorem num_bad1 (b : Nat) (l : List UInt8) (w : World) (h : RdAt b l true w) : Calls Tryd.prog 44 #[.pointer (some ⟨b, 0, none⟩)] w fun e w' => e = .returned (.int .u64 0) ∧ w = w' := by
  go_enter Tryd.func44, Tryd.ntmps44
  go_wp2_with (go_at_call 61; refine (readNum_bad b l _ h).mono ?_; rintro e w' ⟨rfl, rfl⟩)
  go_ret
  exact ⟨rfl, rfl⟩

theorem num_nil1 (w : World) : Calls Tryd.prog 44 #[.pointer none] w fun e w' => e = .returned (.int .u64 0) ∧ w = w' := by
  go_enter Tryd.func44, Tryd.ntmps44
  go_wp2_with (go_at_call 61; refine (readNum_nil _).mono ?_; rintro e w' ⟨rfl, rfl⟩)
  go_ret
  exact ⟨rfl, rfl⟩

theorem text_good1 (b : Nat) (l : List UInt8) (w : World) (h : RdAt b l false w) : Calls Tryd.prog 77 #[.pointer (some ⟨b, 0, none⟩)] w (okRdText b l w) := by
  go_enter Tryd.func77, Tryd.ntmps77
  go_wp2_with (go_at_call 87; refine (readText_any b l _ h).mono ?_)
  rintro e w1 ⟨hg, ⟨n, r, hn, rfl, hr⟩ | ⟨hn, rfl, hm⟩⟩
  · have H : Hid (okRdText b l w (.returned (.string (str n))) w1) := ⟨hg, .inl ⟨n, r, hn, rfl, hr⟩⟩
    clear hg hn hr
    go_wp2
    go_ret
    exact H.out
  · have H : Hid (okRdText b l w (.returned (.string (str []))) w1) := ⟨hg, .inr ⟨hn, rfl, hm⟩⟩
    clear hg hn hm
    go_wp2
    go_ret
    exact H.out

theorem text_bad1 (b : Nat) (l : List UInt8) (w : World) (h : RdAt b l true w) : Calls Tryd.prog 77 #[.pointer (some ⟨b, 0, none⟩)] w fun e w' => e = .returned (.string (str [])) ∧ w = w' := by
  go_enter Tryd.func77, Tryd.ntmps77
  go_wp2_with (go_at_call 87; refine (readText_bad b l _ h).mono ?_; rintro e w' ⟨rfl, rfl⟩)
  go_ret
  exact ⟨rfl, rfl⟩

theorem text_nil1 (w : World) : Calls Tryd.prog 77 #[.pointer none] w fun e w' => e = .returned (.string (str [])) ∧ w = w' := by
  go_enter Tryd.func77, Tryd.ntmps77
  go_wp2_with (go_at_call 87; refine (readText_nil _).mono ?_; rintro e w' ⟨rfl, rfl⟩)
  go_ret
  exact ⟨rfl, rfl⟩

end Go.Proofs.YtjllpbckmioiiaaDoor.wi

/- What memory holds of a list of texts: the words that the walks of package frame use. -/
namespace Go.Proofs.YtjllpbckmioiiaaDoor
open Go.RowKit
set_option maxRecDepth 100000

/-- A slice of strings that begins at a holds ps. -/
def StrsAt (w : World) (a : Option Addr) (ps : List (List UInt8)) : Prop :=
  ∀ i (h : i < ps.length), ∃ b o, a = some ⟨b, o, none⟩ ∧ b < w.heap.size ∧ w.cell? ⟨b, o + i, none⟩ = some (.string (str ps[i]))

def strVals (ps : List (List UInt8)) : List Value := ps.map fun p => Value.string (str p)

theorem strVals_length (ps : List (List UInt8)) : (strVals ps).length = ps.length := by simp [strVals]
theorem strVals_snoc (ps : List (List UInt8)) (p : List UInt8) : strVals (ps ++ [p]) = strVals ps ++ [.string (str p)] := by simp [strVals]

theorem StrsAt.below {w w' : World} {a : Option Addr} {ps : List (List UInt8)} {B : Nat} (h : StrsAt w a ps) (hb : Below B w w') (hB : w.heap.size ≤ B) : StrsAt w' a ps := by
  intro i hi
  obtain ⟨b, o, rfl, hlt, hc⟩ := h i hi
  exact ⟨b, o, rfl, Nat.lt_of_lt_of_le hlt hb.size, by rw [hb.cell (p := ⟨b, o + i, none⟩) (Nat.lt_of_lt_of_le hlt hB)]; exact hc⟩

/-- .. where what was written lies behind all that is read. -/
theorem StrsAt.nil (w : World) (a : Option Addr) : StrsAt w a [] := fun i h => absurd h (by simp)

/-- A list that the call itself made. -/
def OwnsStrs (w : World) (B : Nat) (v : Value) (ps : List (List UInt8)) : Prop := w.ownsRow B 9 1 v ps.length (strVals ps)

theorem OwnsStrs.view {w : World} {B : Nat} {v : Value} {ps : List (List UInt8)} (h : OwnsStrs w B v ps) :
    ∃ a c, v = .slice a ps.length c ∧ ps.length ≤ c ∧ c ≤ maxLen ∧ StrsAt w a ps ∧ (a = none → ps = []) ∧ (∀ x, a = some x → ∃ g, x = ⟨g, 0, none⟩ ∧ B ≤ g ∧ g < w.heap.size) := by
  rcases h.2 with ⟨rfl, h0⟩ | ⟨g, cap, cur, rfl, hg, hh, hc, hm, _, _⟩
  · obtain rfl : ps = [] := List.length_eq_zero_iff.1 h0
    exact ⟨none, 0, rfl, Nat.le_refl _, by decide, StrsAt.nil _ _, fun _ => rfl, fun x hx => (by cases hx)⟩
  · have hlt : g < w.heap.size := (Array.getElem?_eq_some_iff.1 hh).1
    refine ⟨some ⟨g, 0, none⟩, cap, rfl, hc, hm, ?_, fun h => (by cases h), fun x hx => ⟨g, (by cases hx; rfl), hg, hlt⟩⟩
    intro i hi
    refine ⟨g, 0, rfl, hlt, ?_⟩
    have := World.ownsRow.cellAt h i (by omega)
    rw [Nat.zero_add, this]
    simp [strVals, hi]

theorem strsAt_new (ps : List (List UInt8)) (w : World) : StrsAt (w.alloc (.cells (strVals ps).toArray 9)) (some ⟨w.heap.size, 0, none⟩) ps := by
  intro i h
  refine ⟨w.heap.size, 0, rfl, by simp, ?_⟩
  simp [World.cell?, World.alloc, -World.alloc_eq, strVals, h]

theorem ownsRow_mono {w : World} {B C : Nat} {v : Value} {ps : List (List UInt8)} (h : OwnsStrs w B v ps) (hc : C ≤ B) : OwnsStrs w C v ps := by
  refine ⟨h.1, ?_⟩
  rcases h.2 with hn | ⟨g, cap, cur, hv, hb, rest⟩
  · exact .inl hn
  · exact .inr ⟨g, cap, cur, hv, Nat.le_trans hc hb, rest⟩

theorem owns_kept {w w' : World} {B : Nat} {v : Value} {ps : List (List UInt8)} (h : OwnsStrs w B v ps) (hb : Below w.heap.size w w') : OwnsStrs w' B v ps := by
  refine ⟨h.1, ?_⟩
  rcases h.2 with hn | ⟨g, cap, cur, hv, hB, hg, rest⟩
  · exact .inl hn
  · exact .inr ⟨g, cap, cur, hv, hB, by rw [hb.block g (Array.getElem?_eq_some_iff.1 hg).1]; exact hg, rest⟩

end Go.Proofs.YtjllpbckmioiiaaDoor


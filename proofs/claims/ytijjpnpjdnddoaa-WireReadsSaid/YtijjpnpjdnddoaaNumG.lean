/- Reading a number's bytes that are good ones. -/
import Derived.Test.YtijjpnpjdnddoaaNum
namespace Go.Proofs.Ytijjpnpjdnddoaa
open Go.RowKit

theorem val_step (l : List UInt8) (k : Nat) (h : k < l.length) : val (l.take (k + 1)) = val (l.take k) * 256 + l[k].toNat := by
  rw [List.take_succ_eq_append_getElem h, val_snoc]

theorem or_byte (v z : Nat) (hv : v < 72057594037927936) (hz : z < 256) : bits BinOp.or IntKind.u64 ((v : Int) * 256) (z : Int) = ((v * 256 + z : Nat) : Int) := by
  have e : (v : Int) * 256 = ((v * 256 : Nat) : Int) := by omega
  rw [e, u64_or_nat _ _ (by omega) (by omega)]
  have := Nat.shiftLeft_add_eq_or_of_lt (i := 8) (b := z) (by omega) v
  rw [Nat.shiftLeft_eq, show (2 : Nat) ^ 8 = 256 from rfl] at this
  rw [← this]

def NumRel (d : List UInt8) (n i : Value) : Prop := ∃ j : Nat, j ≤ d.length ∧ i = .int .i64 (j : Int) ∧ n = .int .u64 (val (d.take j) : Int)

set_option maxHeartbeats 800000 in
theorem num_good (b : Nat) (k : UInt8) (r : List UInt8) (x : Bool) (w : World) (h : RdAt b (k :: r) x w) (hk : k.toNat ≤ 8) (hr : k.toNat ≤ r.length) (h0 : ¬ (r.take k.toNat).head? = some 0) :
    Calls Try.prog 26 #[.func (.func 33) #[.pointer (some ⟨b, 0, none⟩)] #[]] w (okNum b (k :: r) x w) := by
  obtain ⟨g, o, cap, hR⟩ := h
  have hki : ¬ (8 : Int) < (k.toNat : Int) := by omega
  have hsome : rdNum (k :: r) = some (val (r.take k.toNat), r.drop k.toNat) := by simp [rdNum, Nat.not_lt.2 hk, Nat.not_lt.2 hr, h0]
  have Hn := Lib.hid hsome
  have H0 := Lib.hid h0
  clear hsome h0
  go_enter Try.func26, Try.ntmps26
  go_wp2_with (go_at_call 33; refine (take_yes b g o cap (k :: r) x 1 _ hR (by decide) (by simp)).mono ?_)
  rintro e w1 ⟨rfl, h1, h2, h3⟩
  have hc : w1.cell? ⟨g, o, none⟩ = some (.int .u8 (k.toNat : Int)) := Row.cell0 (r := []) h3
  obtain ⟨o1, c1, h1⟩ : ∃ o1 c1, RdOf b g o1 c1 r x w1 := ⟨_, _, h1⟩
  have H1 := Lib.hid h1
  have H2 := Lib.hid h2
  clear h1 h2 h3
  go_wp2_with (go_at_call 33; refine (take_yes b g o1 c1 r x (k.toNat : Int) _ H1.out (by omega) (by omega)).mono ?_)
  rintro e w2 ⟨rfl, h1, h2, h3⟩
  rw [Int.toNat_natCast] at h1 h3
  have H3 := Lib.hid h1
  have H4 := Lib.hid h2
  have hlen : (r.take k.toNat).length = k.toNat := by simp; omega
  obtain ⟨d, hd⟩ : ∃ d, d = r.take k.toNat := ⟨_, rfl⟩
  have hE : Hid (rdNum (k :: r) = some (val d, r.drop k.toNat)) := by rw [hd]; exact Hn
  have hZ : Hid (¬ d.head? = some 0) := by rw [hd]; exact H0
  rw [← hd] at hlen h3
  clear hd Hn H0 h1 h2 hc hR
  have hkb : k.toNat ≤ 8 := hk
  cases d with
  | nil =>
    have hk0 : ¬ (0 : Int) < (k.toNat : Int) := by simp at hlen; omega
    have Hl := Lib.hid hlen
    have H5 := Lib.hid h3
    clear hlen h3 hZ
    go_wp2
    go_loop [7, 47] (fun n i => NumRel [] n i) (fun _ i => k.toNat - (intOf i).toNat)
    case atStart => exact ⟨0, Nat.zero_le _, rfl, rfl⟩
    case round =>
      obtain ⟨j, hj, rfl, rfl⟩ := hrel
      have hlt : ¬ j < k.toNat := by omega
      go_wp2
      go_ret2
      exact ⟨grown_trans H2.out H4.out, .inl ⟨val [], _, hE.out, by simp, _, _, _, H3.out⟩⟩
  | cons y q =>
    have hk0 : (0 : Int) < (k.toNat : Int) := by simp at hlen; omega
    have hc := Row.cell0 h3
    have hy : ((y.toNat : Int) == 0) = false := by
      have hz := hZ.out
      simp at hz
      have : y.toNat ≠ 0 := fun e => hz (by apply UInt8.toNat_inj.1; simpa using e)
      simp; omega
    have Hl := Lib.hid hlen
    have H5 := Lib.hid h3
    clear hlen h3 hZ
    go_wp2
    go_loop [7, 47] (fun n i => NumRel (y :: q) n i) (fun _ i => k.toNat - (intOf i).toNat)
    case atStart => exact ⟨0, Nat.zero_le _, rfl, rfl⟩
    case round =>
      obtain ⟨j, hj, rfl, rfl⟩ := hrel
      by_cases hlt : j < k.toNat
      · have hl := Hl.out
        have hc := H5.out.cell j (by omega)
        have hb : val ((y :: q).take j) < 72057594037927936 := by
          have a := val_lt ((y :: q).take j)
          have b : 256 ^ ((y :: q).take j).length ≤ 256 ^ 7 := Nat.pow_le_pow_right (by omega) (by rw [List.length_take]; omega)
          have e : (256 : Nat) ^ 7 = 72057594037927936 := by decide
          omega
        have hs := val_step (y :: q) j (by omega)
        have Hs := Lib.hid hs
        generalize val ((y :: q).take j) = v at *
        generalize (y :: q)[j] = z at *
        have hzb : z.toNat < 256 := z.toNat_lt
        clear hs
        go_wp2
        rw [or_byte v z.toNat hb hzb]
        exact ⟨⟨j + 1, by omega, by go_num, by rw [Hs.out]⟩, by simp [intOf]; omega⟩
      · have hl := Hl.out
        have hjl : j = (y :: q).length := by omega
        have ht : val ((y :: q).take j) = val (y :: q) := by rw [hjl, List.take_length]
        have Ht := Lib.hid ht
        clear ht hjl hl
        go_wp2
        go_ret2
        exact ⟨grown_trans H2.out H4.out, .inl ⟨val (y :: q), _, hE.out, by rw [← Ht.out]; rfl, _, _, _, H3.out⟩⟩

theorem num_any (b : Nat) (l : List UInt8) (x : Bool) (w : World) (h : RdAt b l x w) :
    Calls Try.prog 26 #[.func (.func 33) #[.pointer (some ⟨b, 0, none⟩)] #[]] w (okNum b l x w) := by
  cases l with
  | nil => exact num_empty b x w h
  | cons k r =>
    by_cases hk : k.toNat ≤ 8
    · by_cases hr : k.toNat ≤ r.length
      · by_cases h0 : (r.take k.toNat).head? = some 0
        · exact num_zero b k r x w h hk hr h0
        · exact num_good b k r x w h hk hr h0
      · exact num_short b k r x w h hk (by omega)
    · exact num_big b k r x w h (by omega)

end Go.Proofs.Ytijjpnpjdnddoaa

/- How many sectors are free, and which are taken. -/
import Derived.Test.YtpeeoaogklkjlaaSpFind
import Derived.Test.YtpeeoaogklkjlaaSpRef
namespace Go.Proofs.Ytpeeoaogklkjlaa.sp
open Go Go.RowKit Go.Proofs.Ytpeeoaogklkjlaa.ib
set_option maxRecDepth 100000

/-- n are found; one more is at hand, or there is none. -/
def FrSt (w : World) (B0 B1 : Nat) (A : Option Addr) (c : Nat) (cs : List Int) (n : Nat) (i : Bool) (wr : World) : Prop :=
  Below w.heap.size w wr ∧ ((i = true ∧ ∃ k, FindAt w wr B0 B1 A c cs k ∧ (frees cs k).length = n + 1) ∨ (i = false ∧ n = sFree cs))
def FrRel (w : World) (B0 B1 : Nat) (A : Option Addr) (c : Nat) (cs : List Int) (v i : Value) (wr : World) : Prop :=
  ∃ (n : Nat) (b : Bool), v = .int .i64 (n : Int) ∧ i = .bool b ∧ FrSt w B0 B1 A c cs n b wr

theorem fr_of {w W W' : World} {B0 B1 : Nat} {A : Option Addr} {c : Nat} {cs : List Int} {k : Nat} {e : Ending} (h : FindAt w W B0 B1 A c cs k) (hp : FindPost w B0 B1 A c cs k W e W') : ∃ (x : Int) (b : Bool), e = .returned (.tuple #[.int .i64 x, .bool b]) ∧ FrSt w B0 B1 A c cs (frees cs k).length b W' := by
  obtain ⟨hb, ⟨t, ht, hf, rfl, hF⟩ | ⟨hs, rfl⟩⟩ := hp
  · exact ⟨_, _, rfl, hF.below, .inl ⟨rfl, t + 1, hF, by rw [hf, List.length_append]; rfl⟩⟩
  · exact ⟨_, _, rfl, h.below.trans (hb.below (fun i e => by rw [e]; have := h.low; have := h.lt; omega) h.below.size), .inr ⟨rfl, hs.symm⟩⟩

theorem frees_most {w w' : World} {B0 B1 : Nat} {A : Option Addr} {c : Nat} {cs : List Int} {k : Nat} (h : FindAt w w' B0 B1 A c cs k) : (frees cs k).length ≤ sFree cs := by
  rcases h.k2 with h1 | h1
  · obtain ⟨r, hr⟩ := frees_pre cs k cs.length h1
    unfold sFree
    rw [hr, List.length_append]
    omega
  · rw [h1, frees_low cs 193 (by omega)]
    exact Nat.zero_le _
theorem sFree_most (cs : List Int) : sFree cs ≤ cs.length := frees_len cs cs.length

set_option maxHeartbeats 3200000 in
theorem hFree : HFree := by
  intro A c cs w hp hl
  have HP := Lib.hid hp
  have HFI := Lib.hid (finder_any A c cs w w (Below.refl _ _))
  have hsm := sFree_most cs
  clear hp
  go_enter Try.func14, Try.ntmps14
  go_wp2_with fail
  refine HFI.out.mono ?_
  rintro e W1 ⟨rfl, hf, hb⟩
  have HF := Lib.hid hf
  clear hf hb HFI
  unfold fFind
  have hl0 := HF.out.low
  obtain ⟨B0, hB0⟩ : ∃ x, w.heap.size = x := ⟨_, rfl⟩
  rw [hB0] at HF hl0 ⊢
  go_wp2_with fail
  refine (find_any HF.out HP.out hl).mono ?_
  rintro e W2 hp
  obtain ⟨x, b, rfl, hs⟩ := fr_of HF.out hp
  rw [frees_low cs 193 (by omega)] at hs
  have HS := Lib.hid hs
  clear hp hs HF
  go_wp2_with fail
  go_loopw [3, 6] (fun v i wr => FrRel w B0 (B0 + 1) A c cs v i wr) (fun v _ _ => cs.length - (intOf v).toNat)
  case atStart => exact ⟨0, b, rfl, rfl, HS.out⟩
  case round =>
    clear HS
    obtain ⟨n, b, rfl, rfl, hb, h⟩ := hrel
    have HB := Lib.hid hb
    rcases h with ⟨rfl, k, hf, hk⟩ | ⟨rfl, rfl⟩
    · have hm := frees_most hf
      have HF := Lib.hid hf
      have HK := Lib.hid hk
      clear hf
      go_wp2_with fail
      refine (find_any HF.out HP.out hl).mono ?_
      rintro e W3 hp
      obtain ⟨x, b, rfl, hs⟩ := fr_of HF.out hp
      rw [HK.out] at hs
      have HS := Lib.hid hs
      clear hp hs HF
      go_wp2_with fail
      go_roundw
      case rel => exact ⟨n + 1, b, by go_num, rfl, HS.out⟩
      case measure => simp [intOf]; omega
    · go_wp2_with fail
      go_ret
      exact ⟨rfl, HB.out⟩
end Go.Proofs.Ytpeeoaogklkjlaa.sp

/- Plain facts on what WireBack lays and reads: numbers and texts by turns, as bytes, from the k-th pair on. -/
import Derived.Test.YtijjpnpjdnddoaaPure
namespace Go.Proofs.Ytijjpnpjdnddoaa
open Go

def cutB (t : ByteArray) : ByteArray := t.extract 0 (min (t.size : Int) 100).toNat
theorem cutB_size (t : ByteArray) : (cutB t).size ≤ 100 := by unfold cutB; simp; omega

def np (zs : List Nat) (k : Nat) : List UInt8 := if h : k < zs.length then numB zs[k] else []
def tp (ts : List ByteArray) (k : Nat) : List UInt8 := if h : k < ts.length then textB (bl (cutB ts[k])) else []

def seg (zs : List Nat) (ts : List ByteArray) : Nat → Nat → List UInt8
  | _, 0 => []
  | k, j + 1 => np zs k ++ (tp ts k ++ seg zs ts (k + 1) j)

theorem np_yes (zs : List Nat) (k : Nat) (h : k < zs.length) : np zs k = numB zs[k] := by simp [np, h]
theorem np_no (zs : List Nat) (k : Nat) (h : ¬ k < zs.length) : np zs k = [] := by simp [np, h]
theorem tp_yes (ts : List ByteArray) (k : Nat) (h : k < ts.length) : tp ts k = textB (bl (cutB ts[k])) := by simp [tp, h]
theorem tp_no (ts : List ByteArray) (k : Nat) (h : ¬ k < ts.length) : tp ts k = [] := by simp [tp, h]

theorem numB_le (n : Nat) : (numB n).length ≤ 9 := by have := digs_len n; simp [numB]; omega

theorem seg_len (zs : List Nat) (ts : List ByteArray) : ∀ j k, (seg zs ts k j).length ≤ 118 * j
  | 0, _ => by simp [seg]
  | j + 1, k => by
    have ih := seg_len zs ts j (k + 1)
    have h1 : (np zs k).length ≤ 9 := by
      unfold np; split
      · exact numB_le _
      · simp
    have h2 : (tp ts k).length ≤ 109 := by
      unfold tp; split
      · have a := numB_le (bl (cutB ts[k])).length
        have b := cutB_size ts[k]
        rw [← bl_len] at b
        simp [textB]; omega
      · simp
    simp [seg]; omega

theorem seg_step (zs : List Nat) (ts : List ByteArray) (k N : Nat) (h : k < N) : seg zs ts k (N - k) = np zs k ++ (tp ts k ++ seg zs ts (k + 1) (N - (k + 1))) := by
  have e : N - k = (N - (k + 1)) + 1 := by omega
  rw [e, seg]

theorem seg_end (zs : List Nat) (ts : List ByteArray) (N : Nat) : seg zs ts N (N - N) = [] := by rw [Nat.sub_self, seg]

theorem back_step (zs : List Nat) (ts : List ByteArray) (k N : Nat) (L T : List UInt8) (h : k < N) (hL : L ++ seg zs ts k (N - k) = T) :
    (L ++ (np zs k ++ tp ts k)) ++ seg zs ts (k + 1) (N - (k + 1)) = T := by
  rw [← hL, seg_step zs ts k N h]
  simp

theorem seg_num (zs : List Nat) (ts : List ByteArray) (k N : Nat) (h : k < N) (hk : k < zs.length) (hb : zs[k] < 18446744073709551616) :
    rdNum (seg zs ts k (N - k)) = some (zs[k], tp ts k ++ seg zs ts (k + 1) (N - (k + 1))) := by
  rw [seg_step zs ts k N h, np_yes zs k hk, rdNum_put _ hb]

theorem seg_text (ts : List ByteArray) (k : Nat) (r : List UInt8) (hk : k < ts.length) :
    rdText (tp ts k ++ r) = some (bl (cutB ts[k]), r) := by
  rw [tp_yes ts k hk]
  have := cutB_size ts[k]
  exact rdText_put _ (by rw [bl_len]; omega) r

end Go.Proofs.Ytijjpnpjdnddoaa

/- What put of the document's disk does. -/
import Derived.Test.YtbpkgfhhoejmcaaRkNew
import Derived.Deep.QuietTactic
import Derived.BigQuiet
namespace Go.Proofs.Ytbpkgfhhoejmcaa.dk
open Go Go.RowKit

def put8 (n : Nat) (room : Int) (gb cb gn cn : Nat) (u : Int) (v : Value) (fuse : Int) (on : Bool) : Array Value :=
  #[.int .i64 (n : Int), .int .i64 room, .slice (some ⟨gb, 0, none⟩) n cb, .slice (some ⟨gn, 0, none⟩) n cn, .int .i64 u, v, .int .i64 fuse, .bool on]

/-- One write, in a struct and a row. -/
def PutPost (n : Nat) (room : Int) (p gb cb gn cn : Nat) (s : Sects) (v : Value) (fuse : Int) (on : Bool) (w : World) (e : Ending) (w' : World) : Prop :=
  e = .returned (.tuple #[]) ∧ Blk w' p 49 (put8 n room gb cb gn cn (cnt s : Int) v fuse on) ∧ StrsB w' gn s ∧ But (fun j => j = p ∨ j = gn) w w'

theorem rput_any (w : World) (n : Nat) (room : Int) (p gb cb gn cn : Nat) (s : Sects) (v : Value) (fuse : Int) (on : Bool) (hb : Blk w p 49 (put8 n room gb cb gn cn (cnt s : Int) v fuse on)) (hs : StrsB w gn s)
    (k : Nat) (x : Bt) (hx : x.length = 32) (hk : k < n) (hsn : s.length = n) (hn : n ≤ 1024) (h32 : ∀ u, some u ∈ s → u.length = 32) :
    Calls Try.prog 42 #[.pointer (some ⟨p, 0, none⟩), .agg #[.int .i64 (k : Int), .string (str x)]] w (PutPost n room p gb cb gn cn (put s k x) v fuse on w) := by
  have hpn : p ≠ gn := by
    obtain ⟨e, hs⟩ := hs
    exact blk_type hb hs (by decide)
  have hc := hs.cell k (by omega)
  have he := sStr_some (look s (k : Int)) (fun u hu => h32 u (look_mem hu))
  have hcs := cnt_set_some s k x (by omega)
  obtain ⟨c0, c1, c2, c3, c4, c5, c6, c7⟩ := blk8 hb
  have f4 := hb.frozen 4
  have fk := hs.frozen k
  have hplt := hb.lt
  have hglt := hs.lt
  have HB := Lib.hid hb
  have HS := Lib.hid hs
  have hset := hs.set_ k (by omega) x
  have hcl : cnt s ≤ 1024 := by have := cnt_le s; omega
  generalize sStr (look s (k : Int)) = S at *
  have i0 : (0 : Int) ≤ (k : Int) := by omega
  have i1 : (k : Int) < (n : Int) := by omega
  clear hb hs h32
  by_cases h : (look s (k : Int)).isSome = true
  · rw [h] at he hcs
    simp only [Bool.not_true, if_true] at he hcs
    clear h
    go_enter Try.func42, Try.ntmps42
    go_wp2
    go_quiet (fail)
    go_wp2
    go_region
    go_end0
    have a1 : (w.alloc (.cells #[.int .i64 (k : Int), .string (str x)] 73)).heap.size = w.heap.size + 1 := by simp
    refine ⟨rfl, ?_, ?_, (((But.refl _ w).alloc _).drewN _).setCell _ _ (.inl (.inr rfl))⟩
    · rw [put, hcs]
      exact (HB.out.of_block (Below.heap_alloc w _ _ hplt)).of_block (set_other _ _ _ _ _ hpn)
    · exact StrsB.set_ (HS.out.of_block (Below.heap_alloc w _ _ hglt)) k (by omega) x
  · have h' : (look s (k : Int)).isSome = false := by simpa using h
    rw [h'] at he hcs
    simp only [Bool.not_false, Bool.false_eq_true, if_false] at he hcs
    clear h h'
    go_enter Try.func42, Try.ntmps42
    go_wp2
    go_quiet (fail)
    go_wp2
    go_region
    go_end0
    have b1 : Blk (((w.alloc (.cells #[.int .i64 (k : Int), .string (str x)] 73)).drewN nq).setCell ⟨p, 4, none⟩ (.int .i64 ((cnt s : Int) + 1))) p 49 (put8 n room gb cb gn cn ((cnt s : Int) + 1) v fuse on) :=
      Blk.set_ (HB.out.of_block (w' := (w.alloc (.cells #[.int .i64 (k : Int), .string (str x)] 73)).drewN nq) (Below.heap_alloc w _ _ hplt)) 4 _
    have s1 : StrsB (((w.alloc (.cells #[.int .i64 (k : Int), .string (str x)] 73)).drewN nq).setCell ⟨p, 4, none⟩ (.int .i64 ((cnt s : Int) + 1))) gn s :=
      (HS.out.of_block (w' := (w.alloc (.cells #[.int .i64 (k : Int), .string (str x)] 73)).drewN nq) (Below.heap_alloc w _ _ hglt)).of_block (set_other _ _ _ _ _ (fun e => hpn e.symm))
    refine ⟨rfl, ?_, ?_, ?_⟩
    · rw [put, hcs]
      exact b1.of_block (set_other _ _ _ _ _ hpn)
    · exact StrsB.set_ s1 k (by omega) x
    · exact But.setCell (But.drew ((((But.refl _ w).alloc _).drewN _).setCell _ _ (.inl (.inl rfl)))) _ _ (.inl (.inr rfl))
end Go.Proofs.Ytbpkgfhhoejmcaa.dk

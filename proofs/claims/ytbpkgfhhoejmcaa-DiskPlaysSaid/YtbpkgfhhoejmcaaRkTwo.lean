/- The program's disk and the document's one, side by side. -/
import Derived.Test.YtbpkgfhhoejmcaaRkFits
import Derived.Test.YtbpkgfhhoejmcaaRkWrite2
import Derived.Test.YtbpkgfhhoejmcaaDkFlush
namespace Go.Proofs.Ytbpkgfhhoejmcaa.dk
open Go Go.RowKit

/-- Disk p holds d, the document's disk r holds e; both lie behind block B, and apart. -/
def Both (most : Nat) (w : World) (B p r : Nat) (d e : DD) : Prop :=
  ∃ own own2, DkIs most w own p d ∧ RkIs most w own2 r e ∧ (∀ k, own k → ¬ own2 k) ∧ (∀ k, own k → B ≤ k) ∧ (∀ k, own2 k → B ≤ k)

def TwoPost (most B p r : Nat) (d e : DD) (v : Value) (w : World) (x : Ending) (w' : World) : Prop := x = .returned v ∧ Both most w' B p r d e ∧ Below B w w'
def TwoSee (most B p r : Nat) (d e : DD) (v : Value) (w : World) (x : Ending) (w' : World) : Prop := x = .returned v ∧ Both most w' B p r d e ∧ Below w.heap.size w w'

section
variable {most : Nat} {w w' : World} {B p r : Nat} {d e d' : DD}

theorem Both.below (h : Both most w B p r d e) (hb : Below w.heap.size w w') : Both most w' B p r d e := by
  obtain ⟨own, own2, h1, h2, h3⟩ := h
  exact ⟨own, own2, h1.below hb, h2.below hb, h3⟩

theorem Both.base {C : Nat} (h : Both most w B p r d e) (hC : C ≤ B) : Both most w C p r d e := by
  obtain ⟨own, own2, h1, h2, h3, h4, h5⟩ := h
  exact ⟨own, own2, h1, h2, h3, fun k hk => Nat.le_trans hC (h4 k hk), fun k hk => Nat.le_trans hC (h5 k hk)⟩

theorem Both.make {p r : Nat} {own own2 : Nat → Prop} {w1 : World} (h1 : DkIs most w1 own p d) (h2 : RkIs most w' own2 r e) (hb : Below w1.heap.size w1 w') (ho : ∀ k, own k → B ≤ k) (ho2 : ∀ k, own2 k → w1.heap.size ≤ k) (hB : B ≤ w1.heap.size) : Both most w' B p r d e :=
  ⟨own, own2, h1.below hb, h2, fun k hk hk2 => by have := h1.low k hk; have := ho2 k hk2; omega, ho, fun k hk => Nat.le_trans hB (ho2 k hk)⟩

theorem both_d {f : FuncId} {args : Array Value} {v : Value} (h : Both most w B p r d e) (hB : B ≤ w.heap.size) (hc : ∀ own, DkIs most w own p d → Calls Try.prog f args w (DkPost most own p d' v w)) : Calls Try.prog f args w (TwoPost most B p r d' e v w) := by
  obtain ⟨own, own2, h1, h2, h3, h4, h5⟩ := h
  refine (hc own h1).mono ?_
  rintro x w' ⟨rfl, own', g1, g2, g3⟩
  refine ⟨rfl, ⟨own', own2, g1, h2.but g2 (fun k hk hk2 => h3 k hk2 hk), fun k hk hk2 => ?_, fun k hk => ?_, h5⟩, g2.below h4 hB⟩
  · rcases g3 k hk with g | g
    · exact h3 k g hk2
    · have := h2.low k hk2
      omega
  · rcases g3 k hk with g | g
    · exact h4 k g
    · omega

theorem both_r {f : FuncId} {args : Array Value} {v : Value} (h : Both most w B p r d e) (hB : B ≤ w.heap.size) (hc : ∀ own, RkIs most w own r e → Calls Try.prog f args w (RkPost most own r d' v w)) : Calls Try.prog f args w (TwoPost most B p r d d' v w) := by
  obtain ⟨own, own2, h1, h2, h3, h4, h5⟩ := h
  refine (hc own2 h2).mono ?_
  rintro x w' ⟨rfl, own', g1, g2, g3⟩
  refine ⟨rfl, ⟨own, own', h1.but g2 (fun k hk hk2 => h3 k hk hk2), g1, fun k hk hk2 => ?_, h4, fun k hk => ?_⟩, g2.below h5 hB⟩
  · rcases g3 k hk2 with g | g
    · exact h3 k hk g
    · have := h1.low k hk
      omega
  · rcases g3 k hk with g | g
    · exact h5 k g
    · omega

theorem write_two (h : Both most w B p r d e) (hB : B ≤ w.heap.size) (hm : d.more.length < most) (hmost : most ≤ 100000) (k : Int) (s : ByteArray) (x : Bt) (hs : bl s = x) (v : Int) (h1 : (d.write k x).1 = v) (h2 : (d.write k x).2 = d') :
    Calls Try.prog 10 #[.pointer (some ⟨p, 0, none⟩), .int .i64 k, .string s] w (TwoPost most B p r d' e (.int .i64 v) w) := by
  subst hs h1 h2
  exact both_d h hB fun own hd => write_any hd hm hmost k s

theorem rwrite_two (h : Both most w B p r d e) (hB : B ≤ w.heap.size) (hm : e.more.length < most) (hmost : most ≤ 100000) (k : Int) (s : ByteArray) (x : Bt) (hs : bl s = x) (v : Int) (h1 : (e.write k x).1 = v) (h2 : (e.write k x).2 = d') :
    Calls Try.prog 28 #[.pointer (some ⟨r, 0, none⟩), .int .i64 k, .string s] w (TwoPost most B p r d d' (.int .i64 v) w) := by
  subst hs h1 h2
  exact both_r h hB fun own hd => rwrite_any hd hm hmost k s

theorem fits_two (h : Both most w B p r d e) (A : Option Addr) (n c : Nat) (zs : List Int) (hz : IntsAt w A zs) (hzl : zs.length ≤ 1000000) (hn : zs.length = n) (v : Bool) (h1 : d.fits zs = v) :
    Calls Try.prog 19 #[.pointer (some ⟨p, 0, none⟩), .slice A n c] w (TwoSee most B p r d e (.bool v) w) := by
  have h' := h
  obtain ⟨own, own2, hd, _⟩ := h
  subst h1 hn
  exact (fits_any hd A c zs hz hzl).mono fun e w' g => ⟨g.1, h'.below g.2, g.2⟩

theorem rfits_two (h : Both most w B p r d e) (A : Option Addr) (n c : Nat) (zs : List Int) (hz : IntsAt w A zs) (hzl : zs.length ≤ 1000000) (hn : zs.length = n) (v : Bool) (h1 : e.fits zs = v) :
    Calls Try.prog 37 #[.pointer (some ⟨r, 0, none⟩), .slice A n c] w (TwoSee most B p r d e (.bool v) w) := by
  have h' := h
  obtain ⟨own, own2, _, hd, _⟩ := h
  subst h1 hn
  exact (rfits_any hd A c zs hz hzl).mono fun e w' g => ⟨g.1, h'.below g.2, g.2⟩
end

theorem new_two (most n : Nat) (room : Int) (h0 : 1 ≤ n) (h1 : n ≤ 1024) (r0 : 0 ≤ room) (r1 : room ≤ 9223372036854775807) (w w1 : World) (p : Nat) (own : Nat → Prop) (hd : DkIs most w1 own p (DD.new n room)) (hb : Below w.heap.size w w1) (ho : ∀ k, own k → w.heap.size ≤ k) :
    Calls Try.prog 5 #[.int .i64 (n : Int), .int .i64 room] w1 fun x w2 => ∃ r, x = .returned (.pointer (some ⟨r, 0, none⟩)) ∧ Both most w2 w.heap.size p r (DD.new n room) (DD.new n room) ∧ Below w.heap.size w w2 := by
  refine (rnew_some most n room h0 h1 r0 r1 w1).mono ?_
  rintro x w2 ⟨r, own2, rfl, g1, g2, g3⟩
  exact ⟨r, rfl, Both.make hd g1 g2 ho g3 hb.size, below_step hb g2⟩
end Go.Proofs.Ytbpkgfhhoejmcaa.dk

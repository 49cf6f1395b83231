/- The program's disk and the document's one, side by side, beside other memory. -/
import Derived.Test.YtbpkgfhhoejmcaaRkTwo
import Derived.Test.YtbpkgfhhoejmcaaRkFlush
import Derived.Test.YtbpkgfhhoejmcaaRkWake
import Derived.Test.YtbpkgfhhoejmcaaDkInG
namespace Go.Proofs.Ytbpkgfhhoejmcaa.dk
open Go Go.RowKit

/-- As Both, within the blocks of G. -/
def BothG (most : Nat) (w : World) (G : Nat → Prop) (p r : Nat) (d e : DD) : Prop :=
  ∃ own own2, DkIs most w own p d ∧ RkIs most w own2 r e ∧ (∀ k, own k → ¬ own2 k) ∧ (∀ k, own k → G k) ∧ (∀ k, own2 k → G k)

def TwoG (most : Nat) (G : Nat → Prop) (p r : Nat) (d e : DD) (v : Value) (w : World) (x : Ending) (w' : World) : Prop := x = .returned v ∧ BothG most w' G p r d e ∧ But G w w'

section
variable {most : Nat} {w w' : World} {B p r : Nat} {d e d' : DD} {G : Nat → Prop}

theorem BothG.below (h : BothG most w G p r d e) (hb : Below w.heap.size w w') : BothG most w' G p r d e := by
  obtain ⟨own, own2, h1, h2, h3⟩ := h
  exact ⟨own, own2, h1.below hb, h2.below hb, h3⟩

theorem Both.toG (h : Both most w B p r d e) : BothG most w (fun k => B ≤ k ∧ k < w.heap.size) p r d e := by
  obtain ⟨own, own2, h1, h2, h3, h4, h5⟩ := h
  exact ⟨own, own2, h1, h2, h3, fun k hk => ⟨h4 k hk, h1.low k hk⟩, fun k hk => ⟨h5 k hk, h2.low k hk⟩⟩

theorem BothG.wide {G' : Nat → Prop} (h : BothG most w G p r d e) (hG : ∀ k, G k → G' k) : BothG most w G' p r d e := by
  obtain ⟨own, own2, h1, h2, h3, h4, h5⟩ := h
  exact ⟨own, own2, h1, h2, h3, fun k hk => hG k (h4 k hk), fun k hk => hG k (h5 k hk)⟩

theorem BothG.both (h : BothG most w G p r d e) (hG : ∀ k, G k → B ≤ k) : Both most w B p r d e := by
  obtain ⟨own, own2, h1, h2, h3, h4, h5⟩ := h
  exact ⟨own, own2, h1, h2, h3, fun k hk => hG k (h4 k hk), fun k hk => hG k (h5 k hk)⟩

theorem gboth_d {f : FuncId} {args : Array Value} {v : Value} (h : BothG most w G p r d e) (hG : ∀ k, w.heap.size ≤ k → G k) (hc : ∀ own, DkIs most w own p d → Calls Try.prog f args w (DkPost most own p d' v w)) : Calls Try.prog f args w (TwoG most G p r d' e v w) := by
  obtain ⟨own, own2, h1, h2, h3, h4, h5⟩ := h
  refine (hc own h1).mono ?_
  rintro x w' ⟨rfl, own', g1, g2, g3⟩
  refine ⟨rfl, ⟨own', own2, g1, h2.but g2 (fun k hk hk2 => h3 k hk2 hk), fun k hk hk2 => ?_, fun k hk => ?_, h5⟩, g2.mono h4⟩
  · rcases g3 k hk with g | g
    · exact h3 k g hk2
    · have := h2.low k hk2
      omega
  · rcases g3 k hk with g | g
    · exact h4 k g
    · exact hG k g

theorem gboth_r {f : FuncId} {args : Array Value} {v : Value} (h : BothG most w G p r d e) (hG : ∀ k, w.heap.size ≤ k → G k) (hc : ∀ own, RkIs most w own r e → Calls Try.prog f args w (RkPost most own r d' v w)) : Calls Try.prog f args w (TwoG most G p r d d' v w) := by
  obtain ⟨own, own2, h1, h2, h3, h4, h5⟩ := h
  refine (hc own2 h2).mono ?_
  rintro x w' ⟨rfl, own', g1, g2, g3⟩
  refine ⟨rfl, ⟨own, own', h1.but g2 (fun k hk hk2 => h3 k hk hk2), g1, fun k hk hk2 => ?_, h4, fun k hk => ?_⟩, g2.mono h5⟩
  · rcases g3 k hk2 with g | g
    · exact h3 k hk g
    · have := h1.low k hk
      omega
  · rcases g3 k hk with g | g
    · exact h5 k g
    · exact hG k g

theorem gwake_d (h : BothG most w G p r d e) (hG : ∀ k, w.heap.size ≤ k → G k) (hmost : most ≤ 100000) (A : Option Addr) (c : Nat) (bs : List Bool) (hb : BoolsAt w A bs) (hbo : ∀ b o, A = some ⟨b, o, none⟩ → 0 < bs.length → ¬ G b) :
    Calls Try.prog 9 #[.pointer (some ⟨p, 0, none⟩), .slice A bs.length c] w (TwoG most G p r (d.wake bs) e (.tuple #[]) w) := by
  have h' := h
  obtain ⟨own0, own2, h1, h2, h3, h4, h5⟩ := h'
  have key : Calls Try.prog 9 #[.pointer (some ⟨p, 0, none⟩), .slice A bs.length c] w (DkPost most own0 p (d.wake bs) (.tuple #[]) w) := by
    by_cases hon : d.on = true
    · exact wake_on h1 hon A bs.length c bs
    · exact wake_off h1 hmost (by simpa using hon) A c bs hb (fun b o hA hl hob => hbo b o hA hl (h4 b hob))
  refine key.mono ?_
  rintro x w' ⟨rfl, own', g1, g2, g3⟩
  refine ⟨rfl, ⟨own', own2, g1, h2.but g2 (fun k hk hk2 => h3 k hk2 hk), fun k hk hk2 => ?_, fun k hk => ?_, h5⟩, g2.mono h4⟩
  · rcases g3 k hk with g | g
    · exact h3 k g hk2
    · have := h2.low k hk2
      omega
  · rcases g3 k hk with g | g
    · exact h4 k g
    · exact hG k g

theorem gwake_r (h : BothG most w G p r d e) (hG : ∀ k, w.heap.size ≤ k → G k) (hmost : most ≤ 100000) (A : Option Addr) (c : Nat) (bs : List Bool) (hb : BoolsAt w A bs) (hbo : ∀ b o, A = some ⟨b, o, none⟩ → 0 < bs.length → ¬ G b) :
    Calls Try.prog 32 #[.pointer (some ⟨r, 0, none⟩), .slice A bs.length c] w (TwoG most G p r d (e.wake bs) (.tuple #[]) w) := by
  obtain ⟨own, own2, h1, h2, h3, h4, h5⟩ := h
  refine (rwake_any h2 hmost A bs.length c bs rfl hb (fun b o hA hl hob => hbo b o hA hl (h5 b hob))).mono ?_
  rintro x w' ⟨rfl, own', g1, g2, g3⟩
  refine ⟨rfl, ⟨own, own', h1.but g2 (fun k hk hk2 => h3 k hk hk2), g1, fun k hk hk2 => ?_, h4, fun k hk => ?_⟩, g2.mono h5⟩
  · rcases g3 k hk2 with g | g
    · exact h3 k hk g
    · have := h1.low k hk
      omega
  · rcases g3 k hk with g | g
    · exact h5 k g
    · exact hG k g
end
end Go.Proofs.Ytbpkgfhhoejmcaa.dk

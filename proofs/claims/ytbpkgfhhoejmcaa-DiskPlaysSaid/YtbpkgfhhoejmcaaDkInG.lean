/- A disk that a law has made, beside other memory of the law's. -/
import Derived.Test.YtbpkgfhhoejmcaaDkNil
namespace Go.Proofs.Ytbpkgfhhoejmcaa.dk
open Go Go.RowKit

/-- Its blocks are such as G lets. -/
def InG (most : Nat) (w : World) (G : Nat → Prop) (p : Nat) (d : DD) : Prop := ∃ own, DkIs most w own p d ∧ ∀ k, own k → G k

def PostG (most : Nat) (G : Nat → Prop) (p : Nat) (d : DD) (r : Value) (w : World) (e : Ending) (w' : World) : Prop := e = .returned r ∧ InG most w' G p d ∧ But G w w'
def SeeG (most : Nat) (G : Nat → Prop) (p : Nat) (d : DD) (r : Value) (w : World) (e : Ending) (w' : World) : Prop := e = .returned r ∧ InG most w' G p d ∧ Below w.heap.size w w'

theorem InG.below {most : Nat} {w w' : World} {G : Nat → Prop} {p : Nat} {d : DD} (h : InG most w G p d) (hb : Below w.heap.size w w') : InG most w' G p d := by
  obtain ⟨own, h1, h2⟩ := h
  exact ⟨own, h1.below hb, h2⟩
theorem InG.but {most : Nat} {w w' : World} {G S : Nat → Prop} {p : Nat} {d : DD} (h : InG most w G p d) (hb : But S w w') (hd : ∀ k, G k → ¬ S k) : InG most w' G p d := by
  obtain ⟨own, h1, h2⟩ := h
  exact ⟨own, h1.but hb (fun k hk => hd k (h2 k hk)), h2⟩
theorem InG.ok {most : Nat} {w : World} {G : Nat → Prop} {p : Nat} {d : DD} (h : InG most w G p d) : d.ok most := by
  obtain ⟨own, h1, h2⟩ := h
  exact h1.1
theorem In.inG {most : Nat} {w : World} {B p : Nat} {d : DD} (h : In most w B p d) (G : Nat → Prop) (hG : ∀ k, B ≤ k → k < w.heap.size → G k) : InG most w G p d := by
  obtain ⟨own, h1, h2⟩ := h
  exact ⟨own, h1, fun k hk => hG k (h2 k hk) (h1.low k hk)⟩

theorem g_of_post {most : Nat} {w : World} {G : Nat → Prop} {p : Nat} {d : DD} {own : Nat → Prop} {r : Value} (hG : ∀ k, w.heap.size ≤ k → G k) (ho : ∀ k, own k → G k) {e : Ending} {w' : World} (h : DkPost most own p d r w e w') : PostG most G p d r w e w' := by
  obtain ⟨rfl, own', h1, h2, h3⟩ := h
  refine ⟨rfl, ⟨own', h1, fun k hk => ?_⟩, h2.mono ho⟩
  rcases h3 k hk with h | h
  · exact ho k h
  · exact hG k h

section
variable {most : Nat} {w : World} {p : Nat} {G : Nat → Prop} {d : DD}

theorem write_g (h : InG most w G p d) (hG : ∀ k, w.heap.size ≤ k → G k) (hm : d.more.length < most) (hmost : most ≤ 100000) (k : Int) (s : ByteArray) (v : Bt) (hs : bl s = v) (r : Int) (d' : DD) (h1 : (d.write k v).1 = r) (h2 : (d.write k v).2 = d') :
    Calls Try.prog 10 #[.pointer (some ⟨p, 0, none⟩), .int .i64 k, .string s] w (PostG most G p d' (.int .i64 r) w) := by
  obtain ⟨own, hd, ho⟩ := h
  subst hs h1 h2
  exact (write_any hd hm hmost k s).mono fun _ _ h => g_of_post hG ho h

theorem flush_g (h : InG most w G p d) (hG : ∀ k, w.heap.size ≤ k → G k) (r : Int) (d' : DD) (h1 : d.flush.1 = r) (h2 : d.flush.2 = d') :
    Calls Try.prog 18 #[.pointer (some ⟨p, 0, none⟩)] w (PostG most G p d' (.int .i64 r) w) := by
  obtain ⟨own, hd, ho⟩ := h
  subst h1 h2
  exact (flush_any hd).mono fun _ _ h => g_of_post hG ho h

theorem off_g (h : InG most w G p d) (hG : ∀ k, w.heap.size ≤ k → G k) (d' : DD) (h2 : d.off = d') :
    Calls Try.prog 8 #[.pointer (some ⟨p, 0, none⟩)] w (PostG most G p d' (.tuple #[]) w) := by
  obtain ⟨own, hd, ho⟩ := h
  subst h2
  exact (off_any hd).mono fun _ _ h => g_of_post hG ho h

theorem arm_g (h : InG most w G p d) (hG : ∀ k, w.heap.size ≤ k → G k) (n : Int) (hn : n ≤ 9223372036854775807) (d' : DD) (h2 : d.arm n = d') :
    Calls Try.prog 20 #[.pointer (some ⟨p, 0, none⟩), .int .i64 n] w (PostG most G p d' (.tuple #[]) w) := by
  obtain ⟨own, hd, ho⟩ := h
  subst h2
  exact (arm_any hd n hn).mono fun _ _ h => g_of_post hG ho h

theorem room_g (h : InG most w G p d) (hG : ∀ k, w.heap.size ≤ k → G k) (n : Int) (hn : n ≤ 9223372036854775807) (d' : DD) (h2 : d.setRoom n = d') :
    Calls Try.prog 12 #[.pointer (some ⟨p, 0, none⟩), .int .i64 n] w (PostG most G p d' (.tuple #[]) w) := by
  obtain ⟨own, hd, ho⟩ := h
  subst h2
  exact (room_any hd n hn).mono fun _ _ h => g_of_post hG ho h

theorem wake_g (h : InG most w G p d) (hG : ∀ k, w.heap.size ≤ k → G k) (hmost : most ≤ 100000) (A : Option Addr) (n c : Nat) (bs : List Bool) (hn : bs.length = n) (hb : BoolsAt w A bs) (hbo : ∀ b o, A = some ⟨b, o, none⟩ → 0 < bs.length → ¬ G b) (d' : DD) (h2 : d.wake bs = d') :
    Calls Try.prog 9 #[.pointer (some ⟨p, 0, none⟩), .slice A n c] w (PostG most G p d' (.tuple #[]) w) := by
  obtain ⟨own, hd, ho⟩ := h
  subst h2 hn
  by_cases hon : d.on = true
  · exact (wake_on hd hon A bs.length c bs).mono fun _ _ h => g_of_post hG ho h
  · exact (wake_off hd hmost (by simpa using hon) A c bs hb (fun b o hA hl hob => hbo b o hA hl (ho b hob))).mono fun _ _ h => g_of_post hG ho h

theorem read_g (h : InG most w G p d) (k : Int) (v : Bt) (s : ByteArray) (hs : str v = s) (r : Int) (h1 : d.read k = (v, r)) :
    Calls Try.prog 17 #[.pointer (some ⟨p, 0, none⟩), .int .i64 k] w (SeeG most G p d (.tuple #[.string s, .int .i64 r]) w) := by
  obtain ⟨own, hd, ho⟩ := h
  have hI : In most w 0 p d := ⟨own, hd, fun _ _ => Nat.zero_le _⟩
  exact (read_in hI k v s hs r h1).mono fun e w' h => ⟨h.1, ⟨own, hd.below h.2.2, ho⟩, h.2.2⟩

theorem used_g (h : InG most w G p d) (r : Int) (h1 : (d.used : Int) = r) :
    Calls Try.prog 16 #[.pointer (some ⟨p, 0, none⟩)] w fun e w' => e = .returned (.int .i64 r) ∧ w = w' := by
  obtain ⟨own, ⟨h0, m, v, hd⟩, ho⟩ := h
  subst h1
  exact used_any hd
theorem len_g (h : InG most w G p d) (r : Int) (h1 : (d.n : Int) = r) :
    Calls Try.prog 36 #[.pointer (some ⟨p, 0, none⟩)] w fun e w' => e = .returned (.int .i64 r) ∧ w = w' := by
  obtain ⟨own, ⟨h0, m, v, hd⟩, ho⟩ := h
  subst h1
  exact len_any hd
theorem on_g (h : InG most w G p d) (r : Bool) (h1 : d.on = r) :
    Calls Try.prog 21 #[.pointer (some ⟨p, 0, none⟩)] w fun e w' => e = .returned (.bool r) ∧ w = w' := by
  obtain ⟨own, ⟨h0, m, v, hd⟩, ho⟩ := h
  subst h1
  exact on_any hd

theorem fits_g (h : InG most w G p d) (A : Option Addr) (n c : Nat) (zs : List Int) (hz : IntsAt w A zs) (hzl : zs.length ≤ 1000000) (hn : zs.length = n) (r : Bool) (h1 : d.fits zs = r) :
    Calls Try.prog 19 #[.pointer (some ⟨p, 0, none⟩), .slice A n c] w (SeeG most G p d (.bool r) w) := by
  obtain ⟨own, hd, ho⟩ := h
  subst h1 hn
  exact (fits_any hd A c zs hz hzl).mono fun e w' h => ⟨h.1, ⟨own, hd.below h.2, ho⟩, h.2⟩
end

end Go.Proofs.Ytbpkgfhhoejmcaa.dk

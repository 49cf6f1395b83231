/- A disk that a law has made: its calls, by their answers. -/
import Derived.Test.YtbpkgfhhoejmcaaDkWake
import Derived.Test.YtbpkgfhhoejmcaaDkData
namespace Go.Proofs.Ytbpkgfhhoejmcaa.dk
open Go Go.RowKit

/-- A disk that was made behind block B. -/
def In (most : Nat) (w : World) (B p : Nat) (d : DD) : Prop := ∃ own, DkIs most w own p d ∧ ∀ k, own k → B ≤ k

def InPost (most B p : Nat) (d : DD) (r : Value) (w : World) (e : Ending) (w' : World) : Prop := e = .returned r ∧ In most w' B p d ∧ Below B w w'
def SeePost (most B p : Nat) (d : DD) (r : Value) (w : World) (e : Ending) (w' : World) : Prop := e = .returned r ∧ In most w' B p d ∧ Below w.heap.size w w'

theorem In.below {most : Nat} {w w' : World} {B p : Nat} {d : DD} (h : In most w B p d) (hb : Below w.heap.size w w') : In most w' B p d := by
  obtain ⟨own, h1, h2⟩ := h
  exact ⟨own, h1.below hb, h2⟩
theorem In.ok {most : Nat} {w : World} {B p : Nat} {d : DD} (h : In most w B p d) : d.ok most := by
  obtain ⟨own, h1, h2⟩ := h
  exact h1.1
theorem In.mono {most most' : Nat} {w : World} {B p : Nat} {d : DD} (h : In most w B p d) (hm : most ≤ most') : In most' w B p d := by
  obtain ⟨own, ⟨h1, h3⟩, h2⟩ := h
  exact ⟨own, ⟨h1.mono hm, h3⟩, h2⟩
theorem In.lt {most : Nat} {w : World} {B p : Nat} {d : DD} (h : In most w B p d) : B ≤ p ∧ p < w.heap.size := by
  obtain ⟨own, ⟨_, m, v, h1⟩, h2⟩ := h
  exact ⟨h2 p h1.2.2.2.1, h1.1.lt⟩

theorem in_of_post {most : Nat} {w : World} {B p : Nat} {d : DD} {own : Nat → Prop} {r : Value} (hB : B ≤ w.heap.size) (ho : ∀ k, own k → B ≤ k) {e : Ending} {w' : World} (h : DkPost most own p d r w e w') : InPost most B p d r w e w' := by
  obtain ⟨rfl, own', h1, h2, h3⟩ := h
  refine ⟨rfl, ⟨own', h1, fun k hk => ?_⟩, h2.below ho hB⟩
  rcases h3 k hk with h | h
  · exact ho k h
  · omega

section
variable {most : Nat} {w : World} {B p : Nat} {d : DD}

theorem new_in (most n : Nat) (room : Int) (h0 : 1 ≤ n) (h1 : n ≤ 1024) (r0 : 0 ≤ room) (r1 : room ≤ 9223372036854775807) (w : World) :
    Calls Try.prog 4 #[.int .i64 (n : Int), .int .i64 room] w fun e w' => ∃ p, e = .returned (.pointer (some ⟨p, 0, none⟩)) ∧ In most w' w.heap.size p (DD.new n room) ∧ Below w.heap.size w w' := by
  refine (new_some most n room h0 h1 r0 r1 w).mono ?_
  rintro e w' ⟨p, own, rfl, h1, h2, h3⟩
  exact ⟨p, rfl, ⟨own, h1, h3⟩, h2⟩

theorem write_in (h : In most w B p d) (hB : B ≤ w.heap.size) (hm : d.more.length < most) (hmost : most ≤ 100000) (k : Int) (s : ByteArray) (v : Bt) (hs : bl s = v) (r : Int) (d' : DD) (h1 : (d.write k v).1 = r) (h2 : (d.write k v).2 = d') :
    Calls Try.prog 10 #[.pointer (some ⟨p, 0, none⟩), .int .i64 k, .string s] w (InPost most B p d' (.int .i64 r) w) := by
  obtain ⟨own, hd, ho⟩ := h
  subst hs h1 h2
  exact (write_any hd hm hmost k s).mono fun _ _ h => in_of_post hB ho h

theorem flush_in (h : In most w B p d) (hB : B ≤ w.heap.size) (r : Int) (d' : DD) (h1 : d.flush.1 = r) (h2 : d.flush.2 = d') :
    Calls Try.prog 18 #[.pointer (some ⟨p, 0, none⟩)] w (InPost most B p d' (.int .i64 r) w) := by
  obtain ⟨own, hd, ho⟩ := h
  subst h1 h2
  exact (flush_any hd).mono fun _ _ h => in_of_post hB ho h

theorem off_in (h : In most w B p d) (hB : B ≤ w.heap.size) (d' : DD) (h2 : d.off = d') :
    Calls Try.prog 8 #[.pointer (some ⟨p, 0, none⟩)] w (InPost most B p d' (.tuple #[]) w) := by
  obtain ⟨own, hd, ho⟩ := h
  subst h2
  exact (off_any hd).mono fun _ _ h => in_of_post hB ho h

theorem arm_in (h : In most w B p d) (hB : B ≤ w.heap.size) (n : Int) (hn : n ≤ 9223372036854775807) (d' : DD) (h2 : d.arm n = d') :
    Calls Try.prog 20 #[.pointer (some ⟨p, 0, none⟩), .int .i64 n] w (InPost most B p d' (.tuple #[]) w) := by
  obtain ⟨own, hd, ho⟩ := h
  subst h2
  exact (arm_any hd n hn).mono fun _ _ h => in_of_post hB ho h

theorem room_in (h : In most w B p d) (hB : B ≤ w.heap.size) (n : Int) (hn : n ≤ 9223372036854775807) (d' : DD) (h2 : d.setRoom n = d') :
    Calls Try.prog 12 #[.pointer (some ⟨p, 0, none⟩), .int .i64 n] w (InPost most B p d' (.tuple #[]) w) := by
  obtain ⟨own, hd, ho⟩ := h
  subst h2
  exact (room_any hd n hn).mono fun _ _ h => in_of_post hB ho h

theorem wake_in (h : In most w B p d) (hB : B ≤ w.heap.size) (hmost : most ≤ 100000) (A : Option Addr) (n c : Nat) (bs : List Bool) (hn : bs.length = n) (hb : BoolsAt w A bs) (hbo : (∀ b o, A = some ⟨b, o, none⟩ → b < B) ∨ (∀ own, DkIs most w own p d → ∀ b o, A = some ⟨b, o, none⟩ → ¬ own b)) (d' : DD) (h2 : d.wake bs = d') :
    Calls Try.prog 9 #[.pointer (some ⟨p, 0, none⟩), .slice A n c] w (InPost most B p d' (.tuple #[]) w) := by
  obtain ⟨own, hd, ho⟩ := h
  subst h2 hn
  by_cases hon : d.on = true
  · exact (wake_on hd hon A bs.length c bs).mono fun _ _ h => in_of_post hB ho h
  · refine (wake_off hd hmost (by simpa using hon) A c bs hb (fun b o hA _ hob => ?_)).mono fun _ _ h => in_of_post hB ho h
    rcases hbo with hbo | hbo
    · have := hbo b o hA
      have := ho b hob
      omega
    · exact hbo own hd b o hA hob

theorem read_in (h : In most w B p d) (k : Int) (v : Bt) (s : ByteArray) (hs : str v = s) (r : Int) (h1 : d.read k = (v, r)) :
    Calls Try.prog 17 #[.pointer (some ⟨p, 0, none⟩), .int .i64 k] w (SeePost most B p d (.tuple #[.string s, .int .i64 r]) w) := by
  have hI := h
  obtain ⟨own, hd, ho⟩ := h
  subst hs
  have key : Calls Try.prog 17 #[.pointer (some ⟨p, 0, none⟩), .int .i64 k] w (ReadPost (d.read k) w) := by
    obtain ⟨h0, m, v, h1⟩ := hd
    unfold DD.read
    by_cases hon : d.on = false
    · rw [if_pos hon]
      exact read_off h1 hon k
    · rw [if_neg hon]
      by_cases hh : d.has k = false
      · rw [if_pos hh]
        exact read_not h1 (by simpa using hon) k hh
      · rw [if_neg hh]
        exact read_is h0 h1 (by simpa using hon) k (by simpa using hh)
  rw [h1] at key
  exact key.mono fun e w' h => ⟨h.1, hI.below h.2, h.2⟩

theorem used_in (h : In most w B p d) (r : Int) (h1 : (d.used : Int) = r) :
    Calls Try.prog 16 #[.pointer (some ⟨p, 0, none⟩)] w fun e w' => e = .returned (.int .i64 r) ∧ w = w' := by
  obtain ⟨own, ⟨h0, m, v, hd⟩, ho⟩ := h
  subst h1
  exact used_any hd

theorem on_in (h : In most w B p d) (r : Bool) (h1 : d.on = r) :
    Calls Try.prog 21 #[.pointer (some ⟨p, 0, none⟩)] w fun e w' => e = .returned (.bool r) ∧ w = w' := by
  obtain ⟨own, ⟨h0, m, v, hd⟩, ho⟩ := h
  subst h1
  exact on_any hd

theorem fits_in (h : In most w B p d) (A : Option Addr) (n c : Nat) (zs : List Int) (hz : IntsAt w A zs) (hzl : zs.length ≤ 1000000) (hn : zs.length = n) (r : Bool) (h1 : d.fits zs = r) :
    Calls Try.prog 19 #[.pointer (some ⟨p, 0, none⟩), .slice A n c] w (SeePost most B p d (.bool r) w) := by
  have hI := h
  obtain ⟨own, hd, ho⟩ := h
  subst h1 hn
  exact (fits_any hd A c zs hz hzl).mono fun e w' h => ⟨h.1, hI.below h.2, h.2⟩

theorem data_in (h : In most w B p d) (c : UInt8) (n : Int) (hn : (c.toNat : Int) = n) (s : ByteArray) (hs : str (dat c) = s) :
    Calls Try.prog 11 #[.int .u8 n] w (SeePost most B p d (.string s) w) := by
  subst hs hn
  exact (data_any c w).mono fun e w' hh => ⟨hh.1, h.below hh.2, hh.2⟩
end

theorem ints_new (zs : List Int) (w : World) (hr : ∀ z ∈ zs, -9223372036854775808 ≤ z ∧ z ≤ 9223372036854775807) : IntsAt (w.alloc (.cells (zs.map (Value.int .i64)).toArray 3)) (some ⟨w.heap.size, 0, none⟩) zs := by
  intro i h
  refine ⟨w.heap.size, 0, rfl, by simp, ?_, hr _ (List.getElem_mem h)⟩
  rw [cell_of_row _ _ _ _ _ _ (heap_alloc_new w _)]
  simp [h]

theorem bools_new (bs : List Bool) (w : World) : BoolsAt (w.alloc (.cells (bs.map Value.bool).toArray 4)) (some ⟨w.heap.size, 0, none⟩) bs := by
  intro i h
  refine ⟨w.heap.size, 0, rfl, by simp, ?_⟩
  rw [cell_of_row _ _ _ _ _ _ (heap_alloc_new w _)]
  simp [h]

end Go.Proofs.Ytbpkgfhhoejmcaa.dk

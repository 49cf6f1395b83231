/- DkZero, DkIn, DkNil, DkInG, WiShelf, ShBuilder. -/
import Derived.Test.YtjllpbckmioiiaaDoorQ1
import Derived.Test.YtjllpbckmioiiaaDoorQ3
import Derived.Test.YtjllpbckmioiiaaDoorQ9
import Derived.LoopTactic
import Derived.Shelf.Strconv.Itoa0
import Derived.Test.YtjllpbckmioiiaaDoorProg
import Derived.Shelf.Strings.Builder1
/- What data of the statements does: a letter, 32 times; or too short. -/
namespace Go.Proofs.YtjllpbckmioiiaaDoor.dk
open Go Go.RowKit
set_option maxRecDepth 100000

theorem zeros_cells (z : Nat) : madeCells #[Value.int .u8 0] z = (Lib.byteCells (List.replicate z 0)).toArray := by
  apply Array.ext'
  apply List.ext_getElem?
  intro j
  by_cases hj : j < z <;> simp [madeCells, Lib.byteCells, hj, Nat.mod_one]

theorem make_zeros (e : Int) (z : Nat) (w : World) (he : e = (z : Int)) (hz : z ≤ 1000000) :
    (Instr.makeSlice 68 (.int .i64 e) (.int .i64 e)).run Tryd.prog w = .ok (.slice (some ⟨w.heap.size, 0, none⟩) z z) (w.alloc (.cells (Lib.byteCells (List.replicate z 0)).toArray 5)) := by
  subst he
  obtain ⟨i0, hi, hz0, hz1, hz2⟩ := info_parts Tryd.info5
  have hmk := run_make (P := Tryd.prog) w 68 5 i0 (.int .u8 0) Tryd.underlying68 hi hz0 .i64 .i64 (z : Int) (z : Int) (by omega) (by omega) (by rw [hz2]; omega) (by omega)
  rw [hz1] at hmk
  rw [← zeros_cells]
  simpa [Value.cells] using hmk

theorem exec_make32 {ρ : Operand → Value} {o : Oper} {w : World} (x y : Operand) (z : Nat) (ho : o.op = .makeSlice 68 x y) (hx : ρ x = .int .i64 (z : Int)) (hy : ρ y = .int .i64 (z : Int)) (hz : z ≤ 1000000) :
    (execOp ρ o).run Tryd.prog w = .ok (.value (.slice (some ⟨w.heap.size, 0, none⟩) z z)) (w.alloc (.cells (Lib.byteCells (List.replicate z 0)).toArray 5)) := by
  have hr := make_zeros (z : Int) z w rfl hz
  simp [execOp, ho, hx, hy, hr, Result.andThen]

theorem conv_part (P : Bt) (cs : Array Value) (b cap : Nat) (t : TypeId) (w : World) (h : w.heap[b]? = some (.cells cs t (0, 0))) (hc : ∀ (j : Nat) (u : Value), (Lib.byteCells P)[j]? = some u → cs[j]? = some u) :
    (convert 68 9 (.slice (some ⟨b, 0, none⟩) P.length cap)).run Tryd.prog w = .ok (.string (str P)) w := by
  refine run_convert_bytes_back (P := Tryd.prog) w 68 9 5 ⟨b, 0, none⟩ cap P Tryd.underlying68 Tryd.underlying5 Tryd.underlying9 ?_
  intro j hj
  rw [addr_add, Nat.zero_add, cell_of_row w b j _ _ _ h]
  exact hc j _ (by simp [Lib.byteCells, hj])

def okS (v : Bt) (w : World) (e : Ending) (w' : World) : Prop := e = .returned (.string (str v)) ∧ Below w.heap.size w w'

def part (c : UInt8) (k : Nat) : Array Value := (Lib.byteCells (List.replicate k c ++ List.replicate (32 - k) 0)).toArray

theorem part_zero (c : UInt8) : part c 0 = (Lib.byteCells (List.replicate 32 0)).toArray := rfl
theorem part_size (c : UInt8) (k : Nat) (h : k ≤ 32) : (part c k).size = 32 := by simp [part, Lib.byteCells]; omega
theorem part_set (c : UInt8) (k : Nat) (h : k < 32) : (part c k).setIfInBounds k (.int .u8 (c.toNat : Int)) = part c (k + 1) := by
  unfold part Lib.byteCells
  simp only [List.setIfInBounds_toArray, List.map_append, List.map_replicate]
  rw [List.set_append_right _ _ (by simp)]
  congr 1
  rw [show 32 - k = (32 - (k + 1)) + 1 by omega, List.replicate_succ, List.replicate_succ']
  simp
theorem rep_length (c : UInt8) (n : Nat) : (rep c n).length = n := by simp [rep]
theorem part_full (c : UInt8) : part c 32 = (Lib.byteCells (rep c 32)).toArray := by simp [part, rep]

end Go.Proofs.YtjllpbckmioiiaaDoor.dk

/- A disk that a law has made: its calls, by their answers. -/
namespace Go.Proofs.YtjllpbckmioiiaaDoor.dk
open Go Go.RowKit
set_option maxRecDepth 100000

/-- A disk that was made behind block B. -/
def In (most : Nat) (w : World) (B p : Nat) (d : DD) : Prop := ∃ own, DkIs most w own p d ∧ ∀ k, own k → B ≤ k

def InPost (most B p : Nat) (d : DD) (r : Value) (w : World) (e : Ending) (w' : World) : Prop := e = .returned r ∧ In most w' B p d ∧ Below B w w'
def SeePost (most B p : Nat) (d : DD) (r : Value) (w : World) (e : Ending) (w' : World) : Prop := e = .returned r ∧ In most w' B p d ∧ Below w.heap.size w w'

theorem In.below {most : Nat} {w w' : World} {B p : Nat} {d : DD} (h : In most w B p d) (hb : Below w.heap.size w w') : In most w' B p d := by
  obtain ⟨own, h1, h2⟩ := h
  exact ⟨own, h1.below hb, h2⟩
theorem In.ok {most : Nat} {w : World} {B p : Nat} {d : DD} (h : In most w B p d) : d.ok most := by
  obtain ⟨own, h1, h2⟩ := h
  exact h1.1
theorem In.mono {most most' : Nat} {w : World} {B p : Nat} {d : DD} (h : In most w B p d) (hm : most ≤ most') : In most' w B p d := by
  obtain ⟨own, ⟨h1, h3⟩, h2⟩ := h
  exact ⟨own, ⟨h1.mono hm, h3⟩, h2⟩
theorem In.lt {most : Nat} {w : World} {B p : Nat} {d : DD} (h : In most w B p d) : B ≤ p ∧ p < w.heap.size := by
  obtain ⟨own, ⟨_, m, v, h1⟩, h2⟩ := h
  exact ⟨h2 p h1.2.2.2.1, h1.1.lt⟩

theorem in_of_post {most : Nat} {w : World} {B p : Nat} {d : DD} {own : Nat → Prop} {r : Value} (hB : B ≤ w.heap.size) (ho : ∀ k, own k → B ≤ k) {e : Ending} {w' : World} (h : DkPost most own p d r w e w') : InPost most B p d r w e w' := by
  obtain ⟨rfl, own', h1, h2, h3⟩ := h
  refine ⟨rfl, ⟨own', h1, fun k hk => ?_⟩, h2.below ho hB⟩
  rcases h3 k hk with h | h
  · exact ho k h
  · omega

section
variable {most : Nat} {w : World} {B p : Nat} {d : DD}

theorem new_in (most n : Nat) (room : Int) (h0 : 1 ≤ n) (h1 : n ≤ 1024) (r0 : 0 ≤ room) (r1 : room ≤ 9223372036854775807) (w : World) :
    Calls Tryd.prog 22 #[.int .i64 (n : Int), .int .i64 room] w fun e w' => ∃ p, e = .returned (.pointer (some ⟨p, 0, none⟩)) ∧ In most w' w.heap.size p (DD.new n room) ∧ Below w.heap.size w w' := by
  refine (new_some most n room h0 h1 r0 r1 w).mono ?_
  rintro e w' ⟨p, own, rfl, h1, h2, h3⟩
  exact ⟨p, rfl, ⟨own, h1, h3⟩, h2⟩

theorem write_in (h : In most w B p d) (hB : B ≤ w.heap.size) (hm : d.more.length < most) (hmost : most ≤ 100000) (k : Int) (s : ByteArray) (v : Bt) (hs : bl s = v) (r : Int) (d' : DD) (h1 : (d.write k v).1 = r) (h2 : (d.write k v).2 = d') :
    Calls Tryd.prog 54 #[.pointer (some ⟨p, 0, none⟩), .int .i64 k, .string s] w (InPost most B p d' (.int .i64 r) w) := by
  obtain ⟨own, hd, ho⟩ := h
  subst hs h1 h2
  exact (write_any hd hm hmost k s).mono fun _ _ h => in_of_post hB ho h

theorem flush_in (h : In most w B p d) (hB : B ≤ w.heap.size) (r : Int) (d' : DD) (h1 : d.flush.1 = r) (h2 : d.flush.2 = d') :
    Calls Tryd.prog 55 #[.pointer (some ⟨p, 0, none⟩)] w (InPost most B p d' (.int .i64 r) w) := by
  obtain ⟨own, hd, ho⟩ := h
  subst h1 h2
  exact (flush_any hd).mono fun _ _ h => in_of_post hB ho h

theorem off_in (h : In most w B p d) (hB : B ≤ w.heap.size) (d' : DD) (h2 : d.off = d') :
    Calls Tryd.prog 25 #[.pointer (some ⟨p, 0, none⟩)] w (InPost most B p d' (.tuple #[]) w) := by
  obtain ⟨own, hd, ho⟩ := h
  subst h2
  exact (off_any hd).mono fun _ _ h => in_of_post hB ho h

theorem arm_in (h : In most w B p d) (hB : B ≤ w.heap.size) (n : Int) (hn : n ≤ 9223372036854775807) (d' : DD) (h2 : d.arm n = d') :
    Calls Tryd.prog 13 #[.pointer (some ⟨p, 0, none⟩), .int .i64 n] w (InPost most B p d' (.tuple #[]) w) := by
  obtain ⟨own, hd, ho⟩ := h
  subst h2
  exact (arm_any hd n hn).mono fun _ _ h => in_of_post hB ho h

theorem room_in (h : In most w B p d) (hB : B ≤ w.heap.size) (n : Int) (hn : n ≤ 9223372036854775807) (d' : DD) (h2 : d.setRoom n = d') :
    Calls Tryd.prog 18 #[.pointer (some ⟨p, 0, none⟩), .int .i64 n] w (InPost most B p d' (.tuple #[]) w) := by
  obtain ⟨own, hd, ho⟩ := h
  subst h2
  exact (room_any hd n hn).mono fun _ _ h => in_of_post hB ho h

theorem wake_in (h : In most w B p d) (hB : B ≤ w.heap.size) (hmost : most ≤ 100000) (A : Option Addr) (n c : Nat) (bs : List Bool) (hn : bs.length = n) (hb : BoolsAt w A bs) (hbo : (∀ b o, A = some ⟨b, o, none⟩ → b < B) ∨ (∀ own, DkIs most w own p d → ∀ b o, A = some ⟨b, o, none⟩ → ¬ own b)) (d' : DD) (h2 : d.wake bs = d') :
    Calls Tryd.prog 16 #[.pointer (some ⟨p, 0, none⟩), .slice A n c] w (InPost most B p d' (.tuple #[]) w) := by
  obtain ⟨own, hd, ho⟩ := h
  subst h2 hn
  by_cases hon : d.on = true
  · exact (wake_on hd hon A bs.length c bs).mono fun _ _ h => in_of_post hB ho h
  · refine (wake_off hd hmost (by simpa using hon) A c bs hb (fun b o hA _ hob => ?_)).mono fun _ _ h => in_of_post hB ho h
    rcases hbo with hbo | hbo
    · have := hbo b o hA
      have := ho b hob
      omega
    · exact hbo own hd b o hA hob

theorem read_in (h : In most w B p d) (k : Int) (v : Bt) (s : ByteArray) (hs : str v = s) (r : Int) (h1 : d.read k = (v, r)) :
    Calls Tryd.prog 20 #[.pointer (some ⟨p, 0, none⟩), .int .i64 k] w (SeePost most B p d (.tuple #[.string s, .int .i64 r]) w) := by
  have hI := h
  obtain ⟨own, hd, ho⟩ := h
  subst hs
  have key : Calls Tryd.prog 20 #[.pointer (some ⟨p, 0, none⟩), .int .i64 k] w (ReadPost (d.read k) w) := by
    obtain ⟨h0, m, v, h1⟩ := hd
    unfold DD.read
    by_cases hon : d.on = false
    · rw [if_pos hon]
      exact read_off h1 hon k
    · rw [if_neg hon]
      by_cases hh : d.has k = false
      · rw [if_pos hh]
        exact read_not h1 (by simpa using hon) k hh
      · rw [if_neg hh]
        exact read_is h0 h1 (by simpa using hon) k (by simpa using hh)
  rw [h1] at key
  exact key.mono fun e w' h => ⟨h.1, hI.below h.2, h.2⟩

theorem used_in (h : In most w B p d) (r : Int) (h1 : (d.used : Int) = r) :
    Calls Tryd.prog 21 #[.pointer (some ⟨p, 0, none⟩)] w fun e w' => e = .returned (.int .i64 r) ∧ w = w' := by
  obtain ⟨own, ⟨h0, m, v, hd⟩, ho⟩ := h
  subst h1
  exact used_any hd

theorem on_in (h : In most w B p d) (r : Bool) (h1 : d.on = r) :
    Calls Tryd.prog 14 #[.pointer (some ⟨p, 0, none⟩)] w fun e w' => e = .returned (.bool r) ∧ w = w' := by
  obtain ⟨own, ⟨h0, m, v, hd⟩, ho⟩ := h
  subst h1
  exact on_any hd

theorem fits_in (h : In most w B p d) (A : Option Addr) (n c : Nat) (zs : List Int) (hz : IntsAt w A zs) (hzl : zs.length ≤ 1000000) (hn : zs.length = n) (r : Bool) (h1 : d.fits zs = r) :
    Calls Tryd.prog 33 #[.pointer (some ⟨p, 0, none⟩), .slice A n c] w (SeePost most B p d (.bool r) w) := by
  have hI := h
  obtain ⟨own, hd, ho⟩ := h
  subst h1 hn
  exact (fits_any hd A c zs hz hzl).mono fun e w' h => ⟨h.1, hI.below h.2, h.2⟩
end

theorem ints_new (zs : List Int) (w : World) (hr : ∀ z ∈ zs, -9223372036854775808 ≤ z ∧ z ≤ 9223372036854775807) : IntsAt (w.alloc (.cells (zs.map (Value.int .i64)).toArray 3)) (some ⟨w.heap.size, 0, none⟩) zs := by
  intro i h
  refine ⟨w.heap.size, 0, rfl, by simp, ?_, hr _ (List.getElem_mem h)⟩
  rw [cell_of_row _ _ _ _ _ _ (heap_alloc_new w _)]
  simp [h]

theorem bools_new (bs : List Bool) (w : World) : BoolsAt (w.alloc (.cells (bs.map Value.bool).toArray 4)) (some ⟨w.heap.size, 0, none⟩) bs := by
  intro i h
  refine ⟨w.heap.size, 0, rfl, by simp, ?_⟩
  rw [cell_of_row _ _ _ _ _ _ (heap_alloc_new w _)]
  simp [h]

end Go.Proofs.YtjllpbckmioiiaaDoor.dk

/- The calls of a disk that is none. -/
namespace Go.Proofs.YtjllpbckmioiiaaDoor.dk
open Go Go.RowKit
set_option maxRecDepth 100000

theorem In.base {most : Nat} {w : World} {B B' p : Nat} {d : DD} (h : In most w B p d) (hB : B' ≤ B) : In most w B' p d := by
  obtain ⟨own, h1, h2⟩ := h
  exact ⟨own, h1, fun k hk => Nat.le_trans hB (h2 k hk)⟩

theorem nil_read (k : Int) (w : World) : Calls Tryd.prog 20 #[.pointer none, .int .i64 k] w fun e w' => e = .returned (.tuple #[.string ⟨#[]⟩, .int .i64 1]) ∧ w = w' := by
  go_enter Tryd.func20, Tryd.ntmps20
  go_wp2
  go_ret2
  exact ⟨rfl, rfl⟩
theorem nil_write (k : Int) (s : ByteArray) (w : World) : Calls Tryd.prog 54 #[.pointer none, .int .i64 k, .string s] w fun e w' => e = .returned (.int .i64 1) ∧ w = w' := by
  go_enter Tryd.func54, Tryd.ntmps54
  go_wp2
  go_ret
  exact ⟨rfl, rfl⟩
theorem nil_flush (w : World) : Calls Tryd.prog 55 #[.pointer none] w fun e w' => e = .returned (.int .i64 1) ∧ w = w' := by
  go_enter Tryd.func55, Tryd.ntmps55
  go_wp2
  go_ret
  exact ⟨rfl, rfl⟩
theorem nil_fits (A : Option Addr) (n c : Nat) (w : World) : Calls Tryd.prog 33 #[.pointer none, .slice A n c] w fun e w' => e = .returned (.bool false) ∧ w = w' := by
  go_enter Tryd.func33, Tryd.ntmps33
  go_wp2
  go_ret
  exact ⟨rfl, rfl⟩
theorem nil_used (w : World) : Calls Tryd.prog 21 #[.pointer none] w fun e w' => e = .returned (.int .i64 0) ∧ w = w' := by
  go_enter Tryd.func21, Tryd.ntmps21
  go_wp2
  go_ret
  exact ⟨rfl, rfl⟩
theorem nil_len (w : World) : Calls Tryd.prog 19 #[.pointer none] w fun e w' => e = .returned (.int .i64 0) ∧ w = w' := by
  go_enter Tryd.func19, Tryd.ntmps19
  go_wp2
  go_ret
  exact ⟨rfl, rfl⟩
theorem nil_on (w : World) : Calls Tryd.prog 14 #[.pointer none] w fun e w' => e = .returned (.bool false) ∧ w = w' := by
  go_enter Tryd.func14, Tryd.ntmps14
  go_wp2
  go_ret
  exact ⟨rfl, rfl⟩
theorem nil_copy (w : World) : Calls Tryd.prog 11 #[.pointer none] w fun e w' => e = .returned (.pointer none) ∧ w = w' := by
  go_enter Tryd.func11, Tryd.ntmps11
  go_wp2
  go_ret
  exact ⟨rfl, rfl⟩

end Go.Proofs.YtjllpbckmioiiaaDoor.dk

/- A disk that a law has made, beside other memory of the law's. -/
namespace Go.Proofs.YtjllpbckmioiiaaDoor.dk
open Go Go.RowKit
set_option maxRecDepth 100000

/-- Its blocks are such as G lets. -/
def InG (most : Nat) (w : World) (G : Nat → Prop) (p : Nat) (d : DD) : Prop := ∃ own, DkIs most w own p d ∧ ∀ k, own k → G k

def PostG (most : Nat) (G : Nat → Prop) (p : Nat) (d : DD) (r : Value) (w : World) (e : Ending) (w' : World) : Prop := e = .returned r ∧ InG most w' G p d ∧ But G w w'
def SeeG (most : Nat) (G : Nat → Prop) (p : Nat) (d : DD) (r : Value) (w : World) (e : Ending) (w' : World) : Prop := e = .returned r ∧ InG most w' G p d ∧ Below w.heap.size w w'

theorem InG.below {most : Nat} {w w' : World} {G : Nat → Prop} {p : Nat} {d : DD} (h : InG most w G p d) (hb : Below w.heap.size w w') : InG most w' G p d := by
  obtain ⟨own, h1, h2⟩ := h
  exact ⟨own, h1.below hb, h2⟩
theorem InG.but {most : Nat} {w w' : World} {G S : Nat → Prop} {p : Nat} {d : DD} (h : InG most w G p d) (hb : But S w w') (hd : ∀ k, G k → ¬ S k) : InG most w' G p d := by
  obtain ⟨own, h1, h2⟩ := h
  exact ⟨own, h1.but hb (fun k hk => hd k (h2 k hk)), h2⟩
theorem InG.ok {most : Nat} {w : World} {G : Nat → Prop} {p : Nat} {d : DD} (h : InG most w G p d) : d.ok most := by
  obtain ⟨own, h1, h2⟩ := h
  exact h1.1
theorem In.inG {most : Nat} {w : World} {B p : Nat} {d : DD} (h : In most w B p d) (G : Nat → Prop) (hG : ∀ k, B ≤ k → k < w.heap.size → G k) : InG most w G p d := by
  obtain ⟨own, h1, h2⟩ := h
  exact ⟨own, h1, fun k hk => hG k (h2 k hk) (h1.low k hk)⟩

theorem g_of_post {most : Nat} {w : World} {G : Nat → Prop} {p : Nat} {d : DD} {own : Nat → Prop} {r : Value} (hG : ∀ k, w.heap.size ≤ k → G k) (ho : ∀ k, own k → G k) {e : Ending} {w' : World} (h : DkPost most own p d r w e w') : PostG most G p d r w e w' := by
  obtain ⟨rfl, own', h1, h2, h3⟩ := h
  refine ⟨rfl, ⟨own', h1, fun k hk => ?_⟩, h2.mono ho⟩
  rcases h3 k hk with h | h
  · exact ho k h
  · exact hG k h

section
variable {most : Nat} {w : World} {p : Nat} {G : Nat → Prop} {d : DD}

theorem write_g (h : InG most w G p d) (hG : ∀ k, w.heap.size ≤ k → G k) (hm : d.more.length < most) (hmost : most ≤ 100000) (k : Int) (s : ByteArray) (v : Bt) (hs : bl s = v) (r : Int) (d' : DD) (h1 : (d.write k v).1 = r) (h2 : (d.write k v).2 = d') :
    Calls Tryd.prog 54 #[.pointer (some ⟨p, 0, none⟩), .int .i64 k, .string s] w (PostG most G p d' (.int .i64 r) w) := by
  obtain ⟨own, hd, ho⟩ := h
  subst hs h1 h2
  exact (write_any hd hm hmost k s).mono fun _ _ h => g_of_post hG ho h

theorem flush_g (h : InG most w G p d) (hG : ∀ k, w.heap.size ≤ k → G k) (r : Int) (d' : DD) (h1 : d.flush.1 = r) (h2 : d.flush.2 = d') :
    Calls Tryd.prog 55 #[.pointer (some ⟨p, 0, none⟩)] w (PostG most G p d' (.int .i64 r) w) := by
  obtain ⟨own, hd, ho⟩ := h
  subst h1 h2
  exact (flush_any hd).mono fun _ _ h => g_of_post hG ho h

theorem off_g (h : InG most w G p d) (hG : ∀ k, w.heap.size ≤ k → G k) (d' : DD) (h2 : d.off = d') :
    Calls Tryd.prog 25 #[.pointer (some ⟨p, 0, none⟩)] w (PostG most G p d' (.tuple #[]) w) := by
  obtain ⟨own, hd, ho⟩ := h
  subst h2
  exact (off_any hd).mono fun _ _ h => g_of_post hG ho h

theorem arm_g (h : InG most w G p d) (hG : ∀ k, w.heap.size ≤ k → G k) (n : Int) (hn : n ≤ 9223372036854775807) (d' : DD) (h2 : d.arm n = d') :
    Calls Tryd.prog 13 #[.pointer (some ⟨p, 0, none⟩), .int .i64 n] w (PostG most G p d' (.tuple #[]) w) := by
  obtain ⟨own, hd, ho⟩ := h
  subst h2
  exact (arm_any hd n hn).mono fun _ _ h => g_of_post hG ho h

theorem room_g (h : InG most w G p d) (hG : ∀ k, w.heap.size ≤ k → G k) (n : Int) (hn : n ≤ 9223372036854775807) (d' : DD) (h2 : d.setRoom n = d') :
    Calls Tryd.prog 18 #[.pointer (some ⟨p, 0, none⟩), .int .i64 n] w (PostG most G p d' (.tuple #[]) w) := by
  obtain ⟨own, hd, ho⟩ := h
  subst h2
  exact (room_any hd n hn).mono fun _ _ h => g_of_post hG ho h

theorem wake_g (h : InG most w G p d) (hG : ∀ k, w.heap.size ≤ k → G k) (hmost : most ≤ 100000) (A : Option Addr) (n c : Nat) (bs : List Bool) (hn : bs.length = n) (hb : BoolsAt w A bs) (hbo : ∀ b o, A = some ⟨b, o, none⟩ → 0 < bs.length → ¬ G b) (d' : DD) (h2 : d.wake bs = d') :
    Calls Tryd.prog 16 #[.pointer (some ⟨p, 0, none⟩), .slice A n c] w (PostG most G p d' (.tuple #[]) w) := by
  obtain ⟨own, hd, ho⟩ := h
  subst h2 hn
  by_cases hon : d.on = true
  · exact (wake_on hd hon A bs.length c bs).mono fun _ _ h => g_of_post hG ho h
  · exact (wake_off hd hmost (by simpa using hon) A c bs hb (fun b o hA hl hob => hbo b o hA hl (ho b hob))).mono fun _ _ h => g_of_post hG ho h

theorem read_g (h : InG most w G p d) (k : Int) (v : Bt) (s : ByteArray) (hs : str v = s) (r : Int) (h1 : d.read k = (v, r)) :
    Calls Tryd.prog 20 #[.pointer (some ⟨p, 0, none⟩), .int .i64 k] w (SeeG most G p d (.tuple #[.string s, .int .i64 r]) w) := by
  obtain ⟨own, hd, ho⟩ := h
  have hI : In most w 0 p d := ⟨own, hd, fun _ _ => Nat.zero_le _⟩
  exact (read_in hI k v s hs r h1).mono fun e w' h => ⟨h.1, ⟨own, hd.below h.2.2, ho⟩, h.2.2⟩

theorem used_g (h : InG most w G p d) (r : Int) (h1 : (d.used : Int) = r) :
    Calls Tryd.prog 21 #[.pointer (some ⟨p, 0, none⟩)] w fun e w' => e = .returned (.int .i64 r) ∧ w = w' := by
  obtain ⟨own, ⟨h0, m, v, hd⟩, ho⟩ := h
  subst h1
  exact used_any hd
theorem len_g (h : InG most w G p d) (r : Int) (h1 : (d.n : Int) = r) :
    Calls Tryd.prog 19 #[.pointer (some ⟨p, 0, none⟩)] w fun e w' => e = .returned (.int .i64 r) ∧ w = w' := by
  obtain ⟨own, ⟨h0, m, v, hd⟩, ho⟩ := h
  subst h1
  exact len_any hd
theorem on_g (h : InG most w G p d) (r : Bool) (h1 : d.on = r) :
    Calls Tryd.prog 14 #[.pointer (some ⟨p, 0, none⟩)] w fun e w' => e = .returned (.bool r) ∧ w = w' := by
  obtain ⟨own, ⟨h0, m, v, hd⟩, ho⟩ := h
  subst h1
  exact on_any hd

theorem fits_g (h : InG most w G p d) (A : Option Addr) (n c : Nat) (zs : List Int) (hz : IntsAt w A zs) (hzl : zs.length ≤ 1000000) (hn : zs.length = n) (r : Bool) (h1 : d.fits zs = r) :
    Calls Tryd.prog 33 #[.pointer (some ⟨p, 0, none⟩), .slice A n c] w (SeeG most G p d (.bool r) w) := by
  obtain ⟨own, hd, ho⟩ := h
  subst h1 hn
  exact (fits_any hd A c zs hz hzl).mono fun e w' h => ⟨h.1, ⟨own, hd.below h.2, ho⟩, h.2⟩
end

end Go.Proofs.YtjllpbckmioiiaaDoor.dk

/- The library's contracts for bits.Len64, laid at this program's numbers. -/
namespace Go.Proofs
open Go.Shelf
set_option maxRecDepth 100000
def Tryd.lays129_ren : Go.Shelf.Ren := ⟨fun | 129 => 90 | n => n, fun | 53 => 92 | 3 => 3 | 4 => 4 | 46 => 114 | 5 => 5 | 9 => 9 | n => n, fun | n => n⟩
theorem Tryd.lays129 : Go.Proofs.Lays.n129 Tryd.prog Tryd.lays129_ren := {
  mixed := by kernel_rfl
  f129 := Tryd.func90.trans (congrArg some (by kernel_rfl))
  t3 := Tryd.underlying3
  a3 := Tryd.isAgg3
  z3 := Tryd.sizeOf3
  v3 := Tryd.zeroValue3
  t4 := Tryd.underlying4
  a4 := Tryd.isAgg4
  z4 := Tryd.sizeOf4
  v4 := Tryd.zeroValue4
  t5 := Tryd.underlying5
  a5 := Tryd.isAgg5
  z5 := Tryd.sizeOf5
  v5 := Tryd.zeroValue5
  t9 := Tryd.underlying9
  a9 := Tryd.isAgg9
  z9 := Tryd.sizeOf9
  v9 := Tryd.zeroValue9
  t46 := Tryd.underlying114
  a46 := Tryd.isAgg114
  z46 := Tryd.sizeOf114
  v46 := Tryd.zeroValue114
  t53 := Tryd.underlying92
  a53 := Tryd.isAgg92
  z53 := Tryd.sizeOf92
  v53 := Tryd.zeroValue92 }
theorem Tryd.bits_Len64 (x : Int) (w : World) (h0 : 0 ≤ x) (h1 : x ≤ 18446744073709551615) :
    Calls Tryd.prog 90 #[.int .u64 x] w fun e w' => e = .returned (.int .i64 (Lib.bitLen x.toNat)) ∧ w' = w := Any.bits_Len64 Tryd.lays129 x w h0 h1
end Go.Proofs

/- The library's contracts for strings.Builder's WriteString and String, laid at this program's numbers. -/
namespace Go.Proofs
open Go.Shelf
set_option maxRecDepth 100000
def Tryd.lays166_ren : Go.Shelf.Ren := ⟨fun | 166 => 64 | 240 => 81 | 276 => 89 | n => n, fun | 0 => 0 | 3 => 3 | 4 => 4 | 9 => 9 | 20 => 20 | 37 => 68 | 70 => 117 | 72 => 119 | 75 => 121 | 164 => 145 | 5 => 5 | 80 => 124 | n => n, fun | n => n⟩
theorem Tryd.lays166 : Go.Proofs.Lays.n166 Tryd.prog Tryd.lays166_ren := {
  mixed := by kernel_rfl
  f166 := Tryd.func64.trans (congrArg some (by kernel_rfl))
  f240 := Tryd.func81.trans (congrArg some (by kernel_rfl))
  f276 := Tryd.func89.trans (congrArg some (by kernel_rfl))
  t0 := Tryd.underlying0
  a0 := Tryd.isAgg0
  z0 := Tryd.sizeOf0
  v0 := Tryd.zeroValue0
  t3 := Tryd.underlying3
  a3 := Tryd.isAgg3
  z3 := Tryd.sizeOf3
  v3 := Tryd.zeroValue3
  t4 := Tryd.underlying4
  a4 := Tryd.isAgg4
  z4 := Tryd.sizeOf4
  v4 := Tryd.zeroValue4
  t9 := Tryd.underlying9
  a9 := Tryd.isAgg9
  z9 := Tryd.sizeOf9
  v9 := Tryd.zeroValue9
  t20 := Tryd.underlying20
  a20 := Tryd.isAgg20
  z20 := Tryd.sizeOf20
  v20 := Tryd.zeroValue20
  t37 := Tryd.underlying68
  a37 := Tryd.isAgg68
  z37 := Tryd.sizeOf68
  v37 := Tryd.zeroValue68
  t70 := Tryd.underlying117
  a70 := Tryd.isAgg117
  z70 := Tryd.sizeOf117
  v70 := Tryd.zeroValue117
  t72 := Tryd.underlying119
  a72 := Tryd.isAgg119
  z72 := Tryd.sizeOf119
  v72 := Tryd.zeroValue119
  t75 := Tryd.underlying121
  a75 := Tryd.isAgg121
  z75 := Tryd.sizeOf121
  v75 := Tryd.zeroValue121
  t164 := Tryd.underlying145
  a164 := Tryd.isAgg145
  z164 := Tryd.sizeOf145
  v164 := Tryd.zeroValue145 }
theorem Tryd.Builder_Extra_166 : Builder.Extra Tryd.prog Tryd.lays166_ren := {
  sizeBuilder := by kernel_rfl
  liesBuilder := by kernel_rfl
  t5 := Tryd.underlying5
  a5 := Tryd.isAgg5
  z5 := Tryd.sizeOf5
  v5 := Tryd.zeroValue5
  infoByte := by kernel_rfl
  cellsByte := by kernel_rfl
  sizeByte := by kernel_rfl
  neB5 := by decide }
open Go.RowKit in
theorem Tryd.Builder_WriteString (B b : Nat) (bs : List Value) (s : ByteArray) (w : World) (h : Lib.IsBuilder 119 5 B b bs w) (hlen : bs.length + s.size ≤ 140737488355328) (hBw : B ≤ w.heap.size) :
    Calls Tryd.prog 64 #[.pointer (some ⟨b, 0, none⟩), .string s] w fun e w' => e = .returned (.tuple #[.int .i64 s.size, .nilIface]) ∧ (Lib.BuilderAt 119 5 B b (.pointer (some ⟨b, 0, none⟩)) (bs ++ Lib.strCells s) w' ∧ Below B w w') := Any.Builder_WriteString Tryd.lays166 Tryd.Builder_Extra_166 B b bs s w h hlen hBw
def Tryd.lays169_ren : Go.Shelf.Ren := ⟨fun | 169 => 65 | n => n, fun | 70 => 117 | 9 => 9 | 0 => 0 | 72 => 119 | 37 => 68 | 127 => 137 | 3 => 3 | 5 => 5 | n => n, fun | n => n⟩
theorem Tryd.lays169 : Go.Proofs.Lays.n169 Tryd.prog Tryd.lays169_ren := {
  mixed := by kernel_rfl
  f169 := Tryd.func65.trans (congrArg some (by kernel_rfl))
  t0 := Tryd.underlying0
  a0 := Tryd.isAgg0
  z0 := Tryd.sizeOf0
  v0 := Tryd.zeroValue0
  t3 := Tryd.underlying3
  a3 := Tryd.isAgg3
  z3 := Tryd.sizeOf3
  v3 := Tryd.zeroValue3
  t9 := Tryd.underlying9
  a9 := Tryd.isAgg9
  z9 := Tryd.sizeOf9
  v9 := Tryd.zeroValue9
  t37 := Tryd.underlying68
  a37 := Tryd.isAgg68
  z37 := Tryd.sizeOf68
  v37 := Tryd.zeroValue68
  t70 := Tryd.underlying117
  a70 := Tryd.isAgg117
  z70 := Tryd.sizeOf117
  v70 := Tryd.zeroValue117
  t72 := Tryd.underlying119
  a72 := Tryd.isAgg119
  z72 := Tryd.sizeOf119
  v72 := Tryd.zeroValue119
  t127 := Tryd.underlying137
  a127 := Tryd.isAgg137
  z127 := Tryd.sizeOf137
  v127 := Tryd.zeroValue137 }
theorem Tryd.Builder_Extra_169 : Builder.Extra Tryd.prog Tryd.lays169_ren := {
  sizeBuilder := by kernel_rfl
  liesBuilder := by kernel_rfl
  t5 := Tryd.underlying5
  a5 := Tryd.isAgg5
  z5 := Tryd.sizeOf5
  v5 := Tryd.zeroValue5
  infoByte := by kernel_rfl
  cellsByte := by kernel_rfl
  sizeByte := by kernel_rfl
  neB5 := by decide }
open Go.RowKit in
theorem Tryd.Builder_String_any (B b : Nat) (l : List UInt8) (w : World) (h : Lib.IsBuilder 119 5 B b (Lib.byteCells l) w) (hBw : B ≤ w.heap.size) :
    Calls Tryd.prog 65 #[.pointer (some ⟨b, 0, none⟩)] w fun e w' => e = .returned (.string ⟨l.toArray⟩) ∧ Below B w w' := Any.Builder_String_any Tryd.lays169 Tryd.Builder_Extra_169 B b l w h hBw
end Go.Proofs


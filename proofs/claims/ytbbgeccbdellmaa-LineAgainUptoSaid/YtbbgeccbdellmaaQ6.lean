/- LnIs, SlcG, LnArgs. -/
import Derived.Test.YtbbgeccbdellmaaQ0
import Derived.Test.YtbbgeccbdellmaaQ1
import Derived.Test.YtbbgeccbdellmaaQ3
import Derived.Test.YtbbgeccbdellmaaQ4
import Derived.Test.YtbbgeccbdellmaaQ5
import Derived.Deep.Slices
import Derived.Deep.Fields
import Derived.ChangeSame
import Derived.OpenShut
import Derived.SizedLaws
import Derived.Deep.SlicePairs
import Derived.ChangeSlices
set_option linter.unusedVariables false
set_option linter.unusedSimpArgs false
/- What calls on lines answer, said of an answer that has a name. -/
namespace Go.Proofs.Ytbbgeccbdellmaa.ln
open Go Go.RowKit Go.Sort Go.Proofs.Ytbbgeccbdellmaa.ib Go.Proofs.Ytbbgeccbdellmaa.lg
set_option maxRecDepth 100000

section
variable {v u : Value} {L M R : Ln} {w : World} {A : Option Addr} {c n : Nat} {l : List Gd} {r : Bool} {k : Int}
theorem rmerge_is (hR : lMerge L M = R) (hv : LnL w v L) (hu : LnL w u M) (hz : szL L) (hy : szL M) : Calls Try.prog 16 #[v, u] w (endLn R w) := by
  rw [← hR]
  exact rmerge_any v u L M w hv hu hz hy
theorem rcommon_is (hR : common l L.gs = n) (hA : GdL w A l c) (hv : LnL w v L) (hl : l.length ≤ 9223372036854775807) (hm : L.gs.length ≤ 9223372036854775807) :
    Calls Try.prog 18 #[.slice A l.length c, v] w (endI ((n : Nat) : Int) w) := by
  rw [← hR]
  exact rcommon_any A c l v L w hA.gds hv.at hl hm
theorem rstays_is (hR : stays l L = n) (hA : GdL w A l c) (hv : LnL w v L) (hl : l.length ≤ 9223372036854775807) (hm : L.gs.length ≤ 9223372036854775807) :
    Calls Try.prog 20 #[.slice A l.length c, v] w (endI ((n : Nat) : Int) w) := by
  rw [← hR]
  exact rstays_any A c l v L w hA.gds hv.at hl hm
theorem same_is (hR : decide (L = M) = r) (hv : LnL w v L) (hu : LnL w u M) (hl : L.gs.length ≤ 9223372036854775807) (hm : M.gs.length ≤ 9223372036854775807) :
    Calls Try.prog 12 #[v, u] w (endB r w) := by
  rw [← hR]
  exact same_any v u L M w hv.at hu.at hl hm
theorem rsame_is (hR : decide (L = M) = r) (hv : LnL w v L) (hu : LnL w u M) (hl : L.gs.length ≤ 9223372036854775807) (hm : M.gs.length ≤ 9223372036854775807) :
    Calls Try.prog 13 #[v, u] w (endB r w) := by
  rw [← hR]
  exact rsame_any v u L M w hv.at hu.at hl hm
theorem check_is (hR : nCheck L = k) (hv : LnL w v L) (hl : L.gs.length ≤ 9223372036854775807) : Calls Try.prog 10 #[v] w (endI k w) := by
  rw [← hR]
  exact check_any v L w hv.at hl
theorem rcheck_is (hR : nCheck L = k) (hv : LnL w v L) : Calls Try.prog 11 #[v] w (endI k w) := by
  rw [← hR]
  exact rcheck_any v L w hv.at
theorem lnL_agg {A : Option Addr} {c : Nat} (h : GdL w A L.gs c) : LnL w (.agg #[.int .u64 (L.ep : Int), .int .i64 L.bf, .bool L.ls, .slice A L.gs.length c]) L := ⟨A, c, rfl, h⟩
end
end Go.Proofs.Ytbbgeccbdellmaa.ln

/- A slice of structs, opened at every index: its cells, what each field's cells are. Nothing here speaks of the program. -/
namespace Go.Proofs.Ytbbgeccbdellmaa
open Go Go.ChangeShapes Go.WideShapes Go.Deep
set_option maxRecDepth 100000

theorem open_slice_wide {H : Type} {enc : TypeId × Value → H} {P : Program} {w : World} {base : Nat} {spare : Nat → Bool} {held : Bool} {t e : TypeId} {fs : Array Field} {fuel : Nat} {cs : List Value} {x : DataW H × List MemPlace}
    (ht : P.underlying t = some (.slice e)) (he : P.underlying e = some (.struct fs))
    (h : DataW.trod enc P w base spare held fuel t cs = some x) :
    (cs = [.slice none 0 0] ∧ x = (.nil, [])) ∨
    ∃ (a : Addr) (len cap m : Nat), cs = [.slice (some a) len cap] ∧ base ≤ a.block ∧ len ≤ cap ∧ cap ≤ maxLen ∧ m = (if spare a.block then cap else len) ∧
      ∀ i, i < m → ∃ cs' : List Value, cs'.length = P.cellsOf e ∧ (∀ k (hk : k < cs'.length), w.cell? (a.add (i * P.cellsOf e + k)) = some cs'[k]) ∧
        ∀ (k : Nat) (f : Field), fs[k]? = some f → ∃ y n, DataW.trod enc P w base spare held n f.type ((cs'.drop f.offset).take (P.cellsOf f.type)) = some y := by
  rcases open_slice ht h with h0 | ⟨a, len, cap, m, n, D, Pl, rfl, hb, hl, hm, hmm, rfl, hx⟩
  · exact Or.inl h0
  right
  refine ⟨a, len, cap, m, rfl, hb, hl, hm, hmm, fun i hi => ?_⟩
  obtain ⟨cs', h1, h2⟩ := hx i hi
  obtain ⟨_, hlen, hcell⟩ := World.cells?_some h1
  obtain ⟨xs, n', _, _, _, hxl, hf⟩ := DataW.trod_struct he h2
  refine ⟨cs', hlen, fun k hk => ?_, fun k f hk => ?_⟩
  · have hcl := hcell k (by omega)
    rw [add_add, List.getElem?_eq_getElem hk] at hcl
    exact hcl
  · have hlt : k < fs.size := (Array.getElem?_eq_some_iff.1 hk).1
    exact ⟨xs[k]'(by omega), n', (hf k f hk).trans (List.getElem?_eq_getElem (by omega))⟩
end Go.Proofs.Ytbbgeccbdellmaa

/- What comes in for the statements on lines: lists of guids, lines by value. -/
namespace Go.Proofs.Ytbbgeccbdellmaa.ln
open Go Go.RowKit Go.ChangeShapes Go.WideShapes Go.Deep Go.Proofs.Ytbbgeccbdellmaa Go.Proofs.Ytbbgeccbdellmaa.ib Go.Proofs.Ytbbgeccbdellmaa.lg
set_option maxRecDepth 100000

theorem u64_of {x : Int} (h : (Lit.int .u64 x).wf = true) : ∃ c : Nat, x = (c : Int) := by
  have hb := bounds_u64 h
  exact ⟨x.toNat, by omega⟩
/-- How long a slice's datum is. -/
def gdSz {H : Type} (d : DataW H) (n : Nat) : Prop := n = 0 ∨ ∃ el sp, d = .slice el sp ∧ n ≤ el.length
section
variable {H : Type} {enc : TypeId × Value → H} {w : World} {held : Bool} {d : DataW H} {pl : List MemPlace} {a : Option Addr} {l c : Nat}
theorem gdv_cells {n : Nat} {v0 v1 : Value} {y : DataW H × List MemPlace} (h : DataW.trod enc Try.prog w 0 (fun _ => true) held n 34 [v0, v1] = some y) : ∃ g : Gd, v0 = .int .u64 (g.1 : Int) ∧ v1 = .int .u64 (g.2 : Int) := by
  obtain ⟨xs, m, _, _, _, hl, hi⟩ := DataW.trod_struct Try.underlying34 h
  match xs, hl with
  | [x0, x1], _ =>
    have c1 : Try.prog.cellsOf 22 = 1 := by kernel_rfl
    have g0 := hi 0 _ rfl
    have g1 := hi 1 _ rfl
    simp [c1] at g0 g1
    obtain ⟨k0, h0, _, b0⟩ := DataW.trod_int Try.underlying22 g0
    obtain ⟨k1, h1, _, b1⟩ := DataW.trod_int Try.underlying22 g1
    obtain ⟨c0, rfl⟩ := u64_of b0
    obtain ⟨c1, rfl⟩ := u64_of b1
    obtain rfl : v0 = _ := by simpa using h0
    obtain rfl : v1 = _ := by simpa using h1
    exact ⟨(c0, c1), rfl, rfl⟩
theorem gdl_cells {n : Nat} {v : Value} {y : DataW H × List MemPlace} (h : DataW.trod enc Try.prog w 0 (fun _ => true) held n 23 [v] = some y) :
    ∃ (A : Option Addr) (xs : List Gd) (c : Nat), v = .slice A xs.length c ∧ GdL w A xs c ∧ gdSz y.1 xs.length := by
  have cu : Try.prog.cellsOf 22 = 1 := by kernel_rfl
  have cg : Try.prog.cellsOf 34 = 2 := by kernel_rfl
  rcases open_slice Try.underlying23 h with ⟨hcs, _⟩ | ⟨x, l', c', m, nn, D, Pl, hcs, _, hl, hm, hmm, rfl, hi⟩
  · simp at hcs
    subst hcs
    exact ⟨none, [], 0, rfl, GdL.none _, .inl rfl⟩
  · simp at hcs
    subst hcs
    simp only [if_true] at hmm
    subst hmm
    obtain ⟨zs, hzl, hz⟩ := choose_list (p := fun i (z : Gd) => w.cell? (x.add (i * 2)) = some (.int .u64 (z.1 : Int)) ∧ w.cell? (x.add (i * 2 + 1)) = some (.int .u64 (z.2 : Int))) l' (fun i hil => by
      obtain ⟨cs', h1, h2⟩ := hi i (by omega)
      obtain ⟨_, hlen, hcell⟩ := World.cells?_some h1
      rw [cg] at hlen
      match cs', hlen with
      | [u0, u1], _ =>
        obtain ⟨g, rfl, rfl⟩ := gdv_cells h2
        have k0 := hcell 0 (by omega)
        have k1 := hcell 1 (by omega)
        rw [add_add, cg] at k0 k1
        simp only [List.getElem?_cons_zero, List.getElem?_cons_succ, Nat.add_zero] at k0 k1
        exact ⟨g, k0, k1⟩)
    subst hzl
    refine ⟨some x, zs, _, rfl, ⟨fun i hil => ?_, hl, fun e => by cases e⟩, .inr ⟨_, _, rfl, by simp⟩⟩
    obtain ⟨h0, _⟩ := hz 0 (by omega)
    rw [Nat.zero_mul] at h0
    obtain ⟨b, o, rfl, hb⟩ := spot0 h0
    obtain ⟨k0, k1⟩ := hz i hil
    rw [addr_add] at k0 k1
    exact ⟨b, o, rfl, hb, k0, by simpa only [Nat.add_assoc] using k1⟩
theorem gdl_of (h : DataW.Trod enc Try.prog w 0 (fun _ => true) held 23 (.slice a l c) d pl) : ∃ zs : List Gd, zs.length = l ∧ gdSz d zs.length ∧ GdL w a zs c := by
  obtain ⟨fuel, hf⟩ := h
  have hf' : DataW.trod enc Try.prog w 0 (fun _ => true) held fuel 23 [.slice a l c] = some (d, pl) := hf
  obtain ⟨A, zs, c', h1, h2, h3⟩ := gdl_cells hf'
  simp only [Value.slice.injEq] at h1
  obtain ⟨rfl, rfl, rfl⟩ := h1
  exact ⟨zs, rfl, h3, h2⟩
def lnSz {H : Type} (d : DataW H) (n : Nat) : Prop := ∃ d0 d1 d2 d3, d = .agg [d0, d1, d2, d3] ∧ gdSz d3 n
theorem line_of {r : Reach} {b0 : Nat} {v : Value} (hv : Value.okWide Try.prog w r b0 25 v) (h : DataW.Trod enc Try.prog w 0 (fun _ => true) held 25 v d pl) : ∃ L : Ln, lnSz d L.gs.length ∧ LnL w v L := by
  have hu := Try.underlying25
  have c4 : Try.prog.cellsOf 25 = 4 := by kernel_rfl
  have cu : Try.prog.cellsOf 22 = 1 := by kernel_rfl
  have ci : Try.prog.cellsOf 3 = 1 := by kernel_rfl
  have cb : Try.prog.cellsOf 4 = 1 := by kernel_rfl
  have cs : Try.prog.cellsOf 23 = 1 := by kernel_rfl
  simp only [Value.okWide, hu] at hv
  obtain ⟨⟨us⟩, rfl, h2, _⟩ := hv
  rw [c4] at h2
  match us, h2 with
  | [u0, u1, u2, u3], _ =>
    obtain ⟨fuel, hf⟩ := h
    obtain ⟨xs, m, _, hd, _, hl, hi⟩ := DataW.trod_struct hu hf
    match xs, hl with
    | [X0, X1, X2, X3], _ =>
      have g0 := hi 0 _ rfl
      have g1 := hi 1 _ rfl
      have g2 := hi 2 _ rfl
      have g3 := hi 3 _ rfl
      simp [cu, ci, cb, cs, Value.cells] at g0 g1 g2 g3
      obtain ⟨k0, h0, _, b0⟩ := DataW.trod_int Try.underlying22 g0
      obtain ⟨k1, h1, _, b1⟩ := DataW.trod_int Try.underlying3 g1
      obtain ⟨k2, h2, _⟩ := DataW.trod_bool Try.underlying4 g2
      obtain ⟨e0, rfl⟩ := u64_of b0
      obtain rfl : u0 = _ := by simpa using h0
      obtain rfl : u1 = _ := by simpa using h1
      obtain rfl : u2 = _ := by simpa using h2
      obtain ⟨A, zs, c, rfl, q1, q2⟩ := gdl_cells g3
      simp only [Prod.mk.injEq] at hd
      exact ⟨⟨e0, k1, k2, zs⟩, ⟨_, _, _, _, hd.1, q2⟩, A, c, rfl, q1⟩
end
section
variable {H : Type} {ts : List TypeId} {ds : List (DataW H)} {j n : Nat} {d : DataW H}
theorem sz_gdl (hsz : (DataW.weightsEach Try.prog ts ds).all (· ≤ reachBytes) = true) (ht : ts[j]? = some 23) (hd : ds[j]? = some d) (h : gdSz d n) : n * 16 ≤ 140737488351232 := by
  rcases h with rfl | ⟨el, sp, rfl, hle⟩
  · omega
  · have hs := sized_slice hsz ht hd Try.underlying23
    rw [show Try.prog.bytesOf 34 = 16 from by kernel_rfl] at hs
    simp only [reachBytes] at hs
    omega
theorem sz_line (hsz : (DataW.weightsEach Try.prog ts ds).all (· ≤ reachBytes) = true) (ht : ts[j]? = some 25) (hd : ds[j]? = some d) (h : lnSz d n) : n * 16 ≤ 140737488351232 := by
  obtain ⟨d0, d1, d2, d3, rfl, h⟩ := h
  refine sz_gdl (j := 3) (ts := [22, 3, 4, 23]) (ds := [d0, d1, d2, d3]) ?_ rfl rfl h
  rw [List.all_eq_true] at hsz ⊢
  intro k hk
  refine hsz k (DataW.weights_mem_each ht hd k ?_)
  unfold DataW.weights
  rw [Try.underlying25]
  exact hk
end
end Go.Proofs.Ytbbgeccbdellmaa.ln


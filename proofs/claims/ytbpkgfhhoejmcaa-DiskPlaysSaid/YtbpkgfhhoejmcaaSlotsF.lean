/- The rule of slots with a reader that knows functions; a step that enters a callee. -/
import Derived.Test.YtbpkgfhhoejmcaaSlots
namespace Go.Proofs.Ytbpkgfhhoejmcaa
open Go Go.RowKit

theorem stepTo_enter {P : Program} {o : Oper} {ρ : Operand → Value} {w w' : World} {f : FuncId} {args : Array Value} {K : Value → World → Prop} (h : (execOp ρ o).run P w = .ok (.enter f args) w') (hk : Calls P f args w' fun e w'' => ∃ v, e = .returned v ∧ K v w'') : stepTo P K ((execOp ρ o).run P w) := by
  rw [h]
  exact hk

theorem wp_region_slots_f {P : Program} {ops : Array Oper} {Q : Exit → Act → World → Prop} {id : Nat} {a : Act} {w : World} (hm : P.follows .mixedOrders = true) (m : Nat) (ds : List Tmp) (hok : slotsB ops m ds a.tmps.size = true) (G : Nat → Value → World → Prop)
    (mono : ∀ i v w w', i < m → G i v w → Below w.heap.size w w' → G i v w')
    (step : ∀ i o vs ρ w', i < m → ops[i]? = some o → Reads a ds vs ρ → (∀ f, ρ (.func f) = a.eval (.func f)) → Below w.heap.size w w' → (∀ j, afterB ops i j = true → G j (vs j) w') →
      stepTo P (fun v w'' => Below w'.heap.size w' w'' ∧ G i v w'') ((execOp ρ o).run P w'))
    (fin : ∀ vs w', Below w.heap.size w w' → (∀ i, i < m → G i (vs i) w') → wpAny P .any ops Q (ops.size - m) (listedTo ops.size m) (putList vs ds a) w') :
    (Code.region id ops true).wp P Q a w :=
  wp_region_slots hm m ds hok G mono (fun i o vs w' hi ho hb hG => step i o vs (valOf a ds vs) w' hi ho ⟨fun _ _ h => valOf_some h, fun _ h => valOf_none h, fun _ => rfl⟩ (fun _ => rfl) hb hG) fin

end Go.Proofs.Ytbpkgfhhoejmcaa

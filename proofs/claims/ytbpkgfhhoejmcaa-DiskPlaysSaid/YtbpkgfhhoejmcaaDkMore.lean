/- How many unflushed writes a Write leaves. -/
import Derived.Test.YtbpkgfhhoejmcaaDkWrite
namespace Go.Proofs.Ytbpkgfhhoejmcaa.dk
open Go Go.RowKit

theorem write_more (d : DD) (k : Int) (v : Bt) : (d.write k v).2.more.length ≤ d.more.length + 1 := by
  have ho := (oper_rest d).2.1
  unfold DD.write
  split
  · simp
  · split
    · simp
    · split
      · simp
      · split
        · simp [ho]
        · simp

end Go.Proofs.Ytbpkgfhhoejmcaa.dk

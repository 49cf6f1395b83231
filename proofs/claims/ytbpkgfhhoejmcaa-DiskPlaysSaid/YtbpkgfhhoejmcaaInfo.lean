/- Rows of the table of types that walks on slices ask. -/
import Derived.Test.YtbpkgfhhoejmcaaProg
import Derived.WalkKit
namespace Go.Proofs.Ytbpkgfhhoejmcaa
open Go.RowKit

theorem Try.info9 : (Try.prog.info? 9).map (fun i => (i.zero, i.size, i.bytes)) = some (some (.string ByteArray.empty), 1, 16) := by kernel_rfl
theorem Try.info5 : (Try.prog.info? 5).map (fun i => (i.zero, i.size, i.bytes)) = some (some (.int .u8 0), 1, 1) := by kernel_rfl

end Go.Proofs.Ytbpkgfhhoejmcaa

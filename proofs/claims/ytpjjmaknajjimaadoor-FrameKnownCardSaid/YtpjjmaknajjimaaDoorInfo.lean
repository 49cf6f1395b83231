/- Rows of the table of types that walks on slices ask. -/
import Derived.Test.YtpjjmaknajjimaaDoorProg
import Derived.WalkKit
namespace Go.Proofs.YtpjjmaknajjimaaDoor
open Go.RowKit

theorem Tryd.info9 : (Tryd.prog.info? 9).map (fun i => (i.zero, i.size, i.bytes)) = some (some (.string ByteArray.empty), 1, 16) := by kernel_rfl
theorem Tryd.info5 : (Tryd.prog.info? 5).map (fun i => (i.zero, i.size, i.bytes)) = some (some (.int .u8 0), 1, 1) := by kernel_rfl

end Go.Proofs.YtpjjmaknajjimaaDoor

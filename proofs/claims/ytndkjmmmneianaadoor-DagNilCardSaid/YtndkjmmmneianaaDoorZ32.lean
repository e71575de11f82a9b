/-
  A hash of noughts; how many cells a byte and a hash take.
-/
import Derived.Test.YtndkjmmmneianaaDoorChecked
import Derived.Test.YtndkjmmmneianaaDoorWords
import Derived.KernelRfl
namespace Go.Proofs.YtndkjmmmneianaaDoor
open Go.RowKit

def zero32 : List UInt8 := List.replicate 32 0
theorem zero32_cells : (By zero32).toArray = #[.int .u8 0, .int .u8 0, .int .u8 0, .int .u8 0, .int .u8 0, .int .u8 0, .int .u8 0, .int .u8 0, .int .u8 0, .int .u8 0, .int .u8 0, .int .u8 0, .int .u8 0, .int .u8 0, .int .u8 0, .int .u8 0, .int .u8 0, .int .u8 0, .int .u8 0, .int .u8 0, .int .u8 0, .int .u8 0, .int .u8 0, .int .u8 0, .int .u8 0, .int .u8 0, .int .u8 0, .int .u8 0, .int .u8 0, .int .u8 0, .int .u8 0, .int .u8 0] := rfl
theorem Tryd.u8size : (Tryd.prog.info? 5).map (·.size) = some 1 := by kernel_rfl
theorem Tryd.hsize : (Tryd.prog.info? 23).map (·.size) = some 32 := by kernel_rfl
end Go.Proofs.YtndkjmmmneianaaDoor

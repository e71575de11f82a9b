/-
  A hash of noughts; how many cells a byte and a hash take.
-/
import Derived.Test.YtbloomnifhcgbaaGreatDoorChecked
import Derived.Test.YtbloomnifhcgbaaGreatDoorWords
import Derived.KernelRfl
namespace Go.Proofs.YtbloomnifhcgbaaGreatDoor
open Go.RowKit

def zero32 : List UInt8 := List.replicate 32 0
theorem zero32_cells : (By zero32).toArray = #[.int .u8 0, .int .u8 0, .int .u8 0, .int .u8 0, .int .u8 0, .int .u8 0, .int .u8 0, .int .u8 0, .int .u8 0, .int .u8 0, .int .u8 0, .int .u8 0, .int .u8 0, .int .u8 0, .int .u8 0, .int .u8 0, .int .u8 0, .int .u8 0, .int .u8 0, .int .u8 0, .int .u8 0, .int .u8 0, .int .u8 0, .int .u8 0, .int .u8 0, .int .u8 0, .int .u8 0, .int .u8 0, .int .u8 0, .int .u8 0, .int .u8 0, .int .u8 0] := rfl
theorem Tryz.u8size : (Tryz.prog.info? 5).map (·.size) = some 1 := by kernel_rfl
theorem Tryz.hsize : (Tryz.prog.info? 26).map (·.size) = some 32 := by kernel_rfl
end Go.Proofs.YtbloomnifhcgbaaGreatDoor

/-
  The walk of the law VmArgs.
-/
import Derived.Test.YtfnojlgmbfocfaaDoorVArgsA
import Derived.Test.YtfnojlgmbfocfaaDoorVArgsB
import Derived.Test.YtfnojlgmbfocfaaDoorVArgsC4
import Derived.Test.YtfnojlgmbfocfaaDoorVArgsD
namespace Go.Proofs.YtfnojlgmbfocfaaDoor
open Go.RowKit
theorem args_walk (v : Value) (l : List InsL) (c : Value) (s : StL) (vs vk : Value) (m : ByteArray) (fuel : Int) (w : World) (hS : SeesW w v l c s vs vk m) (hT : Tabs w) :
    Calls Tryd.prog 7 #[v, .int .i64 fuel] w fun e w' => e = .returned (.bool true) ∧ Below w.heap.size w w' := by
  by_cases hA : (checkL l).1 = 0 <;> by_cases hB : fuel < 0
  · exact args_walkA v l c s vs vk m fuel w hS hT (hid hA) (hid hB)
  · exact args_walkB v l c s vs vk m fuel w hS hT (hid hA) (hid hB)
  · exact args_walkC v l c s vs vk m fuel w hS hT (hid hA) (hid hB)
  · exact args_walkD v l c s vs vk m fuel w hS hT (hid hA) (hid hB)
end Go.Proofs.YtfnojlgmbfocfaaDoor

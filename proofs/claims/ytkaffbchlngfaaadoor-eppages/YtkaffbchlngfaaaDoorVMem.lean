/-
  The machine's memory: an interface's value.
-/
import Derived.Test.YtkaffbchlngfaaaDoorVPut
import Derived.Recover
namespace Go.Proofs.YtkaffbchlngfaaaDoor
open Go.RowKit
def memV (q : Nat) : Value := .iface 57 (.pointer (some ⟨q, 0, none⟩))
end Go.Proofs.YtkaffbchlngfaaaDoor

/-
  The law PortPlays, whatever the arguments are.
-/
import Derived.Test.YtahibklmcooanaaOPlayB
namespace Go.Proofs.Ytahibklmcooanaa
open Go.RowKit
set_option linter.unusedVariables false

theorem plays_walk (users room : Int) (vo : Value) (ops : List OpL) (w : World) (hV : SeesO w vo ops) (hlen : ops.length * 8 ≤ 140737488351232) :
    Calls Try.prog 3 #[.int .i64 users, .int .i64 room, vo] w fun e w' => e = .returned (.bool true) ∧ Below w.heap.size w w' := by
  by_cases h : users < 1 ∨ 16 < users ∨ room < 1 ∨ 64 < room
  · exact plays_bad users room vo w h
  · obtain ⟨n, rfl⟩ : ∃ n : Nat, users = n := ⟨users.toNat, by omega⟩
    exact plays_good n room vo ops w (by omega) (by omega) (by omega) (by omega) hV hlen
end Go.Proofs.Ytahibklmcooanaa

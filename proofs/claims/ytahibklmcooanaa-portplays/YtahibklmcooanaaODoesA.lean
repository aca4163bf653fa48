/-
  The law's does, whatever the call is.
-/
import Derived.Test.YtahibklmcooanaaODoesS
namespace Go.Proofs.Ytahibklmcooanaa
open Go.RowKit
set_option linter.unusedVariables false

theorem does_any (G : Nat → Prop) (p bx : Nat) (room : Int) (ql : List (Nat × Nat)) (v : Nat → Rg) (m : Nat → List Msg) (vL : Value) (o : OpL) (w : World) (hP : PoAt w p bx room ql v m) (hL : LSees (fun k => mine ql v k ∨ G k) w vL ql.length m) (hGl : ∀ k, G k → k < w.heap.size) (hsu : ∀ X, Gr (mine ql v) w X → o.su X) :
    Calls Try.prog 11 #[.pointer (some ⟨p, 0, none⟩), poV room vL, .agg o.row.toArray] w fun e w' => ∃ vL', e = .returned (.tuple #[poV room vL', .bool true]) ∧ DoesR G w w' p bx room ql v vL' := by
  by_cases h1 : o.kind = 1
  · exact does_send G p bx room ql v m vL o w hP hL hGl hsu h1
  · by_cases h2 : o.kind = 2
    · exact does_take G p bx room ql v m vL o w hP hL hGl h2
    · exact does_else G p bx room ql v m vL o w hP hL h1 h2
end Go.Proofs.Ytahibklmcooanaa

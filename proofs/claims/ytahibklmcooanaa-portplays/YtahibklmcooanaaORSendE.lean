/-
  The document's mailboxes: Send where the message may be sent, whole.
-/
import Derived.Test.YtahibklmcooanaaORSendC
import Derived.Test.YtahibklmcooanaaORSendD
namespace Go.Proofs.Ytahibklmcooanaa
open Go.RowKit
set_option linter.unusedVariables false
set_option linter.unusedSimpArgs false

theorem rsend_yes (room : Int) (vL : Value) (n : Nat) (who : Int) (tn : Nat) (vs vi vo : Value) (s i own : List Int) (x : ByteArray) (op : Bool) (F : Nat → Prop) (d : Nat → List Msg) (w : World) (hD : LSees F w vL n d) (hSu : SuAt w vs vi vo s i own) (hu1 : usr n who = true) (htn : tn < n) (hn16 : n ≤ 16) (hcats : catsB own = true) (hmay : mayB s i = true) (hx : x.size ≤ 1024) (hcm : comes s own tn op = true) (hF : ∀ k, w.heap.size ≤ k → ¬ F k) (hroom64 : room ≤ 64) (hdl : ((d tn).length : Int) ≤ room) :
    Calls Try.prog 24 #[poV room vL, suV who vs vi vo, .int .i64 tn, .string x, .bool op] w fun e w' => ∃ v' u, e = .returned (.tuple #[poV room v', u, .int .i64 0]) ∧ LSees F w' v' n (fun j => if j = tn then pushed room (d tn) (who, x) else d j) ∧ Owns w' w.heap.size u (lackS s tn) ∧ Below w.heap.size w w' := by
  by_cases hne : lackS s tn = []
  · exact rsend_nil room vL n who tn vs vi vo s i own x op F d w hD hSu hu1 htn hn16 hcats hmay hx hcm hne hF hroom64 hdl
  · exact rsend_open room vL n who tn vs vi vo s i own x op F d w hD hSu hu1 htn hn16 hcats hmay hx hcm hne hF hroom64 hdl

end Go.Proofs.Ytahibklmcooanaa

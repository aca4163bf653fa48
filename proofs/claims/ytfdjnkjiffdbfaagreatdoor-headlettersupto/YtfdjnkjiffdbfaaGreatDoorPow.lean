/-
  The table of powers; Itoa of any number.
-/
import Derived.Test.YtfdjnkjiffdbfaaGreatDoorPrint
import Derived.Lib.LaidTab
import Derived.Lib.AppendIntMem
namespace Go.Proofs.YtfdjnkjiffdbfaaGreatDoor
open Go.RowKit
set_option linter.unusedVariables false

def Pow (w : World) : Prop := Lib.TabBelow Tryz.prog w.heap.size w "internal/strconv.uint64pow10" .u64 Lib.pow10Tab
theorem Pow.below {w w' : World} (h : Pow w) (hb : Below w.heap.size w w') : Pow w' := fun w'' h'' => h w'' (hb.trans (h''.mono hb.size))
theorem decDigits_len : ∀ (n k : Nat), n < 10 ^ (k + 1) → (Lib.decDigits n).length ≤ k + 1
  | n, 0, h => by rw [Lib.decDigits_one (by omega)]; simp
  | n, k + 1, h => by
    by_cases h10 : n < 10
    · rw [Lib.decDigits_one h10]; simp
    · rw [Lib.decDigits, dif_neg h10, List.length_append]
      have := decDigits_len (n / 10) k (by rw [Nat.pow_succ] at h; omega)
      simp
      omega
theorem itoa_len (m : Int) (h0 : -9223372036854775808 ≤ m) (h1 : m ≤ 9223372036854775807) : (Lib.itoa m).length ≤ 100 := by
  unfold Lib.itoa
  split
  · have := decDigits_len m.natAbs 19 (by omega)
    simp only [List.length_cons]
    omega
  · have := decDigits_len m.toNat 19 (by omega)
    omega
theorem itoa_dig (m : Int) : (m = 0 → Lib.itoa m = [48]) ∧ (m = 1 → Lib.itoa m = [49]) := by
  refine ⟨fun e => ?_, fun e => ?_⟩
  · rw [e, Lib.itoa, if_neg (by decide), show (0 : Int).toNat = 0 from rfl, Lib.decDigits_one (by decide)]
    rfl
  · rw [e, Lib.itoa, if_neg (by decide), show (1 : Int).toNat = 1 from rfl, Lib.decDigits_one (by decide)]
    rfl
theorem itoa_any {m : Int} (h0 : -9223372036854775808 ≤ m) (h1 : m ≤ 9223372036854775807) {w : World} (hP : Pow w) (W : World) (hb : Below w.heap.size w W) : Calls Tryz.prog 31 #[.int .i64 m] W fun e W' => e = .returned (.string ⟨(Lib.itoa m).toArray⟩) ∧ Below W.heap.size W W' := by
  refine (Tryz.strconv_Itoa m h0 h1 W (hP W hb)).mono ?_
  rintro e w' ⟨rfl, k, os, rfl⟩
  exact ⟨rfl, ⟨rfl, rfl, rfl, Lib.size_grow W k os, fun j hj => Lib.heap_grow_old W k os j (by omega)⟩⟩
end Go.Proofs.YtfdjnkjiffdbfaaGreatDoor

/-
  The digest of a short text, by the kernel; the contract of 'awake'.
-/
import Derived.Test.YtfefccmefmminaaDoorHex
namespace Go.Proofs.YtfefccmefmminaaDoor
open Go.RowKit
set_option linter.unusedVariables false

def abcBlock : List Nat := [97, 98, 99, 128, 0, 0, 0, 0, 0, 0, 0, 0, 0, 0, 0, 0, 0, 0, 0, 0, 0, 0, 0, 0, 0, 0, 0, 0, 0, 0, 0, 0, 0, 0, 0, 0, 0, 0, 0, 0, 0, 0, 0, 0, 0, 0, 0, 0, 0, 0, 0, 0, 0, 0, 0, 0, 0, 0, 0, 0, 0, 0, 0, 24]
def abcWords : List Nat := [1633837952, 0, 0, 0, 0, 0, 0, 0, 0, 0, 0, 0, 0, 0, 0, 24, 1633837952, 983040, 2108187653, 1610613702, 1050508152, 25426944, 316456923, 3806512014, 3357629466, 3073800610, 3854317833, 845560923, 2636160359, 3968280267, 1881225380, 3552024379, 2482346367, 996719219, 2952069057, 4043988066, 176896406, 1924104970, 2483675966, 610538786, 2672279444, 4037431130, 1042573945, 657669027, 206005234, 2215296807, 2049510749, 106709978, 4215179723, 3430291419, 3118885940, 2845390439, 2226839261, 3256115900, 344409900, 2987358873, 4015503821, 3957764664, 2682456414, 2025622859, 2755645205, 1720397816, 4004225740, 313650667]
def abcHex : List Nat := [98, 97, 55, 56, 49, 54, 98, 102, 56, 102, 48, 49, 99, 102, 101, 97, 52, 49, 52, 49, 52, 48, 100, 101, 53, 100, 97, 101, 50, 50, 50, 51, 98, 48, 48, 51, 54, 49, 97, 51, 57, 54, 49, 55, 55, 97, 57, 99, 98, 52, 49, 48, 102, 102, 54, 49, 102, 50, 48, 48, 49, 53, 97, 100]
theorem abc_block : [97, 98, 99] ++ padOf 3 = abcBlock := by decide +kernel
theorem abc_words : schedF abcBlock 64 [] 0 = abcWords := by decide +kernel
theorem abc_run : runF K0 abcWords 64 0 1779033703 3144134277 1013904242 2773480762 1359893119 2600822924 528734635 1541459225 = [1349398616, 3550093669, 80891244, 3093179625, 1593118500, 4212265488, 2492278198, 2518632596] := by decide +kernel
theorem abc_digest : digest H0 K0 [97, 98, 99] = [186, 120, 22, 191, 143, 1, 207, 234, 65, 65, 64, 222, 93, 174, 34, 35, 176, 3, 97, 163, 150, 23, 122, 156, 180, 16, 255, 97, 242, 0, 21, 173] := by
  have h1 : sched abcBlock 64 = abcWords := (schedF_eq abcBlock 64 0).symm.trans abc_words
  have h2 : run K0 abcWords H0 64 = [1349398616, 3550093669, 80891244, 3093179625, 1593118500, 4212265488, 2492278198, 2518632596] := (runF_eq K0 abcWords H0 64 0 _ _ _ _ _ _ _ _ rfl).symm.trans abc_run
  unfold digest
  rw [show [97, 98, 99].length = 3 from rfl, abc_block]
  unfold stOf
  rw [show abcBlock.length / 64 = 0 + 1 from rfl]
  show (comp K0 H0 ((abcBlock.drop 0).take 64)).flatMap be4 = _
  rw [show (abcBlock.drop 0).take 64 = abcBlock from rfl]
  unfold comp
  rw [h1, h2]
  decide +kernel
theorem abc_hex : hexOf (digest H0 K0 [97, 98, 99]) = abcHex := by
  rw [abc_digest]
  decide +kernel

theorem abc_str : strOf abcHex = { data := #[98, 97, 55, 56, 49, 54, 98, 102, 56, 102, 48, 49, 99, 102, 101, 97, 52, 49, 52, 49, 52, 48, 100, 101, 53, 100, 97, 101, 50, 50, 50, 51, 98, 48, 48, 51, 54, 49, 97, 51, 57, 54, 49, 55, 55, 97, 57, 99, 98, 52, 49, 48, 102, 102, 54, 49, 102, 50, 48, 48, 49, 53, 97, 100] } := by rfl

set_option maxRecDepth 20000 in
set_option maxHeartbeats 1000000 in
theorem awake_any (w : World) (hR : Rounds w) : Calls Tryd.prog 11 #[] w fun e w' => e = .returned (.bool true) ∧ Below w.heap.size w w' := by
  have HR := hid hR
  clear hR
  go_enter Tryd.func11, Tryd.ntmps11
  go_wp2_with fail
  have hs := sum_any { data := #[97, 98, 99] } w HR.out (by decide)
  rw [show bytesOf { data := #[97, 98, 99] } = [97, 98, 99] from rfl] at hs
  refine hs.mono ?_
  clear hs
  rintro e w1 ⟨rfl, hB1⟩
  have HB1 := hid hB1
  clear hB1
  have hlt : ∀ x ∈ digest H0 K0 [97, 98, 99], x < 256 := by rw [abc_digest]; decide
  have hx := hex_any (strOf (digest H0 K0 [97, 98, 99])) w1 (by rw [strOf_size, abc_digest]; decide)
  rw [bytesOf_strOf hlt, abc_hex, abc_str] at hx
  have HX := hid hx
  clear hx hlt
  go_wp2_with fail
  refine HX.out.mono ?_
  rintro e w2 ⟨rfl, hB2⟩
  have HB2 := hid (HB1.out.trans (hB2.mono HB1.out.size))
  clear hB2 HX HB1
  go_wp2
  go_ret
  exact ⟨rfl, HB2.out⟩

end Go.Proofs.YtfefccmefmminaaDoor

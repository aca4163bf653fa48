/-
  The digests of two salted words, by the kernel: they are not the same.
-/
import Derived.Test.YtplljpodejpbgaaGreatDoorJTwo
namespace Go.Proofs.YtplljpodejpbgaaGreatDoor
open Go.RowKit
set_option linter.unusedVariables false

def xoB : List Nat := [1, 116, 111, 110, 101, 128, 0, 0, 0, 0, 0, 0, 0, 0, 0, 0, 0, 0, 0, 0, 0, 0, 0, 0, 0, 0, 0, 0, 0, 0, 0, 0, 0, 0, 0, 0, 0, 0, 0, 0, 0, 0, 0, 0, 0, 0, 0, 0, 0, 0, 0, 0, 0, 0, 0, 0, 0, 0, 0, 0, 0, 0, 0, 40]
def xoW : List Nat := [24407918, 1702887424, 0, 0, 0, 0, 0, 0, 0, 0, 0, 0, 0, 0, 0, 40, 233801934, 1704001536, 897432744, 2686016058, 1774994302, 2255618649, 2848623351, 1328937029, 2040550270, 2025291690, 3286758954, 3121259024, 2354234059, 2939114467, 3630144349, 1021078207, 303260830, 460293836, 103702591, 1096482010, 946488702, 3650030120, 1311719060, 2898871736, 2443714190, 3113735013, 2963755886, 1015354467, 2954613654, 1820173656, 2081187012, 467827971, 91820976, 604258712, 4060236589, 76479041, 2579528667, 3875641976, 3530628203, 3108175860, 2345741062, 3950166698, 3941144076, 3741804152, 354162040, 1023148751, 1467023746, 1294909433]
theorem xo_block : [1, 116, 111, 110, 101] ++ padOf 5 = xoB := by decide +kernel
theorem xo_words : schedF xoB 64 [] 0 = xoW := by decide +kernel
theorem xo_run : runF K0 xoW 64 0 1779033703 3144134277 1013904242 2773480762 1359893119 2600822924 528734635 1541459225 = [4196299089, 1881317428, 2667706128, 679165768, 1055155371, 4023187750, 3268579678, 1982383253] := by decide +kernel
theorem xo_digest : digest H0 K0 [1, 116, 111, 110, 101] = [100, 40, 87, 184, 43, 138, 78, 185, 219, 112, 234, 130, 205, 203, 52, 130, 143, 242, 183, 42, 138, 210, 97, 178, 226, 86, 107, 9, 210, 9, 145, 174] := by
  have h1 : sched xoB 64 = xoW := (schedF_eq xoB 64 0).symm.trans xo_words
  have h2 : run K0 xoW H0 64 = [4196299089, 1881317428, 2667706128, 679165768, 1055155371, 4023187750, 3268579678, 1982383253] := (runF_eq K0 xoW H0 64 0 _ _ _ _ _ _ _ _ rfl).symm.trans xo_run
  unfold digest
  rw [show ([1, 116, 111, 110, 101] : List Nat).length = 5 from rfl, xo_block]
  unfold stOf
  rw [show xoB.length / 64 = 0 + 1 from rfl]
  show (comp K0 H0 ((xoB.drop 0).take 64)).flatMap be4 = _
  rw [show (xoB.drop 0).take 64 = xoB from rfl]
  unfold comp
  rw [h1, h2]
  decide +kernel
def xtB : List Nat := [1, 116, 116, 119, 111, 128, 0, 0, 0, 0, 0, 0, 0, 0, 0, 0, 0, 0, 0, 0, 0, 0, 0, 0, 0, 0, 0, 0, 0, 0, 0, 0, 0, 0, 0, 0, 0, 0, 0, 0, 0, 0, 0, 0, 0, 0, 0, 0, 0, 0, 0, 0, 0, 0, 0, 0, 0, 0, 0, 0, 0, 0, 0, 40]
def xtW : List Nat := [24409207, 1870659584, 0, 0, 0, 0, 0, 0, 0, 0, 0, 0, 0, 0, 0, 40, 245600343, 1871773696, 3122843233, 2686180986, 1053975270, 2497315577, 2099276883, 1336565453, 2873989423, 516928280, 531943971, 1857757752, 2284586001, 1918959765, 576543972, 2540642069, 2156289925, 1664870296, 600712914, 177093819, 3925580542, 1128937872, 3615731482, 1485864024, 2416427351, 3851424060, 4167849086, 2521367093, 3499275354, 2257892622, 2240170041, 2154741391, 412620948, 233388047, 3252677549, 2625195056, 531579597, 488869126, 1172336370, 1975660139, 970794782, 4063792631, 95495450, 269981249, 3296824821, 4162287842, 2473384974, 983974281]
theorem xt_block : [1, 116, 116, 119, 111] ++ padOf 5 = xtB := by decide +kernel
theorem xt_words : schedF xtB 64 [] 0 = xtW := by decide +kernel
theorem xt_run : runF K0 xtW 64 0 1779033703 3144134277 1013904242 2773480762 1359893119 2600822924 528734635 1541459225 = [3044412646, 2544890034, 3201070759, 2038242345, 2812541977, 3798421474, 968053544, 3594305115] := by decide +kernel
theorem xt_digest : digest H0 K0 [1, 116, 116, 119, 111] = [31, 127, 243, 77, 83, 23, 159, 55, 251, 59, 106, 25, 30, 205, 17, 99, 248, 178, 78, 152, 125, 108, 184, 110, 89, 55, 44, 211, 50, 29, 139, 116] := by
  have h1 : sched xtB 64 = xtW := (schedF_eq xtB 64 0).symm.trans xt_words
  have h2 : run K0 xtW H0 64 = [3044412646, 2544890034, 3201070759, 2038242345, 2812541977, 3798421474, 968053544, 3594305115] := (runF_eq K0 xtW H0 64 0 _ _ _ _ _ _ _ _ rfl).symm.trans xt_run
  unfold digest
  rw [show ([1, 116, 116, 119, 111] : List Nat).length = 5 from rfl, xt_block]
  unfold stOf
  rw [show xtB.length / 64 = 0 + 1 from rfl]
  show (comp K0 H0 ((xtB.drop 0).take 64)).flatMap be4 = _
  rw [show (xtB.drop 0).take 64 = xtB from rfl]
  unfold comp
  rw [h1, h2]
  decide +kernel
theorem words_apart : strOf (saltOf tT tOne) ≠ digB := by
  intro h
  have h1 := congrArg bytesOf h
  unfold digB at h1
  rw [show saltOf tT tOne = hexOf (digest H0 K0 [1, 116, 111, 110, 101]) from rfl, show saltOf tT tTwo = hexOf (digest H0 K0 [1, 116, 116, 119, 111]) from rfl, bytesOf_strOf (hexOf_lt (digest_lt _ _ _)), bytesOf_strOf (hexOf_lt (digest_lt _ _ _))] at h1
  have h2 := congrArg unhexOf h1
  rw [unhex_hex _ (digest_lt _ _ _), unhex_hex _ (digest_lt _ _ _), xo_digest, xt_digest] at h2
  revert h2
  decide
end Go.Proofs.YtplljpodejpbgaaGreatDoor

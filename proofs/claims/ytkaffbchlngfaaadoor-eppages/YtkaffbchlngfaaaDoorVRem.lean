/-
  (No memory is asked here.)
-/
import Derived.Test.YtkaffbchlngfaaaDoorVArr
import Derived.Deep.CutBlock
import Derived.Deep.DeepCutAuto

/-
  The document's single instruction, any one.
-/
import Derived.Test.YtfnojlgmbfocfaaDoorVOneP1
import Derived.Test.YtfnojlgmbfocfaaDoorVOneP2
import Derived.Test.YtfnojlgmbfocfaaDoorVOneP3
import Derived.Test.YtfnojlgmbfocfaaDoorVOneP4
import Derived.Test.YtfnojlgmbfocfaaDoorVOneP5
import Derived.Test.YtfnojlgmbfocfaaDoorVOneP6
import Derived.Test.YtfnojlgmbfocfaaDoorVOneSwap
namespace Go.Proofs.YtfnojlgmbfocfaaDoor
open Go.RowKit
set_option linter.unusedVariables false

theorem rone_any (v : Value) (l : List InsL) (s : StL) (vs vk vb : Value) (b : List Nat) (w : World) (hV : SeesI w v l) (hs : Sees w vs s.st) (hk : Sees w vk s.ca) (hbs : SeesN .u8 w vb b) (hll : l.length ≤ 1024) (ho : OkS l.length s)
    (hmay : ∀ i ∈ l, mayI l.length i = true) (hby : ∀ y ∈ b, y < 256) (hbm : b.length ≤ 140737488355328) :
    Calls Tryd.prog 28 #[v, .agg #[.int .i64 s.pc, vs, vk], .agg #[vb]] w (OneR w vs vk vb (stepL l s b)) := by
  obtain ⟨pc, st, ca⟩ := s
  have p0 : 0 ≤ pc := ho.p0
  have p1 : pc ≤ l.length := ho.p1
  have h64 : st.length ≤ 64 := ho.st
  have h32 : ca.length ≤ 32 := ho.cl
  obtain ⟨k, rfl⟩ : ∃ k : Nat, pc = (k : Int) := ⟨pc.toNat, by omega⟩
  by_cases hkl : k < l.length
  · obtain ⟨⟨op, a⟩, hat⟩ : ∃ i, l[k] = i := ⟨_, rfl⟩
    have hm := hmay l[k] (List.getElem_mem hkl)
    rw [hat] at hm
    obtain ⟨h1, h2⟩ := mayI_op hm
    simp only at h1 h2
    rcases op_cases h1 h2 with rfl | rfl | rfl | rfl | rfl | rfl | rfl | rfl | rfl | rfl | rfl | rfl | rfl | rfl | rfl | rfl | rfl | rfl | rfl | rfl | rfl | rfl | rfl | rfl | rfl
    · exact rone_push v l k a vs vk vb st ca b w hV hs hk hbs hkl hat hll h64 h32
    · exact rone_pop v l k a vs vk vb st ca b w hV hs hk hbs hkl hat hll h64 h32
    · have hd := mayI_dup hm
      exact rone_dup v l k a vs vk vb st ca b w a.toNat (by omega) (by omega) hV hs hk hbs hkl hat hll h64 h32
    · exact rone_swap v l k a vs vk vb st ca b w hV hs hk hbs hkl hat hll h64 h32
    iterate 12 (exact rone_two v l k a vs vk vb st ca b w _ (by decide) (by decide) hV hs hk hbs hkl hat hll h64 h32)
    · exact rone_not v l k a vs vk vb st ca b w hV hs hk hbs hkl hat hll h64 h32
    · by_cases c1 : topL st 0 < 0
      · exact rone_loadneg v l k a vs vk vb st ca b w hby c1 hV hs hk hbs hkl hat hll h64 h32
      · by_cases c2 : (b.length : Int) ≤ topL st 0
        · exact rone_loadbig v l k a vs vk vb st ca b w hby c2 hV hs hk hbs hkl hat hll h64 h32
        · exact rone_loadok v l k a vs vk vb st ca b w hby (topL st 0).toNat ⟨by omega, by omega⟩ hV hs hk hbs hkl hat hll h64 h32
    · by_cases c1 : topL st 0 < 0
      · exact rone_storeneg v l k a vs vk vb st ca b w hbm c1 hV hs hk hbs hkl hat hll h64 h32
      · by_cases c2 : (b.length : Int) ≤ topL st 0
        · exact rone_storebig v l k a vs vk vb st ca b w hbm c2 hV hs hk hbs hkl hat hll h64 h32
        · exact rone_storeok v l k a vs vk vb st ca b w hbm (topL st 0).toNat ⟨by omega, by omega⟩ hV hs hk hbs hkl hat hll h64 h32
    · exact rone_jump v l k a vs vk vb st ca b w hV hs hk hbs hkl hat hll h64 h32
    · exact rone_if v l k a vs vk vb st ca b w hV hs hk hbs hkl hat hll h64 h32
    · exact rone_call v l k a vs vk vb st ca b w hV hs hk hbs hkl hat hll h64 h32
    · exact rone_ret v l k a vs vk vb st ca b w hV hs hk hbs hkl hat hll h64 h32
    · exact rone_trap v l k a vs vk vb st ca b w hV hs hk hbs hkl hat hll h64 h32
    · exact rone_halt v l k a vs vk vb st ca b w hV hs hk hbs hkl hat hll h64 h32
  · exact rone_end v l k vs vk vb st ca b w hV hs hk hbs (by omega)
end Go.Proofs.YtfnojlgmbfocfaaDoor

/-
  The contract of widen.
-/
import Derived.Test.YtebjkgibciiocaaStraight
namespace Go.Proofs.Ytebjkgibciiocaa
open Go.RowKit
set_option linter.unusedVariables false

theorem owns_slice {w : World} {base : Nat} {v : Value} {xs : List Int} (h : Owns w base v xs) : ∃ ao n c, v = .slice ao n c := by
  obtain ⟨b, off, ao, cap, hv, _⟩ := h.sees
  exact ⟨ao, _, cap, hv⟩

theorem wrap_ok (x : Int) (h1 : 0 ≤ x) (h2 : x ≤ 4611686018427387904) : IntKind.i64.wrap x = x := by rw [IntKind.wrap_i64]; omega

set_option maxHeartbeats 2000000 in
theorem widen_any (p : Nat) (room drops : Int) (rv : Value) (f : Nat) (rs xs : List Int) (w : World) (hQ : QAt w p room drops rv f rs xs) (hlt : (xs.length : Int) < room) :
    Calls Try.prog 24 #[.pointer (some ⟨p, 0, none⟩)] w fun e w' => e = .returned (.tuple #[]) ∧ ∃ v' rs', QAt w' p room drops v' 0 rs' xs ∧ xs.length < rs'.length ∧ Turned w w' p none ∧ ∀ j, v'.ownBlock = some j → w.heap.size ≤ j := by
  obtain ⟨c0, c1, c2, c3, c4, c5⟩ := hQ.lies.cells
  have hz := hQ.lies.warm
  have hz3 := hz 3
  have hz4 := hz 4
  have hpl := hQ.lies.lt
  have hr2 := hQ.r2
  have e1 : IntKind.i64.wrap (2 * xs.length) = 2 * xs.length := wrap_ok _ (by omega) (by omega)
  have e2 : IntKind.i64.wrap (2 * xs.length + 1) = 2 * xs.length + 1 := wrap_ok _ (by omega) (by omega)
  obtain ⟨L, hL⟩ : ∃ L : Nat, (L : Int) = if room < 2 * (xs.length : Int) + 1 then room else 2 * (xs.length : Int) + 1 := ⟨(if room < 2 * (xs.length : Int) + 1 then room else 2 * (xs.length : Int) + 1).toNat, by split <;> omega⟩
  have hL1 : xs.length < L := by split at hL <;> omega
  have hL2 : (L : Int) ≤ room := by split at hL <;> omega
  have hS := straight_any p room drops rv f L rs xs w.drew (hQ.below (Below.drew (Below.refl _ _))) (by omega) (by omega)
  have hfin := hid (fun v' w2 (hO : Owns w2 w.heap.size v' (xs ++ List.replicate (L - xs.length) 0)) (hB : Below w.heap.size w w2) => widen_fin hQ hO hB hL1 hL2)
  have HL := hid (show xs.length < (xs ++ List.replicate (L - xs.length) 0).length by simp; omega)
  have hmn := hL.symm
  have HS := hid hS
  have HQ := hid hQ
  clear hQ hL c0 c2 c3 hz hS hL1 hL2 hlt hr2
  go_enter Try.func24, Try.ntmps24
  go_wp2_with fail
  go_region_held3 (fun w' => w'.cell? ⟨p, 1, none⟩ = some (.int .i64 room) ∧ w'.cell? ⟨p, 5, none⟩ = some (.int .i64 xs.length))
    (first | (refine ⟨?_, ?_⟩ <;> first | assumption | (simp [*, World.cell?_setCell_other]; done)))
    (first
      | (go_at_call 25; refine HS.out.mono ?_; rintro e w2 ⟨v', rfl, hO2, hB2⟩; clear HS
         have hB3 : Below w.heap.size w w2 := (Below.drew (Below.refl _ _)).trans hB2
         obtain ⟨d0, d1, d2, d3, d4, d5⟩ := (HQ.out.lies.below hB3).cells
         have y3 := (HQ.out.lies.below hB3).warm 3
         have y4 := (HQ.out.lies.below hB3).warm 4
         have H2 := hid (hfin.out v' w2 hO2 hB3)
         obtain ⟨ao2, n2, cp2, hv2⟩ := owns_slice hO2
         subst hv2
         clear c1 c5 c4 hz3 hz4 d0 d2 HQ hfin hO2 hB2 hB3))
  go_wp2
  go_returns
  exact ⟨rfl, _, _, H2.out.1, HL.out, H2.out.2.1, H2.out.2.2⟩
end Go.Proofs.Ytebjkgibciiocaa

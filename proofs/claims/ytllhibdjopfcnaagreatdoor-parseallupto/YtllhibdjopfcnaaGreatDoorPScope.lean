/-
  A scope in which the run jumps to several labels: what holds at each jump, and a measure that every pass from a label lowers.
-/
import Derived.ScopeJumps
import Derived.WalkMore
namespace Go.Proofs.YtllhibdjopfcnaaGreatDoor
open Go
set_option linter.unusedVariables false
/-- As Q; by a goto to the label l: J l. -/
def jumps (J : Nat → Act → World → Prop) (Q : Exit → Act → World → Prop) : Exit → Act → World → Prop
  | .goto l, a, w => J l a w
  | e, a, w => Q e a w

theorem wp_scope_many {P : Program} {a : Act} {w : World} {Q : Exit → Act → World → Prop} {c : Code} (rest : Nat → Code) (J : Nat → Act → World → Prop) (μ : Nat → Act → World → Nat)
    (hf : ∀ l a w, J l a w → findLabel c l = some (rest l))
    (first : c.wp P (jumps J Q) a w)
    (pass : ∀ l a w, J l a w → (rest l).wp P (jumps (fun l' a' w' => J l' a' w' ∧ μ l' a' w' < μ l a w) Q) a w) : (Code.scope c).wp P Q a w := by
  intro b k cs
  have hg : ∀ l a w, J l a w → gotoIn l (.inScope c :: k) = some (.code (rest l) :: .inScope c :: k) := fun l a w h => by simp [gotoIn, hf l a w h]
  have key : ∀ n l a w, μ l a w = n → J l a w → ∃ e a' w', Q e a' w' ∧ Arrives P (lone (b.at a (.code (rest l) :: .inScope c :: k)) cs w) b k cs e a' w' := by
    intro n
    induction n using Nat.strongRecOn with
    | _ n ih =>
      intro l a w hn hJ
      obtain ⟨e, a₁, w₁, hq, harr⟩ := pass l a w hJ b (.inScope c :: k) cs
      cases e with
      | normal => exact ⟨.normal, a₁, w₁, hq, Steps.trans harr (.one step_inScope)⟩
      | exit id => exact ⟨.exit id, a₁, w₁, hq, fun k' hk => harr k' (by simp [exitTo, hk])⟩
      | goto l' =>
        obtain ⟨hJ', hlt⟩ := hq
        obtain ⟨e₂, a₂, w₂, hq₂, harr₂⟩ := ih _ (by omega) l' a₁ w₁ rfl hJ'
        exact ⟨e₂, a₂, w₂, hq₂, .of_steps (harr _ (hg l' a₁ w₁ hJ')) harr₂⟩
      | ret => exact ⟨_, a₁, w₁, hq, harr⟩
      | panic ch => exact ⟨_, a₁, w₁, hq, harr⟩
      | outgrown => exact ⟨_, a₁, w₁, hq, harr⟩
  obtain ⟨e, a₁, w₁, hq, harr⟩ := first b (.inScope c :: k) cs
  cases e with
  | normal => exact ⟨.normal, a₁, w₁, hq, .head step_scope (Steps.trans harr (.one step_inScope))⟩
  | exit id => exact ⟨.exit id, a₁, w₁, hq, fun k' hk => .head step_scope (harr k' (by simp [exitTo, hk]))⟩
  | goto l' =>
    obtain ⟨e₂, a₂, w₂, hq₂, harr₂⟩ := key _ l' a₁ w₁ rfl hq
    exact ⟨e₂, a₂, w₂, hq₂, .of_steps (.head step_scope (harr _ (hg l' a₁ w₁ hq))) harr₂⟩
  | ret => exact ⟨_, a₁, w₁, hq, .of_steps (.one step_scope) harr⟩
  | panic ch => exact ⟨_, a₁, w₁, hq, .of_steps (.one step_scope) harr⟩
  | outgrown => exact ⟨_, a₁, w₁, hq, .of_steps (.one step_scope) harr⟩
theorem jumps_ret {J : Nat → Act → World → Prop} {Q : Exit → Act → World → Prop} {a : Act} {w : World} : jumps J Q .ret a w = Q .ret a w := rfl
theorem jumps_goto {J : Nat → Act → World → Prop} {Q : Exit → Act → World → Prop} {l : Nat} {a : Act} {w : World} : jumps J Q (.goto l) a w = J l a w := rfl
theorem jumps_mono {J J' : Nat → Act → World → Prop} {Q : Exit → Act → World → Prop} (h : ∀ l a w, J l a w → J' l a w) : ∀ e a w, jumps J Q e a w → jumps J' Q e a w := by
  intro e a w
  cases e with
  | goto l => exact h l a w
  | normal => exact id
  | exit id' => exact id
  | ret => exact id
  | panic ch => exact id
  | outgrown => exact id
/-- What a pass from a label may jump to. -/
def lower (J : Nat → Act → World → Prop) (μ : World → Nat) (w : World) : Nat → Act → World → Prop := fun l' a' w' => J l' a' w' ∧ μ w' < μ w
theorem wp_skipped {P : Program} {a : Act} {w : World} {Q : Exit → Act → World → Prop} {c : Code} (h : c.wp P Q a w) : (Code.skip.seq c).wp P Q a w := wp_seq (wp_skip h)
/-- Five labels, in the order in which the code falls from one to the other: 0, 1, 3, 2; and 4. -/
theorem wp_scope5 {P : Program} {a : Act} {w : World} {Q : Exit → Act → World → Prop} {c r0 r1 r2 r3 r4 : Code} (J : Nat → Act → World → Prop) (μ : World → Nat)
    (h0 : findLabel c 0 = some (Code.skip.seq r0)) (h1 : findLabel c 1 = some (Code.skip.seq r1)) (h2 : findLabel c 2 = some (Code.skip.seq r2)) (h3 : findLabel c 3 = some (Code.skip.seq r3)) (h4 : findLabel c 4 = some (Code.skip.seq r4)) (hJ : ∀ l a w, J l a w → l < 5)
    (p4 : ∀ a w, J 4 a w → r4.wp P (jumps (lower J μ w) Q) a w)
    (p2 : ∀ a w, J 2 a w → r2.wp P (jumps (lower J μ w) Q) a w)
    (p3 : (∀ a w, J 2 a w → r2.wp P (jumps (lower J μ w) Q) a w) → ∀ a w, J 3 a w → r3.wp P (jumps (lower J μ w) Q) a w)
    (p1 : (∀ a w, J 3 a w → r3.wp P (jumps (lower J μ w) Q) a w) → ∀ a w, J 1 a w → r1.wp P (jumps (lower J μ w) Q) a w)
    (p0 : (∀ a w, J 1 a w → r1.wp P (jumps (lower J μ w) Q) a w) → ∀ a w, J 0 a w → r0.wp P (jumps (lower J μ w) Q) a w)
    (first : (∀ a w, J 0 a w → r0.wp P (jumps (lower J μ w) Q) a w) → c.wp P (jumps J Q) a w) : (Code.scope c).wp P Q a w := by
  have q3 := p3 p2
  have q1 := p1 q3
  have q0 := p0 q1
  refine wp_scope_many (fun l => Code.skip.seq (match l with | 0 => r0 | 1 => r1 | 2 => r2 | 3 => r3 | _ => r4)) J (fun _ _ => μ) ?_ (first q0) ?_
  · intro l a w hj
    have := hJ l a w hj
    match l with
    | 0 => exact h0
    | 1 => exact h1
    | 2 => exact h2
    | 3 => exact h3
    | 4 => exact h4
  · intro l a w hj
    have := hJ l a w hj
    match l with
    | 0 => exact wp_skipped (q0 a w hj)
    | 1 => exact wp_skipped (q1 a w hj)
    | 2 => exact wp_skipped (p2 a w hj)
    | 3 => exact wp_skipped (q3 a w hj)
    | 4 => exact wp_skipped (p4 a w hj)
theorem wp_fall {P : Program} {a1 : Act} {w w1 : World} {Q : Exit → Act → World → Prop} {c : Code} {J : Nat → Act → World → Prop} {μ : World → Nat} (h : c.wp P (jumps (lower J μ w1) Q) a1 w1) (hm : μ w1 ≤ μ w) : c.wp P (jumps (lower J μ w) Q) a1 w1 :=
  Code.wp_mono (jumps_mono fun l a' w' ⟨x, y⟩ => ⟨x, by omega⟩) h
theorem wp_into {P : Program} {a1 : Act} {w1 : World} {Q : Exit → Act → World → Prop} {c : Code} {J : Nat → Act → World → Prop} {μ : World → Nat} (h : c.wp P (jumps (lower J μ w1) Q) a1 w1) : c.wp P (jumps J Q) a1 w1 :=
  Code.wp_mono (jumps_mono fun l a' w' ⟨x, y⟩ => x) h
end Go.Proofs.YtllhibdjopfcnaaGreatDoor

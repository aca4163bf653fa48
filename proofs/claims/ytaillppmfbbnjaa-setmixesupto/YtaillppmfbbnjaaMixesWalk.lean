/-
  The walk of SetMixes: it returns true for any two lists that are not too long and any number.
-/
import Derived.Test.YtaillppmfbbnjaaAwake
import Derived.Test.YtaillppmfbbnjaaRefMore
namespace Go.Proofs.Ytaillppmfbbnjaa
open Go.RowKit
set_option linter.unusedVariables false

theorem owns_kept {w w' : World} {bY : Nat} {X Y : Value} {ys : List Int} (hlt : ∀ j, X.ownBlock = some j → j < bY) (hY : Owns w bY Y ys) (hG : w.grownBy w' X.ownBlock) : Owns w' bY Y ys := by
  refine World.ownsRow.kept hY hG ?_
  cases hy : Y.ownBlock with
  | none => exact Or.inl rfl
  | some k =>
    refine Or.inr fun e => ?_
    have h1 := hlt k e.symm
    have h2 := (hY.lt k hy).1
    omega

set_option maxHeartbeats 4000000 in
theorem mixes_walk (v u : Value) (x : Int) (xs ys : List Int) (w : World) (hv : Sees w v xs) (hu : Sees w u ys) (hb : xs.length + ys.length ≤ 1048576) :
    Calls Try.prog 3 #[v, u, .int .i64 x] w fun e w' => e = .returned (.bool true) ∧ Below w.heap.size w w' := by
  have hn := World.ownsRow_nil w w.heap.size 3 1
  go_enter Try.func3, Try.ntmps3
  go_wp2_with (first | (at_builtin; refine wpList_app rfl (.tmp 14) (.tmp 15) rfl w.heap.size (.slice none 0 0) [] rfl hn v xs rfl hv (by simp; omega) (Nat.le_refl _) ?_; intro c w1 hO1 hG1; have hB1 : Below w.heap.size w w1 := (Below.refl _ _).grown hG1 (Nat.le_refl _) (fun k hk => by simp [Value.ownBlock] at hk); have hu1 := hu.below hB1; rw [List.nil_append] at hO1; have hn1 := World.ownsRow_nil w1 w1.heap.size 3 1) | (at_builtin; refine wpList_app rfl (.tmp 17) (.tmp 18) rfl w1.heap.size (.slice none 0 0) [] rfl hn1 u ys rfl hu1 (by simp; omega) (Nat.le_refl _) ?_; intro d w2 hO2 hG2))
  have hB2 : Below w1.heap.size w1 w2 := (Below.refl _ _).grown hG2 (Nat.le_refl _) (fun k hk => by simp [Value.ownBlock] at hk)
  have hW2 : Below w.heap.size w w2 := hB1.trans (hB2.mono hB1.size)
  have hvB := hv.below hW2
  have huB := hu.below hW2
  have hcB := (hO1.below hB2).sees
  have hdB : Sees w2 d ys := Owns.sees (base := w1.heap.size) (by simpa using hO2)
  have hZ2 : Below w2.heap.size w2 w2 := Below.refl _ _
  have sz2 : w2.heap.size ≤ w2.heap.size := Nat.le_refl _
  clear hn hn1 hO1 hG1 hO2 hG2 hB1 hB2 hu1 hv hu
  go_wp2_with fail
  refine (of_any _ xs _ (hcB.below hZ2) (by omega)).mono ?_
  rintro e w3 ⟨o, rfl, hO, hB⟩
  obtain ⟨Lo, eL⟩ : ∃ L, L = sd xs := ⟨_, rfl⟩
  rw [← eL] at hO
  have lo : Lo.length ≤ xs.length + ys.length := by rw [eL]; have := length_sd_le xs; omega
  have Eo := hid eL
  have hZ3 := hZ2.trans (hB.mono hZ2.size)
  have sz3 : w2.heap.size ≤ w3.heap.size := hZ3.size
  have st3 := hB.size
  clear hZ2 
  have oo_3 := hO
  clear hO hB eL
  go_wp2_with fail
  refine (join_any _ _ xs ys _ (hcB.below hZ3) (hdB.below hZ3) (by omega)).mono ?_
  rintro e w4 ⟨j, rfl, hO, hB⟩
  obtain ⟨Lj, eL⟩ : ∃ L, L = sd (xs ++ ys) := ⟨_, rfl⟩
  rw [← eL] at hO
  have lj : Lj.length ≤ xs.length + ys.length := by rw [eL]; have := length_sd_le (xs ++ ys); rw [List.length_append] at this; exact this
  have Ej := hid eL
  have noj : Hid (∀ jj, Value.ownBlock o = some jj → jj < w3.heap.size) := fun jj hj => (oo_3.lt jj hj).2
  have hZ4 := hZ3.trans (hB.mono hZ3.size)
  have sz4 : w2.heap.size ≤ w4.heap.size := hZ4.size
  have st4 := hB.size
  have oo_4 := oo_3.below hB
  clear hZ3 oo_3
  have oj_4 := hO
  clear hO hB eL
  go_wp2_with fail
  refine (meet_any _ _ xs ys _ (hcB.below hZ4) (hdB.below hZ4) (by omega)).mono ?_
  rintro e w5 ⟨m, rfl, hO, hB⟩
  obtain ⟨Lm, eL⟩ : ∃ L, L = meetL xs ys := ⟨_, rfl⟩
  rw [← eL] at hO
  have lm : Lm.length ≤ xs.length + ys.length := by rw [eL]; have := length_meetL xs ys; omega
  have Em := hid eL
  have nom : Hid (∀ jj, Value.ownBlock o = some jj → jj < w4.heap.size) := fun jj hj => (oo_4.lt jj hj).2
  have njm : Hid (∀ jj, Value.ownBlock j = some jj → jj < w4.heap.size) := fun jj hj => (oj_4.lt jj hj).2
  have hZ5 := hZ4.trans (hB.mono hZ4.size)
  have sz5 : w2.heap.size ≤ w5.heap.size := hZ5.size
  have st5 := hB.size
  have oo_5 := oo_4.below hB
  have oj_5 := oj_4.below hB
  clear hZ4 oo_4 oj_4
  have om_5 := hO
  clear hO hB eL
  go_wp2_with fail
  refine (less_any _ _ xs ys _ (hcB.below hZ5) (hdB.below hZ5) (by omega)).mono ?_
  rintro e w6 ⟨l, rfl, hO, hB⟩
  obtain ⟨Ll, eL⟩ : ∃ L, L = lessL xs ys := ⟨_, rfl⟩
  rw [← eL] at hO
  have ll : Ll.length ≤ xs.length + ys.length := by rw [eL]; have := length_lessL xs ys; omega
  have El := hid eL
  have nol : Hid (∀ jj, Value.ownBlock o = some jj → jj < w5.heap.size) := fun jj hj => (oo_5.lt jj hj).2
  have njl : Hid (∀ jj, Value.ownBlock j = some jj → jj < w5.heap.size) := fun jj hj => (oj_5.lt jj hj).2
  have nml : Hid (∀ jj, Value.ownBlock m = some jj → jj < w5.heap.size) := fun jj hj => (om_5.lt jj hj).2
  have hZ6 := hZ5.trans (hB.mono hZ5.size)
  have sz6 : w2.heap.size ≤ w6.heap.size := hZ6.size
  have st6 := hB.size
  have oo_6 := oo_5.below hB
  have oj_6 := oj_5.below hB
  have om_6 := om_5.below hB
  clear hZ5 oo_5 oj_5 om_5
  have ol_6 := hO
  clear hO hB eL
  go_wp2_with fail
  refine (refOf_any _ xs _ (hvB.below hZ6) (by omega)).mono ?_
  rintro e w7 ⟨ro, rfl, hO, hB⟩
  obtain ⟨Lro, eL⟩ : ∃ L, L = sd xs := ⟨_, rfl⟩
  rw [← eL] at hO
  have lro : Lro.length ≤ xs.length + ys.length := by rw [eL]; have := length_sd_le xs; omega
  have Ero := hid eL
  have noro : Hid (∀ jj, Value.ownBlock o = some jj → jj < w6.heap.size) := fun jj hj => (oo_6.lt jj hj).2
  have njro : Hid (∀ jj, Value.ownBlock j = some jj → jj < w6.heap.size) := fun jj hj => (oj_6.lt jj hj).2
  have nmro : Hid (∀ jj, Value.ownBlock m = some jj → jj < w6.heap.size) := fun jj hj => (om_6.lt jj hj).2
  have nlro : Hid (∀ jj, Value.ownBlock l = some jj → jj < w6.heap.size) := fun jj hj => (ol_6.lt jj hj).2
  have hZ7 := hZ6.trans (hB.mono hZ6.size)
  have sz7 : w2.heap.size ≤ w7.heap.size := hZ7.size
  have st7 := hB.size
  have oo_7 := oo_6.below hB
  have oj_7 := oj_6.below hB
  have om_7 := om_6.below hB
  have ol_7 := ol_6.below hB
  clear hZ6 oo_6 oj_6 om_6 ol_6
  have oro_7 := hO
  clear hO hB eL
  go_wp2_with fail
  have hM := same_any _ _ Lo Lro _ oo_7.sees oro_7.sees (by omega) (by omega)
  have he : decide (Lo = Lro) = true := decide_eq_true (Eo.out.trans Ero.out.symm)
  rw [he] at hM
  refine hM.mono ?_
  clear hM he
  rintro e w8 ⟨rfl, hB⟩
  have hZ8 := hZ7.trans (hB.mono hZ7.size)
  have sz8 : w2.heap.size ≤ w8.heap.size := hZ8.size
  have st8 := hB.size
  have oo_8 := oo_7.below hB
  have oj_8 := oj_7.below hB
  have om_8 := om_7.below hB
  have ol_8 := ol_7.below hB
  have oro_8 := oro_7.below hB
  clear hZ7 oo_7 oj_7 om_7 ol_7 oro_7
  clear hB
  go_wp2_with fail
  refine (refJoin_any _ _ xs ys _ (hvB.below hZ8) (huB.below hZ8) (by omega)).mono ?_
  rintro e w9 ⟨rj, rfl, hO, hB⟩
  obtain ⟨Lrj, eL⟩ : ∃ L, L = sd (xs ++ ys) := ⟨_, rfl⟩
  rw [← eL] at hO
  have lrj : Lrj.length ≤ xs.length + ys.length := by rw [eL]; have := length_sd_le (xs ++ ys); rw [List.length_append] at this; exact this
  have Erj := hid eL
  have norj : Hid (∀ jj, Value.ownBlock o = some jj → jj < w8.heap.size) := fun jj hj => (oo_8.lt jj hj).2
  have njrj : Hid (∀ jj, Value.ownBlock j = some jj → jj < w8.heap.size) := fun jj hj => (oj_8.lt jj hj).2
  have nmrj : Hid (∀ jj, Value.ownBlock m = some jj → jj < w8.heap.size) := fun jj hj => (om_8.lt jj hj).2
  have nlrj : Hid (∀ jj, Value.ownBlock l = some jj → jj < w8.heap.size) := fun jj hj => (ol_8.lt jj hj).2
  have hZ9 := hZ8.trans (hB.mono hZ8.size)
  have sz9 : w2.heap.size ≤ w9.heap.size := hZ9.size
  have st9 := hB.size
  have oo_9 := oo_8.below hB
  have oj_9 := oj_8.below hB
  have om_9 := om_8.below hB
  have ol_9 := ol_8.below hB
  clear hZ8 oo_8 oj_8 om_8 ol_8
  have orj_9 := hO
  clear hO hB eL
  go_wp2_with fail
  have hM := same_any _ _ Lj Lrj _ oj_9.sees orj_9.sees (by omega) (by omega)
  have he : decide (Lj = Lrj) = true := decide_eq_true (Ej.out.trans Erj.out.symm)
  rw [he] at hM
  refine hM.mono ?_
  clear hM he
  rintro e w10 ⟨rfl, hB⟩
  have hZ10 := hZ9.trans (hB.mono hZ9.size)
  have sz10 : w2.heap.size ≤ w10.heap.size := hZ10.size
  have st10 := hB.size
  have oo_10 := oo_9.below hB
  have oj_10 := oj_9.below hB
  have om_10 := om_9.below hB
  have ol_10 := ol_9.below hB
  have orj_10 := orj_9.below hB
  clear hZ9 oo_9 oj_9 om_9 ol_9 orj_9
  clear hB
  go_wp2_with fail
  refine (refMeet_any _ _ xs ys _ (hvB.below hZ10) (huB.below hZ10) (by omega)).mono ?_
  rintro e w11 ⟨rm, rfl, hO, hB⟩
  obtain ⟨Lrm, eL⟩ : ∃ L, L = meetL xs ys := ⟨_, rfl⟩
  rw [← eL] at hO
  have lrm : Lrm.length ≤ xs.length + ys.length := by rw [eL]; have := length_meetL xs ys; omega
  have Erm := hid eL
  have norm : Hid (∀ jj, Value.ownBlock o = some jj → jj < w10.heap.size) := fun jj hj => (oo_10.lt jj hj).2
  have njrm : Hid (∀ jj, Value.ownBlock j = some jj → jj < w10.heap.size) := fun jj hj => (oj_10.lt jj hj).2
  have nmrm : Hid (∀ jj, Value.ownBlock m = some jj → jj < w10.heap.size) := fun jj hj => (om_10.lt jj hj).2
  have nlrm : Hid (∀ jj, Value.ownBlock l = some jj → jj < w10.heap.size) := fun jj hj => (ol_10.lt jj hj).2
  have hZ11 := hZ10.trans (hB.mono hZ10.size)
  have sz11 : w2.heap.size ≤ w11.heap.size := hZ11.size
  have st11 := hB.size
  have oo_11 := oo_10.below hB
  have oj_11 := oj_10.below hB
  have om_11 := om_10.below hB
  have ol_11 := ol_10.below hB
  clear hZ10 oo_10 oj_10 om_10 ol_10
  have orm_11 := hO
  clear hO hB eL
  go_wp2_with fail
  have hM := same_any _ _ Lm Lrm _ om_11.sees orm_11.sees (by omega) (by omega)
  have he : decide (Lm = Lrm) = true := decide_eq_true (Em.out.trans Erm.out.symm)
  rw [he] at hM
  refine hM.mono ?_
  clear hM he
  rintro e w12 ⟨rfl, hB⟩
  have hZ12 := hZ11.trans (hB.mono hZ11.size)
  have sz12 : w2.heap.size ≤ w12.heap.size := hZ12.size
  have st12 := hB.size
  have oo_12 := oo_11.below hB
  have oj_12 := oj_11.below hB
  have om_12 := om_11.below hB
  have ol_12 := ol_11.below hB
  have orm_12 := orm_11.below hB
  clear hZ11 oo_11 oj_11 om_11 ol_11 orm_11
  clear hB
  go_wp2_with fail
  refine (refLess_any _ _ xs ys _ (hvB.below hZ12) (huB.below hZ12) (by omega)).mono ?_
  rintro e w13 ⟨rl, rfl, hO, hB⟩
  obtain ⟨Lrl, eL⟩ : ∃ L, L = lessL xs ys := ⟨_, rfl⟩
  rw [← eL] at hO
  have lrl : Lrl.length ≤ xs.length + ys.length := by rw [eL]; have := length_lessL xs ys; omega
  have Erl := hid eL
  have norl : Hid (∀ jj, Value.ownBlock o = some jj → jj < w12.heap.size) := fun jj hj => (oo_12.lt jj hj).2
  have njrl : Hid (∀ jj, Value.ownBlock j = some jj → jj < w12.heap.size) := fun jj hj => (oj_12.lt jj hj).2
  have nmrl : Hid (∀ jj, Value.ownBlock m = some jj → jj < w12.heap.size) := fun jj hj => (om_12.lt jj hj).2
  have nlrl : Hid (∀ jj, Value.ownBlock l = some jj → jj < w12.heap.size) := fun jj hj => (ol_12.lt jj hj).2
  have hZ13 := hZ12.trans (hB.mono hZ12.size)
  have sz13 : w2.heap.size ≤ w13.heap.size := hZ13.size
  have st13 := hB.size
  have oo_13 := oo_12.below hB
  have oj_13 := oj_12.below hB
  have om_13 := om_12.below hB
  have ol_13 := ol_12.below hB
  clear hZ12 oo_12 oj_12 om_12 ol_12
  have orl_13 := hO
  clear hO hB eL
  go_wp2_with fail
  have hM := same_any _ _ Ll Lrl _ ol_13.sees orl_13.sees (by omega) (by omega)
  have he : decide (Ll = Lrl) = true := decide_eq_true (El.out.trans Erl.out.symm)
  rw [he] at hM
  refine hM.mono ?_
  clear hM he
  rintro e w14 ⟨rfl, hB⟩
  have hZ14 := hZ13.trans (hB.mono hZ13.size)
  have sz14 : w2.heap.size ≤ w14.heap.size := hZ14.size
  have st14 := hB.size
  have oo_14 := oo_13.below hB
  have oj_14 := oj_13.below hB
  have om_14 := om_13.below hB
  have ol_14 := ol_13.below hB
  have orl_14 := orl_13.below hB
  clear hZ13 oo_13 oj_13 om_13 ol_13 orl_13
  clear hB
  obtain ⟨q1, hq1⟩ : ∃ q, q = decide (x ∈ xs) := ⟨_, rfl⟩
  have Q1 := hid hq1
  clear hq1
  go_wp2_with fail
  have hM := hasL_any _ xs x _ (hcB.below hZ14) (by omega)
  rw [← Q1.out] at hM
  refine hM.mono ?_
  clear hM
  rintro e wz ⟨rfl, hwz⟩
  subst hwz
  go_wp2_with fail
  have hM := has_any _ xs x _ (hvB.below hZ14) (by omega)
  rw [← Q1.out] at hM
  refine hM.mono ?_
  clear hM
  rintro e wy ⟨rfl, hwy⟩
  subst hwy
  obtain ⟨q2, hq2⟩ : ∃ q, q = withinB xs ys := ⟨_, rfl⟩
  have Q2 := hid hq2
  clear hq2
  go_wp2_with fail
  have hM := within_any _ _ xs ys _ (hcB.below hZ14) (hdB.below hZ14) (by omega)
  rw [← Q2.out] at hM
  refine hM.mono ?_
  clear hM
  rintro e w15 ⟨rfl, hB⟩
  have hZ15 := hZ14.trans (hB.mono hZ14.size)
  have sz15 : w2.heap.size ≤ w15.heap.size := hZ15.size
  have st15 := hB.size
  have oo_15 := oo_14.below hB
  have oj_15 := oj_14.below hB
  have om_15 := om_14.below hB
  have ol_15 := ol_14.below hB
  clear hZ14 oo_14 oj_14 om_14 ol_14
  clear hB
  go_wp2_with fail
  have hM := refWithin_any _ _ xs ys _ (hvB.below hZ15) (huB.below hZ15) (by omega)
  rw [← Q2.out] at hM
  refine hM.mono ?_
  clear hM
  rintro e w16 ⟨rfl, hB⟩
  have hZ16 := hZ15.trans (hB.mono hZ15.size)
  have sz16 : w2.heap.size ≤ w16.heap.size := hZ16.size
  have st16 := hB.size
  have oo_16 := oo_15.below hB
  have oj_16 := oj_15.below hB
  have om_16 := om_15.below hB
  have ol_16 := ol_15.below hB
  clear hZ15 oo_15 oj_15 om_15 ol_15
  clear hB
  go_wp2_with fail
  refine (spoil_any o Lo _ _ oo_16 (by omega) (by omega)).mono ?_
  rintro e w17 ⟨rfl, hG⟩
  have hZ17 := hZ16.grown hG hZ16.size (fun jj hj => by have := (oo_16.lt jj hj).1; omega)
  have sz17 : w2.heap.size ≤ w17.heap.size := hZ17.size
  have oj_17 := owns_kept noj.out oj_16 hG
  have om_17 := owns_kept nom.out om_16 hG
  have ol_17 := owns_kept nol.out ol_16 hG
  have szg17 : w16.heap.size ≤ w17.heap.size := hG.size
  clear hG hZ16 oo_16 oj_16 om_16 ol_16
  go_wp2_with fail
  refine (spoil_any j Lj _ _ oj_17 (by omega) (by omega)).mono ?_
  rintro e w18 ⟨rfl, hG⟩
  have hZ18 := hZ17.grown hG hZ17.size (fun jj hj => by have := (oj_17.lt jj hj).1; omega)
  have sz18 : w2.heap.size ≤ w18.heap.size := hZ18.size
  have om_18 := owns_kept njm.out om_17 hG
  have ol_18 := owns_kept njl.out ol_17 hG
  have szg18 : w17.heap.size ≤ w18.heap.size := hG.size
  clear hG hZ17 oj_17 om_17 ol_17
  go_wp2_with fail
  refine (spoil_any m Lm _ _ om_18 (by omega) (by omega)).mono ?_
  rintro e w19 ⟨rfl, hG⟩
  have hZ19 := hZ18.grown hG hZ18.size (fun jj hj => by have := (om_18.lt jj hj).1; omega)
  have sz19 : w2.heap.size ≤ w19.heap.size := hZ19.size
  have ol_19 := owns_kept nml.out ol_18 hG
  have szg19 : w18.heap.size ≤ w19.heap.size := hG.size
  clear hG hZ18 om_18 ol_18
  go_wp2_with fail
  refine (spoil_any l Ll _ _ ol_19 (by omega) (by omega)).mono ?_
  rintro e w20 ⟨rfl, hG⟩
  have hZ20 := hZ19.grown hG hZ19.size (fun jj hj => by have := (ol_19.lt jj hj).1; omega)
  have sz20 : w2.heap.size ≤ w20.heap.size := hZ20.size
  have szg20 : w19.heap.size ≤ w20.heap.size := hG.size
  clear hG hZ19 ol_19
  go_wp2_with fail
  have hM := same_any _ _ xs xs _ (hcB.below hZ20) (hvB.below hZ20) (by omega) (by omega)
  rw [decide_eq_true (rfl : xs = xs)] at hM
  refine hM.mono ?_
  clear hM
  rintro e w21 ⟨rfl, hB⟩
  have hZ21 := hZ20.trans (hB.mono hZ20.size)
  have sz21 : w2.heap.size ≤ w21.heap.size := hZ21.size
  have st21 := hB.size
  clear hZ20 
  clear hB
  go_wp2_with fail
  have hM := same_any _ _ ys ys _ (hdB.below hZ21) (huB.below hZ21) (by omega) (by omega)
  rw [decide_eq_true (rfl : ys = ys)] at hM
  refine hM.mono ?_
  clear hM
  rintro e w22 ⟨rfl, hB⟩
  have hZ22 := hZ21.trans (hB.mono hZ21.size)
  have sz22 : w2.heap.size ≤ w22.heap.size := hZ22.size
  have st22 := hB.size
  clear hZ21 
  clear hB
  go_wp2_with fail
  refine (awake_any _).mono ?_
  rintro e w23 ⟨rfl, hB⟩
  have hZ23 := hZ22.trans (hB.mono hZ22.size)
  have sz23 : w2.heap.size ≤ w23.heap.size := hZ23.size
  have st23 := hB.size
  clear hZ22 
  go_wp2
  go_ret
  exact ⟨rfl, hW2.trans (hZ23.mono hW2.size)⟩

end Go.Proofs.Ytaillppmfbbnjaa

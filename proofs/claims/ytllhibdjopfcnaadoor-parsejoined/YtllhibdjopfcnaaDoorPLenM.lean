/-
  ParseLengths: the digits of a number as the law writes them, and parts of a slice of bytes as texts.
-/
import Derived.Test.YtllhibdjopfcnaaDoorPReqs
import Derived.Test.YtllhibdjopfcnaaDoorHParse
namespace Go.Proofs.YtllhibdjopfcnaaDoor
open Go.RowKit
set_option linter.unusedVariables false

theorem and_low (x : Int) : ∃ n : Nat, n ≤ 32767 ∧ bits .and .i64 x 32767 = (n : Int) := by
  have h : (BitVec.ofInt 64 x).toNat &&& 32767 < 2 ^ 15 := Nat.and_lt_two_pow _ (by decide)
  refine ⟨(BitVec.ofInt 64 x).toNat &&& 32767, by omega, ?_⟩
  show IntKind.i64.wrap ((BitVec.ofInt 64 x &&& BitVec.ofInt 64 ((32767 : Nat) : Int)).toNat : Int) = _
  rw [BitVec.toNat_and, ofInt_64 32767 (by omega), wrap_i64_nat _ (by omega)]

/-- The digits d that are written, the rest m of the number n. -/
def DecInv (n m : Nat) (d : List UInt8) : Prop := (d = [] ∧ m = n) ∨ (d ≠ [] ∧ m = 0 ∧ d = decW n) ∨ (d ≠ [] ∧ 0 < m ∧ decW m ++ d = decW n)
theorem DecInv.step {n m : Nat} {d : List UInt8} (h : DecInv n m d) (hg : 0 < m ∨ d = []) : DecInv n (m / 10) (dgD (m % 10) :: d) := by
  rcases h with ⟨rfl, rfl⟩ | ⟨h1, h2, _⟩ | ⟨h1, h2, h3⟩
  · by_cases h : m < 10
    · exact Or.inr (Or.inl ⟨by simp, by omega, by rw [decW_small h, Nat.mod_eq_of_lt h]⟩)
    · exact Or.inr (Or.inr ⟨by simp, by omega, by rw [decW_big h]⟩)
  · rcases hg with h | h
    · omega
    · exact absurd h h1
  · by_cases h : m < 10
    · exact Or.inr (Or.inl ⟨by simp, by omega, by rw [← h3, decW_small h, Nat.mod_eq_of_lt h]; rfl⟩)
    · exact Or.inr (Or.inr ⟨by simp, by omega, by rw [← h3, decW_big h, List.append_assoc]; rfl⟩)
theorem DecInv.fin {n : Nat} {d : List UInt8} (h : DecInv n 0 d) (hd : d ≠ []) : d = decW n := by
  rcases h with ⟨h, _⟩ | ⟨_, _, h⟩ | ⟨_, h, _⟩
  · exact absurd h hd
  · exact h
  · omega
theorem numL_grow (a : List UInt8) : ∀ d : List UInt8, numL a ≤ numL (a ++ d) := by
  intro d
  induction d generalizing a with
  | nil => simp
  | cons b d ih =>
    have h1 := ih (a ++ [b])
    rw [numL_snoc] at h1
    rw [show a ++ b :: d = (a ++ [b]) ++ d by simp]
    omega
theorem DecInv.len {n m : Nat} {d : List UInt8} (h : DecInv n m d) (hn : n ≤ 32767) : d.length ≤ 5 ∧ m ≤ 32767 := by
  have hl := (decW_len 4 n (by simp; omega)).2
  rcases h with ⟨rfl, rfl⟩ | ⟨_, rfl, rfl⟩ | ⟨_, _, h⟩
  · exact ⟨by simp, hn⟩
  · exact ⟨hl, by omega⟩
  · have h2 := congrArg List.length h
    rw [List.length_append] at h2
    refine ⟨by omega, ?_⟩
    apply Classical.byContradiction
    intro hm
    have e1 := decW_num m
    have e2 := decW_num n
    have hle : numL (decW m) ≤ numL (decW m ++ d) := by
      exact numL_grow _ d
    rw [h, e1, e2] at hle
    omega
theorem digit_str : ∀ j, j < 10 → (⟨#[48, 49, 50, 51, 52, 53, 54, 55, 56, 57]⟩ : ByteArray).extract j (j + 1) = ⟨#[dgD j]⟩ := by decide

/-- Bytes lie in the world. -/
def LiesB (w : World) (g : Nat) (l : List UInt8) : Prop := ∀ j, (h : j < l.length) → w.cell? ⟨g, j, none⟩ = some (.int .u8 ((l[j]).toNat : Int))
theorem OwnsB.lies {w : World} {base : Nat} {v : Value} {l : List UInt8} (h : OwnsB w base v l) (h0 : l ≠ []) : ∃ g cap, v = .slice (some ⟨g, 0, none⟩) l.length cap ∧ base ≤ g ∧ l.length ≤ cap ∧ LiesB w g l := by
  rcases h.2 with ⟨rfl, hn⟩ | ⟨g, cap, cur, rfl, hbase, hg, hcap, _, _, ht⟩
  · rw [List.length_map] at hn
    exact absurd (List.eq_nil_of_length_eq_zero hn) h0
  · refine ⟨g, cap, by rw [List.length_map], hbase, by rw [List.length_map] at hcap; exact hcap, fun j hj => ?_⟩
    have hj' : j < (l.map UInt8.toNat).length := by rw [List.length_map]; exact hj
    have hc := OwnsN.sees h
    obtain ⟨b, off, ao, cap2, he, _, _, ha, hcell⟩ := hc
    have ha' := ha (by intro h; rw [h] at hj'; simp at hj')
    subst ha'
    simp only [Value.slice.injEq, Option.some.injEq, Addr.mk.injEq] at he
    obtain ⟨⟨rfl, rfl, _⟩, _, _⟩ := he
    have := hcell j hj'
    rw [Nat.zero_add] at this
    rw [this]
    simp [List.getD, hj]
theorem conv_part {w : World} {g : Nat} {l : List UInt8} (h : LiesB w g l) (k n cap : Nat) (hk : k + n ≤ l.length) : (convert 53 9 (.slice (some ⟨g, k, none⟩) n cap)).run Tryd.prog w = .ok (.string ⟨((l.drop k).take n).toArray⟩) w := by
  have hl : ((l.drop k).take n).length = n := by rw [List.length_take, List.length_drop]; omega
  rw [← strOf_toNat, ← strOfNums_cast]
  have := run_convert_bytes_arg (P := Tryd.prog) w 53 5 Tryd.underlying53 Tryd.underlying5 g k n cap ((((l.drop k).take n).map UInt8.toNat).map fun (x : Nat) => (x : Int)) (by simp; omega) (fun i hi => by
    have hi' : i < n := by simpa [hl] using hi
    rw [h (k + i) (by omega)]
    simp [List.getElem?_drop, hi', show k + i < l.length by omega]) 9 Tryd.underlying9
  exact this

theorem str_joinL (a b : List UInt8) : (⟨a.toArray⟩ : ByteArray) ++ ⟨b.toArray⟩ = ⟨(a ++ b).toArray⟩ := by
  apply ByteArray.ext
  simp [ByteArray.data_append]
theorem lenS_str (d : List UInt8) : (⟨#[80, 85, 84, 32, 47, 120, 32, 72, 84, 84, 80, 47, 49, 46, 49, 13, 10, 72, 111, 115, 116, 58, 32, 97, 13, 10, 67, 111, 110, 116, 101, 110, 116, 45, 76, 101, 110, 103, 116, 104, 58, 32]⟩ : ByteArray) ++ ⟨d.toArray⟩ ++ ⟨#[13, 10, 13, 10]⟩ = ⟨(lenS d).toArray⟩ := by
  rw [show (⟨#[80, 85, 84, 32, 47, 120, 32, 72, 84, 84, 80, 47, 49, 46, 49, 13, 10, 72, 111, 115, 116, 58, 32, 97, 13, 10, 67, 111, 110, 116, 101, 110, 116, 45, 76, 101, 110, 103, 116, 104, 58, 32]⟩ : ByteArray) = ⟨(putS ++ (clRaw ++ [58, 32])).toArray⟩ from rfl, str_joinL (putS ++ (clRaw ++ [58, 32])) d, show (⟨#[13, 10, 13, 10]⟩ : ByteArray) = ⟨([13, 10, 13, 10] : List UInt8).toArray⟩ from rfl, str_joinL]
  simp [lenS]
theorem lenS_len (d : List UInt8) : (lenS d).length = 46 + d.length := by
  simp [lenS, putS, clRaw]
  omega
/-- What a slice that begins at ao holds: bytes l, in a block below p. -/
def LiesV (w : World) (p : Nat) (ao : Option Addr) (l : List UInt8) : Prop := (ao = none ∧ l = []) ∨ ∃ g, ao = some ⟨g, 0, none⟩ ∧ g < p ∧ LiesB w g l
theorem OwnsB.liesV {w : World} {base k cap : Nat} {ao : Option Addr} {l : List UInt8} (h : OwnsB w base (.slice ao k cap) l) : LiesV w w.heap.size ao l ∧ l.length ≤ cap := by
  by_cases h0 : l = []
  · subst h0
    rcases h.2 with ⟨he, _⟩ | ⟨g, cap', cur, he, hbase, hg, _⟩
    · simp only [Value.slice.injEq] at he
      exact ⟨Or.inl ⟨he.1, rfl⟩, Nat.zero_le _⟩
    · simp only [Value.slice.injEq] at he
      exact ⟨Or.inr ⟨g, he.1, (Array.getElem?_eq_some_iff.1 hg).1, fun j hj => by simp at hj⟩, Nat.zero_le _⟩
  · obtain ⟨g, cap', he, hb, hc, hl⟩ := OwnsB.lies h h0
    simp only [Value.slice.injEq] at he
    obtain ⟨rfl, _, rfl⟩ := he
    exact ⟨Or.inr ⟨g, rfl, World.block_lt_of_cell? w _ (hl 0 (List.length_pos_iff.2 h0)), hl⟩, hc⟩
theorem LiesV.below {w w' : World} {p : Nat} {ao : Option Addr} {l : List UInt8} (h : LiesV w p ao l) (hb : Below p w w') : LiesV w' p ao l := by
  rcases h with h | ⟨g, rfl, hg, hl⟩
  · exact Or.inl h
  · exact Or.inr ⟨g, rfl, hg, fun j hj => (hb.cell hg).trans (hl j hj)⟩
theorem LiesV.kept {w w' : World} {p B : Nat} {ao : Option Addr} {l : List UInt8} (h : LiesV w p ao l) (hk : Kept p B w w') (hB : p ≤ B) : LiesV w' p ao l := by
  rcases h with h | ⟨g, rfl, hg, hl⟩
  · exact Or.inl h
  · refine Or.inr ⟨g, rfl, hg, fun j hj => ?_⟩
    have := hk.block g (by omega) (by omega)
    rw [← hl j hj]
    simp only [World.cell?, this]
theorem LiesV.conv {w : World} {p : Nat} {ao : Option Addr} {l : List UInt8} (h : LiesV w p ao l) (j cap : Nat) (hj : j ≤ l.length) : (convert 53 9 (.slice ao j cap)).run Tryd.prog w = .ok (.string ⟨(l.take j).toArray⟩) w := by
  rcases h with ⟨rfl, rfl⟩ | ⟨g, rfl, hg, hl⟩
  · have : j = 0 := by simpa using hj
    subst this
    exact run_convert_bytes_nil w 53 5 Tryd.underlying53 Tryd.underlying5 0 cap 9 Tryd.underlying9
  · exact conv_part hl 0 j cap (by omega)
theorem LiesV.convTail {w : World} {p : Nat} {ao : Option Addr} {l : List UInt8} (h : LiesV w p ao l) (j k cap : Nat) (hk : k = l.length) (hj : j ≤ k) : (convert 53 9 (.slice (Option.map (fun x => x.add j) ao) (k - j) cap)).run Tryd.prog w = .ok (.string ⟨(l.drop j).toArray⟩) w := by
  rcases h with ⟨rfl, rfl⟩ | ⟨g, rfl, hg, hl⟩
  · rw [List.drop_nil]
    exact run_convert_bytes_nil w 53 5 Tryd.underlying53 Tryd.underlying5 _ cap 9 Tryd.underlying9
  · have := conv_part hl j (k - j) cap (by omega)
    rw [List.take_of_length_le (by rw [List.length_drop]; omega)] at this
    rw [Option.map_some, addr_add, Nat.zero_add]
    exact this
theorem first_nilL : firstL [] = (.error none) := by rfl

end Go.Proofs.YtllhibdjopfcnaaDoor

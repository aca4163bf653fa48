/-
  A block that holds a row of numbers: read, written, kept.
-/
import Derived.Test.YtplljpodejpbgaaGreatDoorXFirst
import Derived.Deep.MidRow
namespace Go.Proofs.YtplljpodejpbgaaGreatDoor
open Go.RowKit
set_option linter.unusedVariables false

/-- Block b holds the numbers xs. -/
def Blk (w : World) (b : Nat) (k : IntKind) (xs : List Nat) (t : TypeId) : Prop := w.heap[b]? = some (.cells (cellsN k xs).toArray t (0, 0))

theorem Blk.cell {w : World} {b : Nat} {k : IntKind} {xs : List Nat} {t : TypeId} (h : Blk w b k xs t) (j : Nat) (hj : j < xs.length) : w.cell? ⟨b, j, none⟩ = some (.int k ((xs.getD j 0 : Nat) : Int)) := by
  rw [cell_of_row w b j _ t _ h]
  rw [List.getElem?_toArray, cellsN_get k xs j hj]
theorem Blk.warm {w : World} {b : Nat} {k : IntKind} {xs : List Nat} {t : TypeId} (h : Blk w b k xs t) (j : Nat) : w.frozen? ⟨b, j, none⟩ = false := by
  unfold Blk at h
  simp [World.frozen?, h]
theorem Blk.lt {w : World} {b : Nat} {k : IntKind} {xs : List Nat} {t : TypeId} (h : Blk w b k xs t) : b < w.heap.size := (Array.getElem?_eq_some_iff.1 h).1
theorem Blk.below {w w' : World} {b : Nat} {k : IntKind} {xs : List Nat} {t : TypeId} (h : Blk w b k xs t) {B : Nat} (hb : Below B w w') (hB : b < B) : Blk w' b k xs t := by
  unfold Blk
  rw [hb.block b hB]
  exact h
theorem Blk.set {w : World} {b : Nat} {k : IntKind} {xs : List Nat} {t : TypeId} (h : Blk w b k xs t) (j y : Nat) : Blk (w.setCell ⟨b, j, none⟩ (.int k (y : Int))) b k (xs.set j y) t := by
  unfold Blk at *
  simp only [World.setCell, Array.getElem?_modify, h]
  simp [cellsN, List.map_set]
theorem Blk.other {w : World} {b b' : Nat} {k : IntKind} {xs : List Nat} {t : TypeId} (h : Blk w b k xs t) (hne : b' ≠ b) (o : Nat) (v : Value) : Blk (w.setCell ⟨b', o, none⟩ v) b k xs t := by
  unfold Blk at *
  simp only [World.setCell, Array.getElem?_modify, if_neg hne]
  exact h
theorem Blk.drew {w : World} {b : Nat} {k : IntKind} {xs : List Nat} {t : TypeId} (h : Blk w b k xs t) (n : Nat) : Blk (w.drewN n) b k xs t :=
  h.below (below_drewN (Below.refl w.heap.size w) n) h.lt
theorem below_set {B : Nat} {w0 w : World} (h : Below B w0 w) {b : Nat} (hb : B ≤ b) (o : Nat) (v : Value) : Below B w0 (w.setCell ⟨b, o, none⟩ v) := h.setCell hb _

theorem heap3a (w : World) (A B C : Obj) : (((w.alloc A).alloc B).alloc C).heap[w.heap.size]? = some A := by
  rw [heap_alloc_old _ _ (by simp; omega), heap_alloc2_old]
theorem heap3b (w : World) (A B C : Obj) : (((w.alloc A).alloc B).alloc C).heap[w.heap.size + 1]? = some B := by
  rw [heap_alloc_old _ _ (by simp), heap_alloc2_new]
theorem heap3c (w : World) (A B C : Obj) : (((w.alloc A).alloc B).alloc C).heap[w.heap.size + 1 + 1]? = some C := by
  have h := heap_alloc_new ((w.alloc A).alloc B) C
  simpa using h

theorem set_next {xs : List Nat} {t n y : Nat} (h : xs.length = t) (hn : t < n) : (xs ++ List.replicate (n - t) 0).set t y = (xs ++ [y]) ++ List.replicate (n - (t + 1)) 0 := by
  obtain ⟨m, hm⟩ : ∃ m, n - t = m + 1 := ⟨n - t - 1, by omega⟩
  rw [List.set_append_right _ _ (by omega), hm, show n - (t + 1) = m by omega, h, Nat.sub_self]
  simp [List.replicate_succ]

theorem wrap_u32_nat (n : Nat) (h : n < 4294967296) : IntKind.u32.wrap (n : Int) = n := by rw [IntKind.wrap_u32']; omega
theorem wrap_u32_cast (n : Nat) : IntKind.u32.wrap (n : Int) = ((n % 4294967296 : Nat) : Int) := by rw [IntKind.wrap_u32']; omega

theorem or3_u32 (b0 b1 b2 b3 : Nat) (h0 : b0 < 256) (h1 : b1 < 256) (h2 : b2 < 256) (h3 : b3 < 256) :
    bits .or .u32 (bits .or .u32 (bits .or .u32 ((b0 : Int) * 16777216) ((b1 : Int) * 65536)) ((b2 : Int) * 256)) (b3 : Int) = ((b0 * 16777216 + b1 * 65536 + b2 * 256 + b3 : Nat) : Int) := by
  have e0 : ((b0 : Int) * (16777216 : Int)) = ((b0 * 16777216 : Nat) : Int) := by simp
  have e1 : ((b1 : Int) * (65536 : Int)) = ((b1 * 65536 : Nat) : Int) := by simp
  have e2 : ((b2 : Int) * (256 : Int)) = ((b2 * 256 : Nat) : Int) := by simp
  have join : ∀ (a b n : Nat), b < 2 ^ n → a * 2 ^ n ||| b = a * 2 ^ n + b := fun a b n hb => by
    rw [Nat.mul_comm, Nat.two_pow_add_eq_or_of_lt hb]
  have j1 : b0 * 16777216 ||| b1 * 65536 = (b0 * 256 + b1) * 65536 := by
    have h := join b0 (b1 * 65536) 24 (by omega)
    rw [show (2 : Nat) ^ 24 = 16777216 from rfl] at h
    rw [h]; omega
  have j2 : (b0 * 256 + b1) * 65536 ||| b2 * 256 = (b0 * 65536 + b1 * 256 + b2) * 256 := by
    have h := join (b0 * 256 + b1) (b2 * 256) 16 (by omega)
    rw [show (2 : Nat) ^ 16 = 65536 from rfl] at h
    rw [h]; omega
  have j3 : (b0 * 65536 + b1 * 256 + b2) * 256 ||| b3 = b0 * 16777216 + b1 * 65536 + b2 * 256 + b3 := by
    have h := join (b0 * 65536 + b1 * 256 + b2) b3 8 (by omega)
    rw [show (2 : Nat) ^ 8 = 256 from rfl] at h
    rw [h]; omega
  rw [e0, e1, e2, u32_or_nat _ _ (by omega) (by omega), j1, u32_or_nat _ _ (by omega) (by omega), j2, u32_or_nat _ _ (by omega) (by omega), j3]

theorem xor3_u32 (a b c : Nat) (ha : a < 4294967296) (hb : b < 4294967296) (hc : c < 4294967296) : bits .xor .u32 (bits .xor .u32 (a : Int) (b : Int)) (c : Int) = ((a ^^^ b ^^^ c : Nat) : Int) := by
  rw [u32_xor_nat _ _ ha hb, u32_xor_nat _ _ (xor_lt ha hb) hc]

theorem spread_form (x y p q : Nat) (lx : x < 4294967296) (ly : y < 4294967296) (lp : p < 4294967296) (lq : q < 4294967296) :
    IntKind.u32.wrap (IntKind.u32.wrap (IntKind.u32.wrap ((p : Int) + bits .xor .u32 (bits .xor .u32 ((rot x 7 : Nat) : Int) ((rot x 18 : Nat) : Int)) ((x : Int) / 8)) + (q : Int)) + bits .xor .u32 (bits .xor .u32 ((rot y 17 : Nat) : Int) ((rot y 19 : Nat) : Int)) ((y : Int) / 1024)) = (((p + sm0 x + q + sm1 y) % 4294967296 : Nat) : Int) := by
  have e1 : ((x : Int) / (8 : Int)) = ((x >>> 3 : Nat) : Int) := by rw [Nat.shiftRight_eq_div_pow]; omega
  have e2 : ((y : Int) / (1024 : Int)) = ((y >>> 10 : Nat) : Int) := by rw [Nat.shiftRight_eq_div_pow]; omega
  rw [e1, e2, xor3_u32 _ _ _ (rot_lt _ _) (rot_lt _ _) (shr_lt lx), xor3_u32 _ _ _ (rot_lt _ _) (rot_lt _ _) (shr_lt ly)]
  show IntKind.u32.wrap (IntKind.u32.wrap (IntKind.u32.wrap ((p : Int) + (sm0 x : Nat)) + (q : Int)) + (sm1 y : Nat)) = _
  simp only [IntKind.wrap_u32']
  omega

end Go.Proofs.YtplljpodejpbgaaGreatDoor

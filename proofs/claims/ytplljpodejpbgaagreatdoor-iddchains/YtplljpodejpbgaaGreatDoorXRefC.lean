/-
  The document's digest of a text.
-/
import Derived.Test.YtplljpodejpbgaaGreatDoorXRefB
import Derived.Lib.AppendStr
namespace Go.Proofs.YtplljpodejpbgaaGreatDoor
open Go.RowKit
set_option linter.unusedVariables false
set_option maxRecDepth 100000

theorem strCells_eq (s : ByteArray) : Lib.strCells s = cellsN .u8 (bytesOf s) := by
  simp [Lib.strCells, cellsN, bytesOf]
theorem wpList_appS {w : World} {ops : Array Oper} {rest : List Oper} {o : Oper} {a : Act} {Q : Exit → Act → World → Prop} (hgd : o.guard = none) (sl x : Operand)
    (ho : o.op = .call { callee := .builtin .append, args := #[sl, x], argTypes := #[111, 9] }) (base : Nat) (v : Value) (xs : List Nat) (hs : a.eval sl = v) (hown : OwnsN .u8 5 w base v xs)
    (s : ByteArray) (hx : a.eval x = .string s) (hb : xs.length + s.size ≤ 140737488355328) (hbase : base ≤ w.heap.size)
    (h : ∀ v' w', OwnsN .u8 5 w' base v' (xs ++ bytesOf s) → w.grownBy w' v.ownBlock → wpList Tryz.prog ops Q rest (a.put o.dst v') w') : wpList Tryz.prog ops Q (o :: rest) a w := by
  obtain ⟨i0, hi, hz0, hz1, hz2⟩ := info_parts Tryz.info5
  refine Lib.wpList_append_own_string w hgd sl x 111 9 ho base 5 i0 Tryz.underlying111 Tryz.underlying9 hi hz0 hz1 hz2 v _ _ hs hown s hx (by simp only [maxLen]; omega) hb hbase ?_
  intro v' w' h1 h2 _
  refine h v' w' ?_ h2
  unfold OwnsN
  rw [cellsN_app, ← strCells_eq, List.length_append, bytesOf_len]
  exact h1

def sliceN : Value → Nat
  | .slice _ n _ => n
  | _ => 0

theorem noughts_at (L j : Nat) (h : j ≤ noughts L) : ((L + 1 + j) % 64 = 56 ↔ j = noughts L) := by
  unfold noughts at *
  omega
theorem noughts_lt (L : Nat) : noughts L < 64 := Nat.mod_lt _ (by decide)

theorem byte_0 (x : Nat) : IntKind.u8.wrap ((x : Int) / 16777216) = ((x / 16777216 % 256 : Nat) : Int) := by rw [IntKind.wrap_u8']; omega
theorem byte_k (y : Int) (n : Nat) (h : y = (n : Int)) : IntKind.u8.wrap (y.tmod 256) = ((n % 256 : Nat) : Int) := by
  subst h
  rw [IntKind.wrap_u8', Int.tmod_eq_emod_of_nonneg (by omega)]
  omega

theorem sees_b4 (w : World) (z0 z1 z2 z3 : Int) (x : Nat) (h0 : z0 = ((x / 16777216 % 256 : Nat) : Int)) (h1 : z1 = ((x / 65536 % 256 : Nat) : Int)) (h2 : z2 = ((x / 256 % 256 : Nat) : Int)) (h3 : z3 = ((x % 256 : Nat) : Int)) :
    SeesN .u8 (w.alloc (.cells #[.int .u8 z0, .int .u8 z1, .int .u8 z2, .int .u8 z3] 5)) (.slice (some ⟨w.heap.size, 0, none⟩) 4 4) (be4 x) := by
  subst h0 h1 h2 h3
  refine ⟨w.heap.size, 0, _, 4, rfl, Nat.le_refl _, (fun h => by cases h), fun _ => rfl, fun j hj => ?_⟩
  have : j = 0 ∨ j = 1 ∨ j = 2 ∨ j = 3 := by simp [be4] at hj; omega
  rcases this with rfl | rfl | rfl | rfl <;> simp [be4]

set_option maxRecDepth 100000 in
set_option maxHeartbeats 2000000 in
theorem rdigest_any (s : ByteArray) (hv kv : Value) (h K : List Nat) (w : World) (hH : SeesN .i64 w hv h) (hK : SeesN .i64 w kv K) (h8 : Words 8 h) (hK64 : Words 64 K) (hs : s.size ≤ 140737488354304) :
    Calls Tryz.prog 79 #[.string s, hv, kv] w fun e w' => e = .returned (.string (strOf (digest h K (bytesOf s)))) ∧ Below w.heap.size w w' := by
  have HH := hid hH
  have HK := hid hK
  have H8 := hid h8
  have HK64 := hid hK64
  obtain ⟨hb0, hoff0, hao0, hcap0, rfl, _⟩ := hH
  obtain ⟨kb0, koff0, kao0, kcap0, rfl, _⟩ := hK
  rw [h8.len] at HH ⊢
  rw [hK64.len] at HK ⊢
  clear h8 hK64
  obtain ⟨L, hL⟩ : ∃ L, L = s.size := ⟨_, rfl⟩
  have HL := hid hL
  clear hL
  go_enter Tryz.func79, Tryz.ntmps79
  go_wp2_with (first
    | (at_builtin; refine wpList_appS rfl _ _ rfl w.heap.size (.slice none 0 0) [] rfl (OwnsN.nil _ _ _ _) s rfl (by simp; omega) (Nat.le_refl _) ?_; intro v1 w1 hO1 hG1; rw [List.nil_append] at hO1; have HB1 := hid (below_grownBy (Below.refl _ _) hG1 (fun j hj => by simp [Value.ownBlock] at hj) (Nat.le_refl _)); have HO1 := hid hO1; obtain ⟨ao1, cap1, rfl⟩ := hO1.shape; rw [bytesOf_len] at HO1 ⊢; have hsz1 := HB1.out.size; clear hO1 hG1)
    | (at_builtin; refine wpList_appN rowBytes rfl _ _ rfl w.heap.size (.slice ao1 s.size cap1) (bytesOf s) rfl (HO1.out.below (below_alloc w1 _)) _ [128] rfl (sees_b1 w1 _ 128 rfl) (by rw [bytesOf_len]; simp; omega) (by simp; omega) ?_; intro v2 w2 hO2 hG2; have HB2 := hid (below_grownBy (HB1.out.trans ((below_alloc w1 _).mono hsz1)) hG2 (OwnsN.block HO1.out) (by simp; omega)); have HO2 := hid hO2; obtain ⟨ao2, cap2, rfl⟩ := hO2.shape; rw [List.length_append, bytesOf_len, List.length_singleton] at HO2 ⊢; clear hO2 hG2))
  go_loopw [7] (fun u wr => ∃ j : Nat, j ≤ noughts s.size ∧ OwnsN .u8 5 wr w.heap.size u (bytesOf s ++ [128] ++ List.replicate j 0) ∧ Below w.heap.size w wr) (fun u _ => s.size + 100 - sliceN u)
  case atStart => exact ⟨0, Nat.zero_le _, by rw [List.replicate_zero, List.append_nil]; exact HO2.out, HB2.out⟩
  clear HO2 HB2 HO1 HB1
  case round =>
    obtain ⟨j, hj, hO, hBe⟩ := hrel
    obtain ⟨ao, cap, rfl⟩ := hO.shape
    have hll : (bytesOf s ++ [128] ++ List.replicate j 0).length = s.size + 1 + j := by simp [bytesOf_len]; omega
    rw [hll] at hO ⊢
    have hat := noughts_at s.size j hj
    have hnl := noughts_lt s.size
    have hsw := hBe.size
    by_cases hlt : j = noughts s.size
    · have hb : (((s.size : Int) + 1 + (j : Int)) % 64 != 56) = false := by
        have := hat.2 hlt
        have h2 : ((s.size : Int) + 1 + (j : Int)) % 64 = 56 := by omega
        rw [h2]; rfl
      obtain ⟨PL, hPL⟩ : ∃ PL, PL = bytesOf s ++ [128] ++ List.replicate j 0 := ⟨_, rfl⟩
      rw [← hPL] at hO hll
      have HPL := hid (show PL ++ beTo (8 * s.size) 8 = bytesOf s ++ padOf s.size by rw [hPL, hlt]; simp [padOf])
      have hO' := hO
      rw [← hll] at hO'
      have HO := hid hO'
      have HBe := hid hBe
      have HLL := hid hll
      have hjn : j < 64 := by omega
      have hb2 : ((PL.length : Int) % 64 != 56) = false := by rw [hll, show ((s.size + 1 + j : Nat) : Int) = (s.size : Int) + 1 + (j : Int) by omega]; exact hb
      rw [← hll]
      clear hO hO' hBe hll hat hPL hlt hb
      go_wp2_with fail
      go_loopw [7, 8] (fun u i wr => ∃ q : Nat, q ≤ 8 ∧ i = .int .i64 (7 - (q : Int)) ∧ OwnsN .u8 5 wr w.heap.size u (PL ++ (beTo (8 * s.size) 8).take q) ∧ Below w.heap.size w wr) (fun _ i _ => (intOf i + 1).toNat)
      case atStart => exact ⟨0, by decide, rfl, by rw [List.take_zero, List.append_nil]; exact HO.out, HBe.out⟩
      clear HO HBe hsw hb2
      case round =>
        obtain ⟨q, hq, rfl, hO, hBe⟩ := hrel
        obtain ⟨PQ, hPQ⟩ : ∃ PQ, PQ = PL ++ (beTo (8 * s.size) 8).take q := ⟨_, rfl⟩
        rw [← hPQ] at hO
        obtain ⟨ao, cap, rfl⟩ := hO.shape
        have hlq : PQ.length ≤ 140737488354304 + 73 := by rw [hPQ, List.length_append, HLL.out, List.length_take]; omega
        have hsw := hBe.size
        have HO := hid hO
        have HBe := hid hBe
        have HPQ := hid hPQ
        clear hO hBe hPQ
        have hqn : q = 0 ∨ q = 1 ∨ q = 2 ∨ q = 3 ∨ q = 4 ∨ q = 5 ∨ q = 6 ∨ q = 7 ∨ q = 8 := by omega
        rcases hqn with rfl | rfl | rfl | rfl | rfl | rfl | rfl | rfl | rfl
        · have HY : Hid ((s.size : Int) * 8 / 72057594037927936 % 256 = (((beTo (8 * s.size) 8).getD 0 0 : Nat) : Int)) := by show _ = _; simp [beTo8]; try omega
          go_wp2_with (first | (at_builtin; refine wpList_appN rowBytes rfl _ _ rfl w.heap.size _ PQ rfl (HO.out.below (below_alloc wr _)) _ [(beTo (8 * s.size) 8).getD 0 0] rfl (sees_b1 wr _ _ HY.out) (by simp only [List.length_singleton]; omega) (by simp; omega) ?_; intro v4 w4 hO4 hG4))
          go_roundw
          case rel =>
            refine ⟨1, by decide, by go_num, ?_, ?_⟩
            · rw [HPQ.out, List.append_assoc, ← beTo8_snoc _ 0 (by decide)] at hO4; exact hO4
            · exact below_grownBy (HBe.out.trans ((below_alloc wr _).mono hsw)) hG4 (OwnsN.block HO.out) (by simp; omega)
          case measure => simp [intOf]
        · have HY : Hid ((s.size : Int) * 8 / 281474976710656 % 256 = (((beTo (8 * s.size) 8).getD 1 0 : Nat) : Int)) := by show _ = _; simp [beTo8]; try omega
          go_wp2_with (first | (at_builtin; refine wpList_appN rowBytes rfl _ _ rfl w.heap.size _ PQ rfl (HO.out.below (below_alloc wr _)) _ [(beTo (8 * s.size) 8).getD 1 0] rfl (sees_b1 wr _ _ HY.out) (by simp only [List.length_singleton]; omega) (by simp; omega) ?_; intro v4 w4 hO4 hG4))
          go_roundw
          case rel =>
            refine ⟨2, by decide, by go_num, ?_, ?_⟩
            · rw [HPQ.out, List.append_assoc, ← beTo8_snoc _ 1 (by decide)] at hO4; exact hO4
            · exact below_grownBy (HBe.out.trans ((below_alloc wr _).mono hsw)) hG4 (OwnsN.block HO.out) (by simp; omega)
          case measure => simp [intOf]
        · have HY : Hid ((s.size : Int) * 8 / 1099511627776 % 256 = (((beTo (8 * s.size) 8).getD 2 0 : Nat) : Int)) := by show _ = _; simp [beTo8]; try omega
          go_wp2_with (first | (at_builtin; refine wpList_appN rowBytes rfl _ _ rfl w.heap.size _ PQ rfl (HO.out.below (below_alloc wr _)) _ [(beTo (8 * s.size) 8).getD 2 0] rfl (sees_b1 wr _ _ HY.out) (by simp only [List.length_singleton]; omega) (by simp; omega) ?_; intro v4 w4 hO4 hG4))
          go_roundw
          case rel =>
            refine ⟨3, by decide, by go_num, ?_, ?_⟩
            · rw [HPQ.out, List.append_assoc, ← beTo8_snoc _ 2 (by decide)] at hO4; exact hO4
            · exact below_grownBy (HBe.out.trans ((below_alloc wr _).mono hsw)) hG4 (OwnsN.block HO.out) (by simp; omega)
          case measure => simp [intOf]
        · have HY : Hid ((s.size : Int) * 8 / 4294967296 % 256 = (((beTo (8 * s.size) 8).getD 3 0 : Nat) : Int)) := by show _ = _; simp [beTo8]; try omega
          go_wp2_with (first | (at_builtin; refine wpList_appN rowBytes rfl _ _ rfl w.heap.size _ PQ rfl (HO.out.below (below_alloc wr _)) _ [(beTo (8 * s.size) 8).getD 3 0] rfl (sees_b1 wr _ _ HY.out) (by simp only [List.length_singleton]; omega) (by simp; omega) ?_; intro v4 w4 hO4 hG4))
          go_roundw
          case rel =>
            refine ⟨4, by decide, by go_num, ?_, ?_⟩
            · rw [HPQ.out, List.append_assoc, ← beTo8_snoc _ 3 (by decide)] at hO4; exact hO4
            · exact below_grownBy (HBe.out.trans ((below_alloc wr _).mono hsw)) hG4 (OwnsN.block HO.out) (by simp; omega)
          case measure => simp [intOf]
        · have HY : Hid ((s.size : Int) * 8 / 16777216 % 256 = (((beTo (8 * s.size) 8).getD 4 0 : Nat) : Int)) := by show _ = _; simp [beTo8]; try omega
          go_wp2_with (first | (at_builtin; refine wpList_appN rowBytes rfl _ _ rfl w.heap.size _ PQ rfl (HO.out.below (below_alloc wr _)) _ [(beTo (8 * s.size) 8).getD 4 0] rfl (sees_b1 wr _ _ HY.out) (by simp only [List.length_singleton]; omega) (by simp; omega) ?_; intro v4 w4 hO4 hG4))
          go_roundw
          case rel =>
            refine ⟨5, by decide, by go_num, ?_, ?_⟩
            · rw [HPQ.out, List.append_assoc, ← beTo8_snoc _ 4 (by decide)] at hO4; exact hO4
            · exact below_grownBy (HBe.out.trans ((below_alloc wr _).mono hsw)) hG4 (OwnsN.block HO.out) (by simp; omega)
          case measure => simp [intOf]
        · have HY : Hid ((s.size : Int) * 8 / 65536 % 256 = (((beTo (8 * s.size) 8).getD 5 0 : Nat) : Int)) := by show _ = _; simp [beTo8]; try omega
          go_wp2_with (first | (at_builtin; refine wpList_appN rowBytes rfl _ _ rfl w.heap.size _ PQ rfl (HO.out.below (below_alloc wr _)) _ [(beTo (8 * s.size) 8).getD 5 0] rfl (sees_b1 wr _ _ HY.out) (by simp only [List.length_singleton]; omega) (by simp; omega) ?_; intro v4 w4 hO4 hG4))
          go_roundw
          case rel =>
            refine ⟨6, by decide, by go_num, ?_, ?_⟩
            · rw [HPQ.out, List.append_assoc, ← beTo8_snoc _ 5 (by decide)] at hO4; exact hO4
            · exact below_grownBy (HBe.out.trans ((below_alloc wr _).mono hsw)) hG4 (OwnsN.block HO.out) (by simp; omega)
          case measure => simp [intOf]
        · have HY : Hid ((s.size : Int) * 8 / 256 % 256 = (((beTo (8 * s.size) 8).getD 6 0 : Nat) : Int)) := by show _ = _; simp [beTo8]; try omega
          go_wp2_with (first | (at_builtin; refine wpList_appN rowBytes rfl _ _ rfl w.heap.size _ PQ rfl (HO.out.below (below_alloc wr _)) _ [(beTo (8 * s.size) 8).getD 6 0] rfl (sees_b1 wr _ _ HY.out) (by simp only [List.length_singleton]; omega) (by simp; omega) ?_; intro v4 w4 hO4 hG4))
          go_roundw
          case rel =>
            refine ⟨7, by decide, by go_num, ?_, ?_⟩
            · rw [HPQ.out, List.append_assoc, ← beTo8_snoc _ 6 (by decide)] at hO4; exact hO4
            · exact below_grownBy (HBe.out.trans ((below_alloc wr _).mono hsw)) hG4 (OwnsN.block HO.out) (by simp; omega)
          case measure => simp [intOf]
        · have HY : Hid ((s.size : Int) * 8 % 256 = (((beTo (8 * s.size) 8).getD 7 0 : Nat) : Int)) := by show _ = _; simp [beTo8]; try omega
          go_wp2_with (first | (at_builtin; refine wpList_appN rowBytes rfl _ _ rfl w.heap.size _ PQ rfl (HO.out.below (below_alloc wr _)) _ [(beTo (8 * s.size) 8).getD 7 0] rfl (sees_b1 wr _ _ HY.out) (by simp only [List.length_singleton]; omega) (by simp; omega) ?_; intro v4 w4 hO4 hG4))
          go_roundw
          case rel =>
            refine ⟨8, by decide, by go_num, ?_, ?_⟩
            · rw [HPQ.out, List.append_assoc, ← beTo8_snoc _ 7 (by decide)] at hO4; exact hO4
            · exact below_grownBy (HBe.out.trans ((below_alloc wr _).mono hsw)) hG4 (OwnsN.block HO.out) (by simp; omega)
          case measure => simp [intOf]
        · have hmm : PQ = bytesOf s ++ padOf s.size := HPQ.out.trans HPL.out
          obtain ⟨B, hB⟩ : ∃ B, B = (bytesOf s ++ padOf s.size).length / 64 := ⟨_, rfl⟩
          have hB64 : PQ.length = 64 * B := by
            have := padOf_len s.size
            rw [hmm, hB, List.length_append, bytesOf_len]
            omega
          have hlt256 : ∀ x ∈ PQ, x < 256 := by
            rw [hmm]
            intro x hx
            exact (List.mem_append.1 hx).elim (bytesOf_lt s x) (padOf_lt _ x)
          have hpos : 0 < PQ.length := by rw [hmm, List.length_append]; simp [padOf]; omega
          obtain ⟨g, cap', e, hgb, hglt⟩ := World.ownsRow.form HO.out hpos
          simp only [Value.slice.injEq, true_and] at e
          obtain ⟨rfl, rfl⟩ := e
          have HSees := hid HO.out.sees
          have HMM := hid hmm
          have HB64 := hid hB64
          have H256 := hid hlt256
          have HBB := hid hB
          have HH2 := hid (HH.out.below (HBe.out))
          have HK2 := hid (HK.out.below (HBe.out))
          obtain ⟨NL, hNL⟩ : ∃ N, N = PQ.length := ⟨_, rfl⟩
          have HNL := hid hNL
          rw [← hNL] at HSees HO HB64 hlq ⊢
          have hNc : NL ≤ cap := by
            obtain ⟨_, _, _, c', e, hc', _⟩ := HSees.out
            simp only [Value.slice.injEq] at e
            obtain ⟨_, e2, e3⟩ := e
            omega
          clear hmm hB64 hlt256 hpos hB hNL hq
          obtain ⟨w3, rfl⟩ : ∃ w3, w3 = wr := ⟨_, rfl⟩
          go_wp2_with fail
          go_loopw [1, 9] (fun u i wr2 => ∃ q : Nat, q ≤ B ∧ i = .int .i64 ((64 * q : Nat) : Int) ∧ SeesN .i64 wr2 u (stAt h K (bytesOf s ++ padOf s.size) q) ∧ Below w3.heap.size w3 wr2) (fun _ i _ => NL - (intOf i).toNat)
          case atStart => exact ⟨0, Nat.zero_le _, rfl, HH2.out, Below.refl _ _⟩
          case round =>
            obtain ⟨q, hq, rfl, hS, hB2⟩ := hrel
            have hst := stAt_words (K := K) (m := bytesOf s ++ padOf s.size) H8.out q
            obtain ⟨ub, uoff, uao, ucap, rfl, hrest⟩ := hS
            have hS : SeesN .i64 wr (.slice uao (stAt h K (bytesOf s ++ padOf s.size) q).length ucap) (stAt h K (bytesOf s ++ padOf s.size) q) := ⟨ub, uoff, uao, ucap, rfl, hrest⟩
            rw [hst.len] at hS ⊢
            have HS := hid hS
            have HB2 := hid hB2
            have hs2 := hB2.size
            clear hrest hS hB2
            by_cases hlt : q < B
            · have hq64 : 64 * q + 64 ≤ NL := by have := HB64.out; omega
              obtain ⟨I, hI⟩ : ∃ I, I = 64 * q := ⟨_, rfl⟩
              rw [← hI]
              have hI1 : I + 64 ≤ NL := by omega
              have zI : (I : Int) < (NL : Int) := by omega
              have wI : IntKind.i64.wrap ((I : Int) + 64) = (I : Int) + 64 := by rw [wrap_i64_small _ (by omega) (by omega)]
              have hcb : ∀ j, j < 64 → wr.cell? ⟨g, I + j, none⟩ = some (.int .u8 (((((bytesOf s ++ padOf s.size).drop I).take 64).getD j 0 : Nat) : Int)) := fun j hj => by
                have hh := HO.out.cells (g := g) rfl (I + j) (.int .u8 ((PQ.getD (I + j) 0 : Nat) : Int)) (cellsN_get _ _ _ (by have := HNL.out; omega))
                rw [xaddr_add, Nat.zero_add] at hh
                rw [HB2.out.cell (p := ⟨g, I + j, none⟩) hglt, hh, HMM.out, getD_take hj]
                congr 3
                simp [List.getD]
              have hlen64 : (((bytesOf s ++ padOf s.size).drop I).take 64).length = 64 := by
                rw [List.length_take, List.length_drop, ← HMM.out]
                have := HNL.out
                omega
              have hSb : ∀ c, 64 ≤ c → SeesN .u8 wr (.slice (some ⟨g, I, none⟩) 64 c) (((bytesOf s ++ padOf s.size).drop I).take 64) := fun c hc =>
                ⟨g, I, _, c, by rw [hlen64], by rw [hlen64]; exact hc, (fun e => by cases e), fun _ => rfl, fun j hj => hcb j (by rw [hlen64] at hj; exact hj)⟩
              have hbl : ∀ j, (((bytesOf s ++ padOf s.size).drop I).take 64).getD j 0 < 256 := getD_lt (by decide) fun x hx => H256.out x (by rw [HMM.out]; exact List.mem_of_mem_drop (List.mem_of_mem_take hx))
              have HBlk := hid (fun c (hc : 64 ≤ c) => block_any _ _ _ _ _ _ wr HS.out (hSb c hc) (HK2.out.below HB2.out) hst hlen64 hbl HK64.out)
              have HI := hid hI
              clear hcb hSb hbl hI hlen64
              have hIc : (I : Int) + 64 ≤ (cap : Int) := by omega
              go_wp2_with fail
              refine (HBlk.out _ (by omega)).mono ?_
              rintro e w4 ⟨v4, rfl, hO4, hB4⟩
              have hst4 : comp K (stAt h K (bytesOf s ++ padOf s.size) q) (((bytesOf s ++ padOf s.size).drop I).take 64) = stAt h K (bytesOf s ++ padOf s.size) (q + 1) := by rw [HI.out]; rfl
              rw [hst4] at hO4
              have HS4 := hid hO4.sees
              obtain ⟨ao4, cap4, rfl⟩ := hO4.shape
              rw [(stAt_words (K := K) (m := bytesOf s ++ padOf s.size) H8.out (q + 1)).len] at HS4 ⊢
              have HB4 := hid (HB2.out.trans (hB4.mono hs2))
              clear hO4 hB4 hst4 HBlk
              go_wp2
              go_roundw
              case rel =>
                have hIq : (.int .i64 ((I : Int) + 64) : Value) = .int .i64 ((64 * (q + 1) : Nat) : Int) := by have := HI.out; rw [this]; congr 1
                first | exact ⟨q + 1, by omega, hIq, HS4.out, HB4.out⟩ | ((repeat apply Exists.intro); exact ⟨⟨q + 1, by omega, hIq, HS4.out, HB4.out⟩, rfl⟩)
              case measure => have := HI.out; simp [intOf]; omega
            · have hqB : q = B := by omega
              subst hqB
              have hfin : stAt h K (bytesOf s ++ padOf s.size) q = stOf h K (bytesOf s ++ padOf s.size) := by rw [HBB.out]; rfl
              have hge : ¬ (((64 * q : Nat) : Int) < (NL : Int)) := by have := HB64.out; omega
              obtain ⟨I, hI⟩ : ∃ I, I = 64 * q := ⟨_, rfl⟩
              rw [← hI] at hge ⊢
              obtain ⟨ub2, uo2, uao2, ucap2, e2, huc, _, hune, hucell⟩ := HS.out
              have hne0 : stAt h K (bytesOf s ++ padOf s.size) q ≠ [] := by intro e; have := hst.len; rw [e] at this; simp at this
              obtain rfl := hune hne0
              simp only [Value.slice.injEq] at e2
              obtain ⟨rfl, h8e, rfl⟩ := e2
              clear h8e
              rw [hst.len] at huc hucell
              have hub : ub2 < wr.heap.size := World.block_lt_of_cell? wr _ (hucell 0 (by decide))
              rw [hfin] at hucell hst
              have HUC := hid hucell
              have HST := hid hst
              have HD := hid (show (stOf h K (bytesOf s ++ padOf s.size)).flatMap be4 = digest h K (bytesOf s) by unfold digest; rw [bytesOf_len])
              have HBw := hid (HBe.out.trans (HB2.out.mono hsw))
              clear hucell hst hfin hI hune hne0
              obtain ⟨w5, rfl⟩ : ∃ w5, w5 = wr := ⟨_, rfl⟩
              go_wp2_with fail
              go_loopw [10, 11] (fun u i w8 => ∃ k : Nat, k ≤ 8 ∧ i = .int .i64 k ∧ OwnsN .u8 5 w8 w5.heap.size u (((stOf h K (bytesOf s ++ padOf s.size)).take k).flatMap be4) ∧ Below w5.heap.size w5 w8) (fun _ i _ => 8 - (intOf i).toNat)
              case atStart => exact ⟨0, by decide, rfl, OwnsN.nil _ _ _ _, Below.refl _ _⟩
              case round =>
                obtain ⟨k, hk8, rfl, hO, hB8⟩ := hrel
                obtain ⟨ST, hSTe'⟩ : ∃ ST, ST = stOf h K (bytesOf s ++ padOf s.size) := ⟨_, rfl⟩
                rw [← hSTe'] at hO HUC HST HD
                have HSTe := hid hSTe'
                clear hSTe'
                obtain ⟨ao8, cap8, rfl⟩ := hO.shape
                have hll : ((ST.take k).flatMap be4).length = 4 * k := by rw [flat_len, List.length_take, HST.out.len]; omega
                rw [hll] at hO ⊢
                by_cases hlt8 : k < 8
                · have ch := (hB8.cell (p := ⟨ub2, uo2 + k, none⟩) hub).trans (HUC.out k hlt8)
                  obtain ⟨x, hx⟩ : ∃ x, x = ST.getD k 0 := ⟨_, rfl⟩
                  have lx : x < 4294967296 := by rw [hx]; exact HST.out.lt _
                  rw [← hx] at ch
                  have HN := hid (show (ST.take (k + 1)).flatMap be4 = (ST.take k).flatMap be4 ++ be4 x by rw [flat_take (by rw [HST.out.len]; exact hlt8), hx])
                  have zk : (k : Int) < 8 := by omega
                  have HO := hid hO
                  have HB8 := hid hB8
                  have hs8 := hB8.size
                  have HLL := hid hll
                  clear hx hO hB8 hll
                  go_wp2_with fail
                  go_region_held3 (fun w' => w'.cell? ⟨ub2, uo2 + k, none⟩ = some (.int .i64 x))
                    (first | assumption | go_keep)
                    (first | (refine step_appN rowBytes (by rfl) _ _ (by rfl) w5.heap.size (.slice ao8 (4 * k) cap8) _ (by rfl) ?ho _ (be4 x) (by rfl) (by simp [be4]) (sees_b4 wr _ _ _ _ x ?hy0 ?hy1 ?hy2 ?hy3) (by rw [HLL.out]; simp [be4]; omega) (by simp; omega) ?_; (case ho => exact HO.out.below (below_ad wr _)); (case hy0 => exact byte_0 x); (case hy1 => exact byte_k _ (x / 65536) (by omega)); (case hy2 => exact byte_k _ (x / 256) (by omega)); (case hy3 => exact byte_k _ x rfl); intro v9 w9 hO9 hG9; have k1 := far_cell hG9 (OwnsN.block HO.out) hub hs8 ch))
                  rw [← HN.out] at hO9
                  have HO9 := hid hO9
                  have HB9 := hid (below_grownBy (HB8.out.trans ((below_ad wr _).mono hs8)) hG9 (OwnsN.block HO.out) (by simp; omega))
                  obtain ⟨ao9, cap9, rfl⟩ := hO9.shape
                  obtain ⟨N9, hN9⟩ : ∃ N, N = ((ST.take (k + 1)).flatMap be4).length := ⟨_, rfl⟩
                  rw [← hN9] at HO9 ⊢
                  clear hO9 hG9 k1 hN9
                  go_wp2
                  go_roundw
                  case rel =>
                    have hO := HO9.out
                    rw [HSTe.out] at hO
                    first | exact ⟨k + 1, by omega, by go_num, hO, HB9.out⟩ | ((repeat apply Exists.intro); exact ⟨⟨k + 1, by omega, by go_num, hO, HB9.out⟩, rfl⟩)
                  case measure => simp [intOf]; omega
                · have hk : k = 8 := by omega
                  subst hk
                  have hO' := hO
                  rw [← hll] at hO'
                  have hcv := conv_own hO'
                  rw [hll, List.take_of_length_le (by rw [HST.out.len]; decide), HD.out] at hcv
                  have HBf := hid (HBw.out.trans (hB8.mono HBw.out.size))
                  clear hO hO' hB8 hll
                  go_wp2
                  go_ret
                  exact ⟨rfl, HBf.out⟩
    · have hb : (((s.size : Int) + 1 + (j : Int)) % 64 != 56) = true := by
        rw [bne_iff_ne]
        have := mt hat.1 hlt
        omega
      have HO := hid hO
      have HBe := hid hBe
      have HLL := hid hll
      have hjn : j < noughts s.size := by omega
      clear hO hBe hll hat
      go_wp2_with (first
        | (at_builtin; refine wpList_appN rowBytes rfl _ _ rfl w.heap.size (.slice ao (s.size + 1 + j) cap) _ rfl (HO.out.below (below_alloc wr _)) _ [0] rfl (sees_b1 wr _ 0 rfl) (by rw [HLL.out]; simp; omega) (by simp; omega) ?_; intro v2 w2 hO2 hG2; have HB2 := hid (below_grownBy (HBe.out.trans ((below_alloc wr _).mono hsw)) hG2 (OwnsN.block HO.out) (by simp; omega)); have HO2 := hid hO2; obtain ⟨ao2, cap2, rfl⟩ := hO2.shape; obtain ⟨N2, hN2⟩ : ∃ N, N = (bytesOf s ++ [128] ++ List.replicate j 0 ++ [0]).length := ⟨_, rfl⟩; rw [← hN2] at HO2 ⊢; have HN2 := hid (show N2 = s.size + 1 + j + 1 by rw [hN2, List.length_append, HLL.out]; rfl); clear hO2 hG2 hN2))
      go_roundw
      case rel =>
        have h2 := HO2.out
        refine ⟨j + 1, by omega, ?_, HB2.out⟩
        rw [show List.replicate (j + 1) 0 = List.replicate j 0 ++ [0] from List.replicate_succ', ← List.append_assoc]
        exact h2
      case measure => have := HN2.out; simp [sliceN]; omega
end Go.Proofs.YtplljpodejpbgaaGreatDoor

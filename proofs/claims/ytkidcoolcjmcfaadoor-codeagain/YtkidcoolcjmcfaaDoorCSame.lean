/-
  The document's Same of instructions.
-/
import Derived.Test.YtkidcoolcjmcfaaDoorVRef13
import Derived.Deep.QuietTactic
import Derived.BigQuiet
import Derived.Deep.RegionHeld3
import Derived.Laws.StructEq
namespace Go.Proofs.YtkidcoolcjmcfaaDoor
open Go.RowKit
set_option linter.unusedVariables false
set_option linter.unusedSimpArgs false
set_option maxRecDepth 100000

theorem Tryd.fieldsI : (Tryd.prog.fieldsOf 38).toList.map (fun f => (f.name, f.type, f.offset)) = [("Op", 3, 0), ("A", 3, 1)] := by kernel_rfl
theorem Tryd.underI : Tryd.prog.underlying 38 = some (.struct (Tryd.prog.fieldsOf 38)) := by kernel_rfl
theorem Tryd.stoodI : Tryd.prog.stoodInHeld 38 = false := by kernel_rfl
theorem Tryd.guardI : Tryd.prog.eqGuardType Tryd.prog.depth 38 = false := by kernel_rfl
theorem eqlI (a : Int) (b : Int) (c : Int) (d : Int) (w : World) : (binOp .eql 38 (.agg #[.int .i64 a, .int .i64 b]) (.agg #[.int .i64 c, .int .i64 d])).run Tryd.prog w = .ok (.bool (a == c && b == d)) w := by
  rw [run_eql_struct, run_equalIn_agg w 9999 38 _ _ Tryd.underI Tryd.stoodI]
  have h := Tryd.fieldsI
  match hfs : (Tryd.prog.fieldsOf 38).toList with
  | [] => rw [hfs] at h; simp at h
  | [_] => rw [hfs] at h; simp at h
  | f1 :: f2 :: f3 :: r => rw [hfs] at h; simp at h
  | [f1, f2] =>
    rw [hfs] at h
    simp at h
    obtain ⟨⟨n1, t1, o1⟩, n2, t2, o2⟩ := h
    simp [Op.eqFields, n1, t1, o1, n2, t2, o2, go_sem]
    by_cases h1 : a = c
    · by_cases h2 : b = d
      · simp [h1, h2]
      · simp [h1, h2]
    · simp [h1]
theorem neqI (a : Int) (b : Int) (c : Int) (d : Int) (w : World) : (binOp .neq 38 (.agg #[.int .i64 a, .int .i64 b]) (.agg #[.int .i64 c, .int .i64 d])).run Tryd.prog w = .ok (.bool (!(a == c && b == d))) w := by
  have h := eqlI a b c d w
  rw [run_eql_struct] at h
  rw [run_neq_struct]
  cases hx : (Op.equalIn 10000 38 (.agg #[.int .i64 a, .int .i64 b]) (.agg #[.int .i64 c, .int .i64 d])).run Tryd.prog w with
  | ok v w2 =>
    rw [hx] at h
    simp only [Result.andThen_ok] at h ⊢
    simp at h
    obtain ⟨rfl, rfl⟩ := h
    simp
  | halt x w2 => rw [hx] at h; simp [Result.andThen] at h
theorem guardI (o : BinOp) (x y : Operand) (xs ys : Array Value) (w : World) : (eqGuard o 38 x y (.agg xs) (.agg ys)).run Tryd.prog w = .ok () w := run_eqGuard_agg w o 38 x y xs ys Tryd.guardI

theorem drop_eq {l r : List InsL} {k : Nat} (hk : k < l.length) (hk' : k < r.length) : (l.drop k = r.drop k) ↔ (l[k] = r[k] ∧ l.drop (k + 1) = r.drop (k + 1)) := by
  rw [List.drop_eq_getElem_cons hk, List.drop_eq_getElem_cons hk']
  exact ⟨fun h => by injection h with a b; exact ⟨a, b⟩, fun ⟨a, b⟩ => by rw [a, b]⟩
set_option maxHeartbeats 2000000 in
theorem same_any (v u : Value) (l r : List InsL) (w : World) (hS : SeesI w v l) (hR : SeesI w u r) (hl : l.length ≤ 140737488355328) (hr : r.length ≤ 140737488355328) :
    Calls Tryd.prog 17 #[v, u] w fun e w' => e = .returned (.bool (decide (l = r))) ∧ Below w.heap.size w w' := by
  obtain ⟨b, off, ao, cap, rfl, hcap, _, hao, hcell⟩ := hS
  obtain ⟨b', off', ao', cap', rfl, hcap', _, hao', hcell'⟩ := hR
  by_cases hlen : l.length = r.length
  · have HN1 := neqI
    have HG := guardI .neq
    have h1 : ((l.length : Int) != (r.length : Int)) = false := by rw [bne_eq_false_iff_eq]; omega
    obtain ⟨Q, hQ⟩ : ∃ Q, Q = decide (l = r) := ⟨_, rfl⟩
    rw [← hQ]
    have HQ := hid hQ
    have HC := hid hcell
    have HC' := hid hcell'
    have HAO := hid hao
    have HAO' := hid hao'
    obtain ⟨n, hn⟩ : ∃ n, l.length = n := ⟨_, rfl⟩
    have hn' : r.length = n := by omega
    rw [hn] at hcap hl h1
    rw [hn'] at hcap' h1
    rw [hn, hn']
    have HN := hid hn
    have HN' := hid hn'
    clear hQ hcell hcell' hao hao' hn hn' hlen hr
    go_enter Tryd.func17, Tryd.ntmps17
    go_wp2_with fail
    go_loopw [5] (fun ix wr => ∃ k : Nat, ix = .int .i64 (k : Int) ∧ Hid (k ≤ n ∧ Below w.heap.size w wr ∧ (l = r ↔ l.drop k = r.drop k))) (fun ix _ => n - (intOf ix).toNat)
    case atStart => exact ⟨0, rfl, hid ⟨Nat.zero_le _, Below.refl _ _, by simp⟩⟩
    case round =>
      obtain ⟨k, rfl, HI⟩ := hrel
      obtain ⟨hk, hb, hd⟩ := HI.out
      by_cases hlt : k < n
      · have hkI : (k : Int) < (n : Int) := by omega
        have hkl : k < l.length := by have := HN.out; omega
        have hkr : k < r.length := by have := HN'.out; omega
        obtain rfl := HAO.out (by intro h; rw [h] at hkl; simp at hkl)
        obtain rfl := HAO'.out (by intro h; rw [h] at hkr; simp at hkr)
        obtain ⟨c0, c1⟩ := HC.out k hkl
        obtain ⟨d0, d1⟩ := HC'.out k hkr
        have x0 := (hb.cell (World.block_lt_of_cell? w _ c0)).trans c0
        have x1 := (hb.cell (World.block_lt_of_cell? w _ c1)).trans c1
        have y0 := (hb.cell (World.block_lt_of_cell? w _ d0)).trans d0
        have y1 := (hb.cell (World.block_lt_of_cell? w _ d1)).trans d1
        have hkc : k < cap := by omega
        have hkc' : k < cap' := by omega
        rw [drop_eq hkl hkr] at hd
        obtain ⟨⟨a1, a2⟩, ha⟩ : ∃ a, a = l[k] := ⟨_, rfl⟩
        obtain ⟨⟨e1, e2⟩, he⟩ : ∃ e, e = r[k] := ⟨_, rfl⟩
        rw [← ha] at x0 x1 hd
        rw [← he] at y0 y1 hd
        simp only at x0 x1 y0 y1
        have HD := hid hd
        have HB := hid hb
        have HBD : Hid (Below w.heap.size w wr.drew) := hid (hb.trans ((show Below wr.heap.size wr wr.drew from Below.drew (Below.refl _ _)).mono hb.size))
        have hs1 : wr.drew.cell? ⟨b, off + k * 2, none⟩ = some (.int .i64 a1) ∧ wr.drew.cell? ⟨b, off + k * 2 + 1, none⟩ = some (.int .i64 a2) ∧ wr.drew.cell? ⟨b', off' + k * 2, none⟩ = some (.int .i64 e1) ∧ wr.drew.cell? ⟨b', off' + k * 2 + 1, none⟩ = some (.int .i64 e2) := ⟨x0, x1, y0, y1⟩
        clear c0 c1 d0 d1 ha he hd hb HI
        by_cases hq : a1 = e1 ∧ a2 = e2
        · have hqq : (a1 == e1 && a2 == e2) = true := by simp [hq]
          have HQQ := hid hq
          obtain ⟨rfl, rfl⟩ := hq
          go_wp2_with fail
          go_region_held3 (fun X => X.cell? ⟨b, off + k * 2, none⟩ = some (.int .i64 a1) ∧ X.cell? ⟨b, off + k * 2 + 1, none⟩ = some (.int .i64 a2) ∧ X.cell? ⟨b', off' + k * 2, none⟩ = some (.int .i64 a1) ∧ X.cell? ⟨b', off' + k * 2 + 1, none⟩ = some (.int .i64 a2)) (exact hs1) (fail)
          go_wp2
          go_roundw
          case rel => exact ⟨k + 1, by go_num, hid ⟨by omega, HBD.out, by rw [HD.out]; simp⟩⟩
          case measure => simp [intOf]; omega
        · have hqq : (a1 == e1 && a2 == e2) = false := by simpa using hq
          have HF : Hid (Q = false) := by
            unfold Hid
            rw [HQ.out]
            exact decide_eq_false fun h => hq (by have := (HD.out.1 h).1; simpa using this)
          clear hq
          go_wp2_with fail
          go_region_held3 (fun X => X.cell? ⟨b, off + k * 2, none⟩ = some (.int .i64 a1) ∧ X.cell? ⟨b, off + k * 2 + 1, none⟩ = some (.int .i64 a2) ∧ X.cell? ⟨b', off' + k * 2, none⟩ = some (.int .i64 e1) ∧ X.cell? ⟨b', off' + k * 2 + 1, none⟩ = some (.int .i64 e2)) (exact hs1) (fail)
          go_wp2
          go_ret
          exact ⟨by rw [HF.out]; rfl, HBD.out⟩
      · have hkI : ¬ (k : Int) < (n : Int) := by omega
        have HF : Hid (Q = true) := by
          unfold Hid
          rw [HQ.out]
          refine decide_eq_true (hd.2 ?_)
          rw [List.drop_of_length_le (by have := HN.out; omega), List.drop_of_length_le (by have := HN'.out; omega)]
        have HB := hid hb
        clear hd hb HI
        go_wp2
        go_ret
        exact ⟨by rw [HF.out]; rfl, HB.out⟩
  · have h1 : ((l.length : Int) != (r.length : Int)) = true := by rw [bne_iff_ne]; omega
    have hne : decide (l = r) = false := decide_eq_false fun h => hlen (by rw [h])
    rw [hne]
    clear hlen hne hcell hcell' hao hao'
    go_enter Tryd.func17, Tryd.ntmps17
    go_wp2
    go_ret
    exact ⟨rfl, Below.refl _ _⟩
end Go.Proofs.YtkidcoolcjmcfaaDoor

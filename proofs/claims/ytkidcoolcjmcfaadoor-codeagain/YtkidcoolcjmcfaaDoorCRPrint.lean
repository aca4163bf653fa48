/-
  The document's Print of any instructions.
-/
import Derived.Test.YtkidcoolcjmcfaaDoorCNames
namespace Go.Proofs.YtkidcoolcjmcfaaDoor
open Go.RowKit
set_option linter.unusedVariables false
set_option linter.unusedSimpArgs false
set_option maxRecDepth 100000

theorem str_app (a b : List UInt8) : (⟨a.toArray⟩ : ByteArray) ++ ⟨b.toArray⟩ = ⟨(a ++ b).toArray⟩ := by
  apply ByteArray.ext
  simp [ByteArray.data_append]
set_option maxHeartbeats 8000000 in
theorem rprint_any (v : Value) (l : List InsL) (w : World) (hS : SeesI w v l) (hM : Met w) (hlen : l.length ≤ 140737488355328) (h64 : ∀ i ∈ l, in64 i.2) :
    Calls Tryd.prog 11 #[v] w fun e w' => e = .returned (.tuple #[.string ⟨(prnC l).1.toArray⟩, .int .i64 (prnC l).2]) ∧ Below w.heap.size w w' := by
  have hCk := rcheck_any v l w hS hlen
  have hcs := check_cases l
  obtain ⟨b, off, ao, cap, rfl, hcap, hnil, hao, hcell⟩ := hS
  obtain ⟨⟨ce, ck⟩, hcc⟩ : ∃ C, C = checkL l := ⟨_, rfl⟩
  rw [← hcc] at hCk hcs
  simp only at hCk
  have HPR : Hid (prnC l = if ce = 0 then (textC l, 0) else ([], ce)) := by
    unfold Hid prnC
    rw [← hcc]
  have HCK := hid hCk
  have HM := hid hM
  have H64 := hid h64
  have HCELL := hid hcell
  have HAO := hid hao
  clear hCk hM h64 hcell hao hcc
  by_cases hz : ce = 0
  · subst hz
    have HB : Hid (badAt l.length l = l.length) := by
      rcases hcs with h | ⟨h, _⟩ | ⟨_, h, _⟩
      · simp at h
      · simp at h
      · exact h
    have HL : Hid (1 ≤ l.length ∧ l.length ≤ 1024) := by
      rcases hcs with h | ⟨h, _⟩ | ⟨_, _, h⟩
      · simp at h
      · simp at h
      · exact h
    obtain rfl := HAO.out (by intro h; have := HL.out.1; rw [h] at this; simp at this)
    have hpr : prnC l = (textC l, 0) := by rw [HPR.out]; rfl
    rw [hpr]
    clear hcs hpr HPR HAO
    go_enter Tryd.func11, Tryd.ntmps11
    go_wp2_with fail
    refine HCK.out.mono ?_
    clear HCK
    rintro e w1 ⟨rfl, hb1⟩
    have HB1 := hid hb1
    clear hb1
    obtain ⟨n, hn⟩ : ∃ n, l.length = n := ⟨_, rfl⟩
    rw [hn] at hcap HL
    rw [hn]
    have HN := hid hn
    clear hn hlen
    have hn1 := HL.out.2
    go_wp2_with fail
    go_loopw [7, 6] (fun ix v6 wr => ∃ (k : Nat) (tx : List UInt8), ix = .int .i64 (k : Int) ∧ v6 = .string ⟨tx.toArray⟩ ∧ Hid (k ≤ n ∧ Below w.heap.size w wr ∧ tx = textC (l.take k))) (fun ix _ _ => n - (intOf ix).toNat)
    case atStart => exact ⟨0, [], rfl, rfl, hid ⟨Nat.zero_le _, HB1.out, rfl⟩⟩
    case round =>
      obtain ⟨k, tx, rfl, rfl, HI⟩ := hrel
      obtain ⟨hk, hbr, htx⟩ := HI.out
      by_cases hlt : k < n
      · have hkI : (k : Int) < (n : Int) := by omega
        have hkl : k < l.length := by have := HN.out; omega
        have hkc : k < cap := by omega
        obtain ⟨q, hq, e1, e2⟩ := line_at HB.out k hkl
        obtain ⟨c0, c1⟩ := HCELL.out k hkl
        have hc0 := (hbr.cell (World.block_lt_of_cell? w _ c0)).trans c0
        have hi64 := H64.out _ (List.getElem_mem hkl)
        have hll := line_len H64.out hq hkl
        have htf := text_few H64.out HB.out k (by omega)
        have htn := textC_next hkl
        rw [e2, ← htx] at htn
        rw [← htx] at htf
        rw [e1] at hc0 c0
        obtain ⟨ar, har⟩ : ∃ ar, ar = l[k].2 := ⟨_, rfl⟩
        rw [← har] at c1 hi64 hll htn
        have HNa := hid (fun W => rname_any ((q : Int) + 1) W)
        rw [nameR_yes q hq] at HNa
        have HHa := hid (fun W => hasA_any q hq W)
        have HIt := hid (fun W (hb : Below w.heap.size w W) => HM.out.itoa ar W hi64 hb)
        obtain ⟨o, ho⟩ : ∃ o, o = opT.getD q ([], 0) := ⟨_, rfl⟩
        obtain ⟨nm, wi⟩ := o
        rw [← ho] at HNa HHa hll htn
        simp only at HNa HHa hll htn
        obtain ⟨it, hit⟩ : ∃ it, it = Lib.itoa ar := ⟨_, rfl⟩
        rw [← hit] at HIt hll htn
        obtain ⟨ha, hha⟩ : ∃ ha, ha = decide (wi ≠ 0) := ⟨_, rfl⟩
        rw [← hha] at HHa
        have HTN := hid htn
        have HC0 := hid c0
        have HC1 := hid c1
        have HHB := hid hha
        have hsx : (⟨tx.toArray⟩ : ByteArray).size = tx.length := rfl
        have hsn : (⟨nm.toArray⟩ : ByteArray).size = nm.length := rfl
        have hsi : (⟨it.toArray⟩ : ByteArray).size = it.length := rfl
        have htf2 : tx.length ≤ 30000 := by omega
        have hnm : nm.length ≤ 26 := by rw [List.length_append] at hll; omega
        have HLL := hid hll
        have HBR := hid hbr
        clear htn c0 c1 hi64 ho hit hha e1 e2 har htx HI hbr hll
        go_wp2_with fail
        refine (HNa.out _).mono ?_
        clear HNa hc0
        rintro e w2 ⟨rfl, hb2⟩
        have HB2 := hid (HBR.out.trans (hb2.mono HBR.out.size))
        have hc0 := (HB2.out.cell (World.block_lt_of_cell? w _ HC0.out)).trans HC0.out
        clear hb2
        go_wp2_with fail
        refine (HHa.out _).mono ?_
        clear HHa hc0
        rintro e w3 ⟨rfl, hb3⟩
        have HB3 := hid (HB2.out.trans (hb3.mono HB2.out.size))
        have hc1 := (HB3.out.cell (World.block_lt_of_cell? w _ HC1.out)).trans HC1.out
        have hIt := HIt.out w3 HB3.out
        clear hb3 HIt
        cases ha with
        | true =>
          have hw : ¬ wi = 0 := by have h := HHB.out; simpa using h.symm
          have hil : it.length ≤ 26 := by have h := HLL.out; rw [if_neg hw, List.length_append, List.length_cons] at h; omega
          have HW := hid hw
          clear hw
          go_wp2_with fail
          refine hIt.mono ?_
          clear hIt hc1
          rintro e w4 ⟨rfl, hb4⟩
          have HB4 := hid (HB3.out.trans (hb4.mono HB3.out.size))
          clear hb4
          go_wp2
          refine ⟨⟨k + 1, tx ++ nm ++ [32] ++ it ++ [10], by go_num, ?_, hid ⟨by omega, HB4.out, ?_⟩⟩, ?_⟩
          · rw [show ({ data := #[32] } : ByteArray) = ⟨[32].toArray⟩ from rfl, show ({ data := #[10] } : ByteArray) = ⟨[10].toArray⟩ from rfl, str_app, str_app, str_app, str_app]
          · rw [HTN.out, if_neg HW.out]; simp
          · simp [intOf]; omega
        | false =>
          have hw : wi = 0 := by have h := HHB.out; simpa using h.symm
          have HW := hid hw
          clear hw hIt hc1
          go_wp2
          refine ⟨⟨k + 1, tx ++ nm ++ [10], by go_num, ?_, hid ⟨by omega, HB3.out, ?_⟩⟩, ?_⟩
          · rw [show ({ data := #[10] } : ByteArray) = ⟨[10].toArray⟩ from rfl, str_app, str_app]
          · rw [HTN.out, if_pos HW.out]; simp
          · simp [intOf]; omega
      · have hkI : ¬ (k : Int) < (n : Int) := by omega
        have hkn : k = n := by omega
        have htk : tx = textC l := by rw [htx, List.take_of_length_le (by have := HN.out; omega)]
        have HTK := hid htk
        have HBR := hid hbr
        clear htk hkn HI hbr htx
        go_wp2
        go_ret2
        exact ⟨by rw [HTK.out]; rfl, HBR.out⟩
  · have hpr : prnC l = ([], ce) := by rw [HPR.out, if_neg hz]
    have hzz : (ce == 0) = false := by simpa using hz
    rw [hpr]
    clear hcs hpr HPR hz
    go_enter Tryd.func11, Tryd.ntmps11
    go_wp2_with fail
    refine HCK.out.mono ?_
    clear HCK
    rintro e w1 ⟨rfl, hb1⟩
    have HB1 := hid hb1
    clear hb1
    go_wp2
    go_ret2
    exact ⟨rfl, HB1.out⟩
end Go.Proofs.YtkidcoolcjmcfaaDoor

/-
  The line of a size: the document's.
-/
import Derived.Test.YtllhibdjopfcnaaGreatDoorZPRd
namespace Go.Proofs.YtllhibdjopfcnaaGreatDoor
open Go.RowKit
set_option linter.unusedVariables false

/-- What the document's 'ended' tells: a number, and a place (-1: more; -2: wrong). -/
def eoV (n i : Nat) : Tell Unit → Int × Int
  | .error none => (0, -1)
  | .error (some _) => (0, -2)
  | .ok _ => ((n : Int), (i : Int) + 2)
theorem byteNe (b : UInt8) (k : Nat) (hk : k < 256) : ((b.toNat : Int) != (k : Int)) = !decide (b = UInt8.ofNat k) := by
  by_cases h : b = UInt8.ofNat k
  · subst h
    have : (UInt8.ofNat k).toNat = k := by rw [UInt8.toNat_ofNat']; exact Nat.mod_eq_of_lt hk
    rw [this]
    simp
  · rw [decide_eq_false h]
    simp only [Bool.not_false, bne_iff_ne, ne_eq]
    intro e
    apply h
    have : b.toNat = k := by omega
    exact byte_eq this
set_option maxRecDepth 20000 in
set_option maxHeartbeats 4000000 in
theorem ended_any (L : List UInt8) (i n : Nat) (w : World) (hi : i ≤ L.length) (hs : L.length ≤ 140737488355328) :
    Calls Tryz.prog 66 #[.string ⟨L.toArray⟩, .int .i64 (i : Int), .int .i64 (n : Int)] w fun e w' => e = .returned (.tuple #[.int .i64 (eoV n i (eolL (L.drop i))).1, .int .i64 (eoV n i (eolL (L.drop i))).2]) ∧ w = w' := by
  obtain ⟨s, hse⟩ : ∃ s : ByteArray, s = ⟨L.toArray⟩ := ⟨_, rfl⟩
  have hsz : s.size = L.length := by rw [hse, size_list]
  have hdl : s.data.toList = L := by rw [hse]
  rw [← hse]
  obtain ⟨j, hj⟩ : ∃ j, j = i + 1 := ⟨_, rfl⟩
  have hadd : (i : Int) + 1 = (j : Int) := by omega
  by_cases h1 : i < s.size
  · have d1 := drop_byte s i h1
    rw [hdl] at d1
    have i1 := index_byte s .i64 (i : Int) i rfl h1
    obtain ⟨a, ha⟩ : ∃ a, a = s[i] := ⟨_, rfl⟩
    rw [← ha] at d1 i1
    have f1 : decide ((i : Int) < (s.size : Int)) = true := by simp; omega
    have n1 := byteNe a 13 (by decide)
    by_cases h13 : a = 13
    · have g1 : ((a.toNat : Int) != 13) = false := by
        have := n1
        rw [decide_eq_true (show a = UInt8.ofNat 13 from h13)] at this
        exact this
      by_cases h2 : j < s.size
      · have d2 := drop_byte s j h2
        rw [hdl] at d2
        have i2 := index_byte s .i64 (j : Int) j rfl h2
        obtain ⟨b, hb⟩ : ∃ b, b = s[j] := ⟨_, rfl⟩
        rw [← hb] at d2 i2
        have f2 : decide ((j : Int) < (s.size : Int)) = true := by simp; omega
        have f3 : decide ((s.size : Int) ≤ (j : Int)) = false := by simp; omega
        have n2 := byteNe b 10 (by decide)
        rw [d1, ← hj, d2, eolL_two]
        by_cases h10 : b = 10
        · have g2 : ((b.toNat : Int) != 10) = false := by
            have := n2
            rw [decide_eq_true (show b = UInt8.ofNat 10 from h10)] at this
            exact this
          rw [if_pos ⟨h13, h10⟩]
          clear d1 d2 n1 n2 ha hb hse hsz hdl hj h13 h10
          go_enter Tryz.func66, Tryz.ntmps66
          go_wp2
          go_ret2
          exact ⟨rfl, rfl⟩
        · have g2 : ((b.toNat : Int) != 10) = true := by
            have := n2
            rw [decide_eq_false (show ¬ b = UInt8.ofNat 10 from h10)] at this
            exact this
          rw [if_neg (fun e => h10 e.2)]
          clear d1 d2 n1 n2 ha hb hse hsz hdl hj h13 h10
          go_enter Tryz.func66, Tryz.ntmps66
          go_wp2
          go_ret2
          exact ⟨rfl, rfl⟩
      · have f2 : decide ((j : Int) < (s.size : Int)) = false := by simp; omega
        have f3 : decide ((s.size : Int) ≤ (j : Int)) = true := by simp; omega
        have d2 : L.drop j = [] := List.drop_eq_nil_of_le (by omega)
        rw [d1, ← hj, d2, eolL_one, if_pos h13]
        clear d1 d2 n1 ha hse hsz hdl hj h13
        go_enter Tryz.func66, Tryz.ntmps66
        go_wp2
        go_ret2
        exact ⟨rfl, rfl⟩
    · have g1 : ((a.toNat : Int) != 13) = true := by
        have := n1
        rw [decide_eq_false (show ¬ a = UInt8.ofNat 13 from h13)] at this
        exact this
      rw [d1, eol_not _ h13]
      clear d1 n1 ha hse hsz hdl hj h13
      go_enter Tryz.func66, Tryz.ntmps66
      go_wp2
      go_ret2
      exact ⟨rfl, rfl⟩
  · have f1 : decide ((i : Int) < (s.size : Int)) = false := by simp; omega
    have f2 : decide ((j : Int) < (s.size : Int)) = false := by simp; omega
    have f3 : decide ((s.size : Int) ≤ (j : Int)) = true := by simp; omega
    have d1 : L.drop i = [] := List.drop_eq_nil_of_le (by omega)
    rw [d1]
    have h2n : s.size ≤ j := by omega
    clear d1 hse hsz hdl hj
    go_enter Tryz.func66, Tryz.ntmps66
    go_wp2
    go_ret2
    exact ⟨rfl, rfl⟩
end Go.Proofs.YtllhibdjopfcnaaGreatDoor

namespace Go.Proofs.YtllhibdjopfcnaaGreatDoor
open Go.RowKit
set_option linter.unusedVariables false

theorem line_plain {ds r : List UInt8} (h : ∀ x ∈ ds, isHx x = true) (h1 : 1 ≤ ds.length) (h8 : ds.length ≤ 8) (hx : seesB isHx r = false) (hm : seesB isMk r = false) : AtS (ds ++ r) ds.length (hexN ds) := by
  rcases List.eq_nil_or_concat ds with rfl | ⟨d, b, rfl⟩
  · simp at h1
  · rw [List.concat_eq_append] at *
    have hd : AtD ((d ++ [b]) ++ r) d.length (hexN d) := ⟨d, b, r, by simp, fun x hx => h x (by simp [hx]), h b (by simp), rfl, by simp at h8; omega, rfl⟩
    have hn := hd.next (b := b) (r := r) (by simp)
    have := hn.2.2.2 (Or.inl hx) hm
    rw [hexN_snoc, List.length_append, List.length_singleton]
    exact this
theorem line_mark {ds ms r : List UInt8} (h : ∀ x ∈ ds, isHx x = true) (h1 : 1 ≤ ds.length) (h8 : ds.length ≤ 8) (hm : ∀ x ∈ ms, isRm x = true) (hl : ds.length + 1 + ms.length ≤ 1024) (hr : seesB isRm r = false ∨ ds.length + 1 + ms.length = 1024) :
    AtS (ds ++ 59 :: (ms ++ r)) (ds.length + 1 + ms.length) (hexN ds) := by
  have hM : AtM (ds ++ 59 :: (ms ++ r)) (ds.length + ms.length) (hexN ds) := by
    rcases List.eq_nil_or_concat ms with rfl | ⟨m, b, rfl⟩
    · exact ⟨ds, [], 59, r, by simp, h, h1, h8, Or.inl ⟨rfl, rfl⟩, by simp, by simp at hl ⊢; omega, rfl⟩
    · rw [List.concat_eq_append] at *
      refine ⟨ds, 59 :: m, b, r, by simp, h, h1, h8, Or.inr ⟨m, rfl, fun x hx => hm x (by simp [hx]), hm b (by simp)⟩, by simp, by simp at hl ⊢; omega, rfl⟩
  have hd : (ds ++ 59 :: (ms ++ r)).drop (ds.length + ms.length + 1) = r := by
    rw [show ds.length + ms.length + 1 = ds.length + (1 + ms.length) by omega, ← List.drop_drop, List.drop_left, ← List.drop_drop]
    simp
  have := (hM.next).2 (by
    rw [hd]
    rcases hr with hr | hr
    · exact Or.inl hr
    · exact Or.inr (by omega))
  rw [show ds.length + 1 + ms.length = ds.length + ms.length + 1 by omega]
  exact this
theorem line_long {ds r : List UInt8} {b : UInt8} (h : ∀ x ∈ ds, isHx x = true) (h8 : ds.length = 8) (hb : isHx b = true) : sizeL (ds ++ b :: r) = .error (some 400) := by
  have hd : 8 < digs (ds ++ b :: r) := by
    have : ds ++ b :: r = (ds ++ [b]) ++ r := by simp
    unfold digs
    rw [this, takeWhile_all (ds ++ [b]) r]
    · simp; omega
    · intro x hx
      rcases List.mem_append.1 hx with hx | hx
      · exact h x hx
      · rw [List.mem_singleton] at hx; subst hx; exact hb
  unfold sizeL
  rw [if_pos hd]
theorem line_end {ds : List UInt8} (h : ∀ x ∈ ds, isHx x = true) (h8 : ds.length ≤ 8) : sizeL ds = .error none := by
  have hd : digs ds = ds.length := by
    have := digs_of h (r := []) rfl
    rw [List.append_nil] at this
    exact this
  unfold sizeL
  rw [hd, if_neg (by omega), if_pos rfl]
/-- What the document's 'size' tells. -/
def szV (k : Nat) : Tell Nat → Int × Int
  | .error none => (0, -1)
  | .error (some _) => (0, -2)
  | .ok (n, m) => ((n : Int), (k : Int) + (m : Int))
theorem szV_at {l : List UInt8} {j n k : Nat} (h : AtS l j n) (i : Nat) (hi : i = k + j) : szV k (sizeL l) = eoV n i (eolL (l.drop j)) := by
  rw [h.1]
  subst hi
  rcases he : eolL (l.drop j) with (_ | s) | ⟨u, e⟩
  · rfl
  · rfl
  · obtain ⟨rfl, _⟩ := eolL_got (show eolL (l.drop j) = .ok ((), e) from he)
    simp only [afterE, szV, eoV]
    congr 1
set_option maxRecDepth 20000 in
set_option maxHeartbeats 8000000 in
theorem size_any (L : List UInt8) (k : Nat) (w : World) (hk : k ≤ L.length) (hs : L.length ≤ 140737488355328) :
    Calls Tryz.prog 65 #[.string ⟨L.toArray⟩, .int .i64 (k : Int)] w fun e w' => e = .returned (.tuple #[.int .i64 (szV k (sizeL (L.drop k))).1, .int .i64 (szV k (sizeL (L.drop k))).2]) ∧ w = w' := by
  obtain ⟨s, hse⟩ : ∃ s : ByteArray, s = ⟨L.toArray⟩ := ⟨_, rfl⟩
  have hsz : s.size = L.length := by rw [hse, size_list]
  have hdl : s.data.toList = L := by rw [hse]
  have HEn := hid (fun (i n : Nat) (hi : i ≤ L.length) => ended_any L i n w hi hs)
  rw [← hse] at HEn ⊢
  obtain ⟨l, hl⟩ : ∃ l, l = L.drop k := ⟨_, rfl⟩
  obtain ⟨R, hR⟩ : ∃ R, R = szV k (sizeL l) := ⟨_, rfl⟩
  rw [← hl, ← hR]
  have hll : k + l.length = L.length := by rw [hl, List.length_drop]; omega
  have HR := hid hR
  have HL := hid hl
  have HDL := hid hdl
  have HSZ := hid hsz
  have HLL := hid hll
  clear hR hl hdl hsz hll hse
  go_enter Tryz.func65, Tryz.ntmps65
  go_wp2_with fail
  go_loop [6, 7, 8] (fun n d i => ∃ (ds r : List UInt8), l = ds ++ r ∧ (∀ x ∈ ds, isHx x = true) ∧ ds.length ≤ 8 ∧ n = .int .i64 (hexN ds : Int) ∧ d = .int .i64 (ds.length : Int) ∧ i = .int .i64 ((k + ds.length : Nat) : Int)) (fun _ _ i => s.size - (intOf i).toNat)
  case atStart => exact ⟨[], l, rfl, (fun x hx => by cases hx), by simp, rfl, rfl, by simp⟩
  case round =>
    obtain ⟨ds, r, hlr, hds, h8, rfl, rfl, rfl⟩ := hrel
    obtain ⟨i, hi⟩ : ∃ i, i = k + ds.length := ⟨_, rfl⟩
    obtain ⟨d, hd⟩ : ∃ d, d = ds.length := ⟨_, rfl⟩
    obtain ⟨n, hn⟩ : ∃ n, n = hexN ds := ⟨_, rfl⟩
    rw [← hi, ← hd, ← hn]
    have hlen : l.length = ds.length + r.length := by rw [hlr, List.length_append]
    have hnl := hexN_lt ds hds
    have hp8 : 16 ^ ds.length ≤ 16 ^ 8 := Nat.pow_le_pow_right (by decide) h8
    have h168 : (16 : Nat) ^ 8 = 4294967296 := by decide
    have hdr : L.drop i = r := by rw [hi, ← List.drop_drop, ← HL.out, hlr, List.drop_left]
    have hsz := HSZ.out
    have hll := HLL.out
    have hn32 : (n : Int) < 4294967296 := by omega
    have hd8 : (d : Int) ≤ 8 := by omega
    cases hr : r with
    | nil =>
      subst hr
      have hie : i = s.size := by simp at hlen; omega
      have f1 : decide ((i : Int) < (s.size : Int)) = false := by simp; omega
      have f2 : ((i : Int) == (s.size : Int)) = true := by rw [beq_iff_eq]; omega
      have HE : Hid (R = (0, -1)) := by
        unfold Hid
        rw [HR.out, hlr, List.append_nil, line_end hds h8]
        rfl
      have h1n : ¬ i < s.size := by omega
      clear hlr hds h8 hi hd hn hlen hnl hp8 h168 hdr hsz hll
      go_wp2
      go_ret2
      rw [HE.out]
      exact ⟨rfl, rfl⟩
    | cons b r' =>
      subst hr
      have hib : i < s.size := by simp at hlen; omega
      have f1 : decide ((i : Int) < (s.size : Int)) = true := by simp; omega
      have f2 : ((i : Int) == (s.size : Int)) = false := by rw [beq_eq_false_iff_ne]; omega
      have hsb : s[i] = b := by
        have := drop_byte s i hib
        rw [HDL.out, hdr] at this
        injection this with h1 _
        exact h1.symm
      have i1 := index_byte s .i64 (i : Int) i rfl hib
      rw [hsb] at i1
      have hDg := rdigit_any b w
      have hdr2 := hexD_range b
      cases hx : isHx b with
      | true =>
        have hx0 : 0 ≤ hexD b := of_decide_eq_true hx
        obtain ⟨dg, hdg⟩ : ∃ dg : Nat, hexD b = (dg : Int) := ⟨(hexD b).toNat, by omega⟩
        rw [hdg] at hDg
        have f3 : (0 : Int) ≤ (dg : Int) := by omega
        by_cases h88 : ds.length = 8
        · have f4 : ((d : Int) == 8) = true := by rw [beq_iff_eq]; omega
          have HE : Hid (R = (0, -2)) := by
            unfold Hid
            rw [HR.out, hlr, line_long hds h88 hx]
            rfl
          clear hlr hds h8 hi hd hn hlen hnl hp8 h168 hdr hsz hll h88 hx hdg hx0 hdr2 hsb
          go_wp2_with fail
          refine hDg.mono ?_
          clear hDg
          rintro e w1 ⟨rfl, hw1⟩
          subst hw1
          go_wp2
          go_ret2
          rw [HE.out]
          exact ⟨rfl, rfl⟩
        · have f4 : ((d : Int) == 8) = false := by rw [beq_eq_false_iff_ne]; omega
          have HN : Hid (l = (ds ++ [b]) ++ r' ∧ (∀ x ∈ ds ++ [b], isHx x = true) ∧ (ds ++ [b]).length ≤ 8 ∧ hexN (ds ++ [b]) = 16 * n + dg ∧ (ds ++ [b]).length = d + 1 ∧ k + (ds ++ [b]).length = i + 1) := by
            refine hid ⟨by rw [hlr]; simp, ?_, by simp; omega, by rw [hexN_snoc, ← hn, hdg]; rfl, by simp; omega, by simp; omega⟩
            intro x hxx
            rcases List.mem_append.1 hxx with hxx | hxx
            · exact hds x hxx
            · rw [List.mem_singleton] at hxx; subst hxx; exact hx
          have HMe := hid (show i < s.size from hib)
          have hdg16 : (dg : Int) < 16 := by omega
          have hi47 : (i : Int) < 140737488355328 := by omega
          clear hlr hds h8 hi hd hn hlen hnl hp8 h168 hdr hsz hll h88 hx hdg hx0 hdr2 hsb
          have hDg2 := hDg
          go_wp2_with fail
          refine hDg.mono ?_
          clear hDg
          rintro e w1 ⟨rfl, hw1⟩
          subst hw1
          go_wp2_with fail
          refine hDg2.mono ?_
          clear hDg2
          rintro e w1 ⟨rfl, hw1⟩
          subst hw1
          go_wp2
          go_round
          case rel =>
            refine ⟨ds ++ [b], r', HN.out.1, HN.out.2.1, HN.out.2.2.1, ?_, ?_, ?_⟩
            · rw [HN.out.2.2.2.1]; go_num
            · rw [HN.out.2.2.2.2.1]; go_num
            · rw [HN.out.2.2.2.2.2]; go_num
          case measure => have := HMe.out; simp [intOf]; omega
      | false =>
        have hx0 : ¬ 0 ≤ hexD b := of_decide_eq_false hx
        have f3 : decide ((0 : Int) ≤ hexD b) = false := by simp; omega
        have hxn : hexD b < 0 := by omega
        have hi47 : (i : Int) < 140737488355328 := by omega
        by_cases h00 : ds.length = 0
        · have f4 : ((d : Int) == 0) = true := by rw [beq_iff_eq]; omega
          have HE : Hid (R = (0, -2)) := by
            unfold Hid
            have hds0 : ds = [] := List.eq_nil_of_length_eq_zero h00
            rw [HR.out, hlr, hds0, List.nil_append, size_wrong (show seesB isHx (b :: r') = false from hx) (by simp)]
            rfl
          clear hlr hds h8 hi hd hn hlen hnl hp8 h168 hdr hsz hll hx hdr2 hsb h00 hx0
          go_wp2_with fail
          refine hDg.mono ?_
          clear hDg
          rintro e w1 ⟨rfl, hw1⟩
          subst hw1
          go_wp2
          go_ret2
          rw [HE.out]
          exact ⟨rfl, rfl⟩
        · have f4 : ((d : Int) == 0) = false := by rw [beq_eq_false_iff_ne]; omega
          by_cases hm : b = 59
          · have f5 : ((b.toNat : Int) == 59) = true := by rw [beq_iff_eq, hm]; rfl
            obtain ⟨i', hi'⟩ : ∃ i', i' = i + 1 := ⟨_, rfl⟩
            have hadd : (i : Int) + 1 = (i' : Int) := by omega
            have HST := hid (show l = ds ++ 59 :: r' ∧ (∀ x ∈ ds, isHx x = true) ∧ 1 ≤ ds.length ∧ ds.length ≤ 8 ∧ n = hexN ds ∧ i' = k + ds.length + 1 by rw [hlr, hm]; exact ⟨rfl, hds, by omega, h8, hn, by omega⟩)
            clear hlr hds h8 hi hd hn hlen hnl hp8 h168 hdr hsz hll hx hdr2 hsb h00 hx0 hi' hm
            go_wp2_with fail
            refine hDg.mono ?_
            clear hDg
            rintro e w1 ⟨rfl, hw1⟩
            subst hw1
            go_wp2_with fail
            go_loop [8] (fun i => ∃ (ms r : List UInt8), r' = ms ++ r ∧ (∀ x ∈ ms, isRm x = true) ∧ ds.length + 1 + ms.length ≤ 1024 ∧ i = .int .i64 ((k + ds.length + 1 + ms.length : Nat) : Int)) (fun i => s.size - (intOf i).toNat)
            case atStart => exact ⟨[], r', rfl, (fun x hx => by cases hx), by have := HST.out.2.2.2.1; simp; omega, by have := HST.out.2.2.2.2.2; simp; omega⟩
            case round =>
              obtain ⟨ms, r, hr2, hms, hjl, rfl⟩ := hrel
              obtain ⟨i2, hi2⟩ : ∃ i2, i2 = k + ds.length + 1 + ms.length := ⟨_, rfl⟩
              obtain ⟨j, hjd⟩ : ∃ j, j = ds.length + 1 + ms.length := ⟨_, rfl⟩
              rw [← hi2]
              have hik : i2 = k + j := by omega
              have hall : l = ds ++ 59 :: (ms ++ r) := by rw [HST.out.1, hr2]
              have hdrop : l.drop j = r := by
                rw [hall, hjd, show ds.length + 1 + ms.length = ds.length + (1 + ms.length) by omega, ← List.drop_drop, List.drop_left, ← List.drop_drop]
                simp
              have hdropL : L.drop i2 = r := by rw [hik, ← List.drop_drop, ← HL.out, hdrop]
              have hlen2 : l.length = j + r.length := by rw [hall, hjd]; simp; omega
              have hsz := HSZ.out
              have hll := HLL.out
              have hsub : (i2 : Int) - (k : Int) = (j : Int) := by omega
              have hi47' : (i2 : Int) ≤ 140737488355328 := by omega
              clear hi2
              cases hrc : r with
              | nil =>
                subst hrc
                have hie : i2 = s.size := by simp at hlen2; omega
                have f6 : decide ((i2 : Int) < (s.size : Int)) = false := by simp; omega
                have f7 : ((i2 : Int) == (s.size : Int)) = true := by rw [beq_iff_eq]; omega
                have HE : Hid (R = (0, -1)) := by
                  unfold Hid
                  have hA := line_mark (r := []) HST.out.2.1 HST.out.2.2.1 HST.out.2.2.2.1 hms (by omega) (Or.inl rfl)
                  rw [← hall, ← HST.out.2.2.2.2.1, ← hjd] at hA
                  rw [HR.out, szV_at hA i2 hik, hdrop]
                  rfl
                have h1n : ¬ i2 < s.size := by omega
                clear hms hall hjd hik hdrop hdropL hlen2 hsz hll hie hr2 hjl
                go_wp2
                go_ret2
                rw [HE.out]
                exact ⟨rfl, rfl⟩
              | cons c r2 =>
                subst hrc
                have hib2 : i2 < s.size := by simp at hlen2; omega
                have f6 : decide ((i2 : Int) < (s.size : Int)) = true := by simp; omega
                have f8 : ((i2 : Int) == (s.size : Int)) = false := by rw [beq_eq_false_iff_ne]; omega
                have hcs : s[i2] = c := by
                  have := drop_byte s i2 hib2
                  rw [HDL.out, hdropL] at this
                  injection this with h1 _
                  exact h1.symm
                have i3 := index_byte s .i64 (i2 : Int) i2 rfl hib2
                rw [hcs] at i3
                have hcb := c.toNat_lt
                clear i1
                rcases (by omega : (0 ≤ c.toNat ∧ c.toNat ≤ 8) ∨ (9 ≤ c.toNat ∧ c.toNat ≤ 9) ∨ (10 ≤ c.toNat ∧ c.toNat ≤ 31) ∨ (32 ≤ c.toNat ∧ c.toNat ≤ 126) ∨ (127 ≤ c.toNat ∧ c.toNat ≤ 255)) with ⟨hc1, hc2⟩ | ⟨hc1, hc2⟩ | ⟨hc1, hc2⟩ | ⟨hc1, hc2⟩ | ⟨hc1, hc2⟩
                · have hrm : isRm c = false := by rw [isRm_iff]; exact decide_eq_false (by omega)
                  have t1 : decide ((32 : Int) ≤ (c.toNat : Int)) = false := by simp; omega
                  have t2 : decide ((c.toNat : Int) ≤ 126) = true := by simp; omega
                  have t3 : ((c.toNat : Int) == 9) = false := by rw [beq_eq_false_iff_ne]; omega
                  have hA := line_mark (r := c :: r2) HST.out.2.1 HST.out.2.2.1 HST.out.2.2.2.1 hms (by omega) (Or.inl (show seesB isRm (c :: r2) = false from hrm))
                  rw [← hall, ← HST.out.2.2.2.2.1, ← hjd] at hA
                  have hE := HEn.out i2 n (by omega)
                  have hz := szV_at hA i2 hik
                  rw [hdropL] at hE
                  rw [hdrop, ← HR.out] at hz
                  rw [← hz] at hE
                  clear hms hall hjd hik hdrop hdropL hrm hcs hll hsz hlen2 hA hz
                  go_wp2_with fail
                  refine hE.mono ?_
                  clear hE
                  rintro e w2 ⟨rfl, hw2⟩
                  subst hw2
                  go_wp2
                  go_ret2
                  exact ⟨rfl, rfl⟩
                · have hrm : isRm c = true := by rw [isRm_iff]; exact decide_eq_true (by omega)
                  have t1 : decide ((32 : Int) ≤ (c.toNat : Int)) = false := by simp; omega
                  have t2 : decide ((c.toNat : Int) ≤ 126) = true := by simp; omega
                  have t3 : ((c.toNat : Int) == 9) = true := by rw [beq_iff_eq]; omega
                  by_cases hj : j = 1024
                  · have f7 : decide ((1024 : Int) ≤ (j : Int)) = true := by simp; omega
                    have HE : Hid (R = (0, -2)) := by
                      unfold Hid
                      have hA := line_mark (r := c :: r2) HST.out.2.1 HST.out.2.2.1 HST.out.2.2.2.1 hms (by omega) (Or.inr (by omega))
                      rw [← hall, ← HST.out.2.2.2.2.1, ← hjd] at hA
                      rw [HR.out, szV_at hA i2 hik, hdrop, eol_not _ (rm_not hrm)]
                      rfl
                    clear hms hall hjd hik hdrop hrm hj hcs hll hsz hlen2
                    go_wp2
                    go_ret2
                    rw [HE.out]
                    exact ⟨rfl, rfl⟩
                  · have f7 : decide ((1024 : Int) ≤ (j : Int)) = false := by simp; omega
                    have HN : Hid (r' = (ms ++ [c]) ++ r2 ∧ (∀ x ∈ ms ++ [c], isRm x = true) ∧ ds.length + 1 + (ms ++ [c]).length ≤ 1024 ∧ k + ds.length + 1 + (ms ++ [c]).length = i2 + 1) := by
                      refine hid ⟨by rw [hr2]; simp, ?_, by simp; omega, by simp; omega⟩
                      intro x hxx
                      rcases List.mem_append.1 hxx with hxx | hxx
                      · exact hms x hxx
                      · rw [List.mem_singleton] at hxx; subst hxx; exact hrm
                    have HMe := hid (show i2 < s.size from hib2)
                    clear hms hall hjd hik hdrop hrm hj hcs hll hsz hlen2 hr2
                    go_wp2
                    go_round
                    case rel => exact ⟨ms ++ [c], r2, HN.out.1, HN.out.2.1, HN.out.2.2.1, by rw [HN.out.2.2.2]; go_num⟩
                    case measure => have := HMe.out; simp [intOf]; omega
                · have hrm : isRm c = false := by rw [isRm_iff]; exact decide_eq_false (by omega)
                  have t1 : decide ((32 : Int) ≤ (c.toNat : Int)) = false := by simp; omega
                  have t2 : decide ((c.toNat : Int) ≤ 126) = true := by simp; omega
                  have t3 : ((c.toNat : Int) == 9) = false := by rw [beq_eq_false_iff_ne]; omega
                  have hA := line_mark (r := c :: r2) HST.out.2.1 HST.out.2.2.1 HST.out.2.2.2.1 hms (by omega) (Or.inl (show seesB isRm (c :: r2) = false from hrm))
                  rw [← hall, ← HST.out.2.2.2.2.1, ← hjd] at hA
                  have hE := HEn.out i2 n (by omega)
                  have hz := szV_at hA i2 hik
                  rw [hdropL] at hE
                  rw [hdrop, ← HR.out] at hz
                  rw [← hz] at hE
                  clear hms hall hjd hik hdrop hdropL hrm hcs hll hsz hlen2 hA hz
                  go_wp2_with fail
                  refine hE.mono ?_
                  clear hE
                  rintro e w2 ⟨rfl, hw2⟩
                  subst hw2
                  go_wp2
                  go_ret2
                  exact ⟨rfl, rfl⟩
                · have hrm : isRm c = true := by rw [isRm_iff]; exact decide_eq_true (by omega)
                  have t1 : decide ((32 : Int) ≤ (c.toNat : Int)) = true := by simp; omega
                  have t2 : decide ((c.toNat : Int) ≤ 126) = true := by simp; omega
                  have t3 : ((c.toNat : Int) == 9) = false := by rw [beq_eq_false_iff_ne]; omega
                  by_cases hj : j = 1024
                  · have f7 : decide ((1024 : Int) ≤ (j : Int)) = true := by simp; omega
                    have HE : Hid (R = (0, -2)) := by
                      unfold Hid
                      have hA := line_mark (r := c :: r2) HST.out.2.1 HST.out.2.2.1 HST.out.2.2.2.1 hms (by omega) (Or.inr (by omega))
                      rw [← hall, ← HST.out.2.2.2.2.1, ← hjd] at hA
                      rw [HR.out, szV_at hA i2 hik, hdrop, eol_not _ (rm_not hrm)]
                      rfl
                    clear hms hall hjd hik hdrop hrm hj hcs hll hsz hlen2
                    go_wp2
                    go_ret2
                    rw [HE.out]
                    exact ⟨rfl, rfl⟩
                  · have f7 : decide ((1024 : Int) ≤ (j : Int)) = false := by simp; omega
                    have HN : Hid (r' = (ms ++ [c]) ++ r2 ∧ (∀ x ∈ ms ++ [c], isRm x = true) ∧ ds.length + 1 + (ms ++ [c]).length ≤ 1024 ∧ k + ds.length + 1 + (ms ++ [c]).length = i2 + 1) := by
                      refine hid ⟨by rw [hr2]; simp, ?_, by simp; omega, by simp; omega⟩
                      intro x hxx
                      rcases List.mem_append.1 hxx with hxx | hxx
                      · exact hms x hxx
                      · rw [List.mem_singleton] at hxx; subst hxx; exact hrm
                    have HMe := hid (show i2 < s.size from hib2)
                    clear hms hall hjd hik hdrop hrm hj hcs hll hsz hlen2 hr2
                    go_wp2
                    go_round
                    case rel => exact ⟨ms ++ [c], r2, HN.out.1, HN.out.2.1, HN.out.2.2.1, by rw [HN.out.2.2.2]; go_num⟩
                    case measure => have := HMe.out; simp [intOf]; omega
                · have hrm : isRm c = false := by rw [isRm_iff]; exact decide_eq_false (by omega)
                  have t1 : decide ((32 : Int) ≤ (c.toNat : Int)) = true := by simp; omega
                  have t2 : decide ((c.toNat : Int) ≤ 126) = false := by simp; omega
                  have t3 : ((c.toNat : Int) == 9) = false := by rw [beq_eq_false_iff_ne]; omega
                  have hA := line_mark (r := c :: r2) HST.out.2.1 HST.out.2.2.1 HST.out.2.2.2.1 hms (by omega) (Or.inl (show seesB isRm (c :: r2) = false from hrm))
                  rw [← hall, ← HST.out.2.2.2.2.1, ← hjd] at hA
                  have hE := HEn.out i2 n (by omega)
                  have hz := szV_at hA i2 hik
                  rw [hdropL] at hE
                  rw [hdrop, ← HR.out] at hz
                  rw [← hz] at hE
                  clear hms hall hjd hik hdrop hdropL hrm hcs hll hsz hlen2 hA hz
                  go_wp2_with fail
                  refine hE.mono ?_
                  clear hE
                  rintro e w2 ⟨rfl, hw2⟩
                  subst hw2
                  go_wp2
                  go_ret2
                  exact ⟨rfl, rfl⟩
          · have f5 : ((b.toNat : Int) == 59) = false := by
              rw [beq_eq_false_iff_ne]
              intro e
              exact hm (byte_eq (n := 59) (by omega))
            have hS := line_plain (r := b :: r') hds (by omega) h8 (show seesB isHx (b :: r') = false from hx) (show isMk b = false from decide_eq_false hm)
            rw [← hlr, ← hn] at hS
            have hE := HEn.out i n (by omega)
            have hz := szV_at hS i hi
            rw [HL.out, List.drop_drop, ← HL.out, ← hi, ← HR.out] at hz
            rw [← hz] at hE
            clear hlr hds h8 hi hd hn hlen hnl hp8 h168 hdr hsz hll hx hdr2 hsb h00 hx0 hS hz hm
            go_wp2_with fail
            refine hDg.mono ?_
            clear hDg
            rintro e w1 ⟨rfl, hw1⟩
            subst hw1
            go_wp2_with fail
            refine hE.mono ?_
            clear hE
            rintro e w2 ⟨rfl, hw2⟩
            subst hw2
            go_wp2
            go_ret2
            exact ⟨rfl, rfl⟩
end Go.Proofs.YtllhibdjopfcnaaGreatDoor

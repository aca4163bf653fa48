/-
  ParseJoined: for every list of texts the law ParseJoined returns true: parts that are sent as chunks are read as what they are together; one byte too many is told by 413. The listed tables are tied to the program; no other condition.
-/
import Derived.Test.YtllhibdjopfcnaaDoorPLenM
import Derived.Test.YtllhibdjopfcnaaDoorPNext
import Derived.Deep.Strs
import Derived.Test.YtllhibdjopfcnaaDoorPAll
import Derived.Deep.RegionLaw
import Derived.Test.YtllhibdjopfcnaaDoorFrame
import Derived.Test.YtllhibdjopfcnaaDoorHTools
import Derived.SliceStrings
namespace Go.Proofs.YtllhibdjopfcnaaDoor
open Go.RowKit
set_option linter.unusedVariables false

theorem hex_str : ∀ j, j < 16 → (⟨#[48, 49, 50, 51, 52, 53, 54, 55, 56, 57, 97, 98, 99, 100, 101, 102]⟩ : ByteArray).extract j (j + 1) = ⟨#[hxD j]⟩ := by decide
theorem hexW_step {n m : Nat} {d : List UInt8} (h : hexW m ++ d = hexW n) : if m / 16 = 0 then hxD (m % 16) :: d = hexW n else hexW (m / 16) ++ (hxD (m % 16) :: d) = hexW n := by
  split
  · have hm : m < 16 := by omega
    rw [← h, hexW_small hm, Nat.mod_eq_of_lt hm]; rfl
  · have hm : ¬ m < 16 := by omega
    rw [← h, hexW_big hm, List.append_assoc]; rfl

set_option maxRecDepth 20000 in
set_option maxHeartbeats 4000000 in
theorem digits_any (n : Nat) (w : World) (hn : n ≤ 65536) :
    Calls Tryd.prog 21 #[.int .i64 (n : Int)] w fun e w' => e = .returned (.string ⟨(hexW n).toArray⟩) ∧ w' = w := by
  have hl := (hexW_len 4 n (by simp; omega)).2
  have HL := hid hl
  clear hl
  go_enter Tryd.func21, Tryd.ntmps21
  go_wp2_with fail
  go_loopw [0, 3] (fun mm ln wr => wr = w ∧ ∃ (m : Nat) (d : List UInt8), mm = .int .i64 (m : Int) ∧ ln = .string ⟨d.toArray⟩ ∧ m ≤ 65536 ∧ hexW m ++ d = hexW n) (fun mm _ _ => (intOf mm).toNat)
  case atStart => exact ⟨rfl, n, [], rfl, rfl, hn, by simp⟩
  case round =>
    obtain ⟨hwr, m, d, rfl, rfl, hm, hD⟩ := hrel
    have hdl : d.length ≤ 5 := by
      have h1 := congrArg List.length hD
      rw [List.length_append] at h1
      have := HL.out
      omega
    have HD := hid (hexW_step hD)
    obtain ⟨s, hs⟩ : ∃ s : ByteArray, s = ⟨d.toArray⟩ := ⟨_, rfl⟩
    have hsz : s.size = d.length := by rw [hs, size_list]
    rw [← hs]
    have HS := hid hs
    have ht : (m : Int).tmod 16 = ((m % 16 : Nat) : Int) := by rw [Int.tmod_eq_emod_of_nonneg (by omega)]; omega
    have hq : (m : Int).tdiv 16 = ((m / 16 : Nat) : Int) := by rw [Int.tdiv_eq_ediv_of_nonneg (by omega)]; omega
    have hdg := hex_str (m % 16) (by omega)
    obtain ⟨r, hr⟩ : ∃ r, r = m % 16 := ⟨_, rfl⟩
    have hr9 : r ≤ 15 := by omega
    rw [← hr] at ht hdg HD
    obtain ⟨q, hq0⟩ : ∃ q, q = m / 16 := ⟨_, rfl⟩
    rw [← hq0] at hq HD
    have hq9 : q ≤ 65536 := by omega
    have hm9 : ((r : Nat) : Int) + 1 ≤ 16 := by omega
    have HQ := hid (show q = 0 ∨ q < m by omega)
    have HW := hid hwr
    clear hr hq0 hD hs hwr
    have HE : Hid ((⟨#[hxD r]⟩ : ByteArray) ++ s = ⟨(hxD r :: d).toArray⟩) := by unfold Hid; rw [HS.out]; exact str_joinL [hxD r] d
    by_cases hz : q = 0
    · subst hz
      go_wp2
      go_ret
      rw [HE.out]
      have := HD.out
      rw [if_pos trivial] at this
      rw [this]
      exact ⟨rfl, HW.out⟩
    · have hz' : (((q : Nat) : Int) == 0) = false := by rw [beq_eq_false_iff_ne]; omega
      go_wp2_with fail
      go_roundw
      case rel =>
        have := HD.out
        rw [if_neg hz] at this
        exact ⟨HW.out, q, hxD r :: d, by go_num, by rw [HE.out], hq9, this⟩
      case measure =>
        have := HQ.out
        simp [intOf]
        omega

theorem chunksT_snoc : ∀ (qs : List (List UInt8)) (q : List UInt8), chunksT (qs ++ [q]) = chunksT qs ++ chunkT q
  | [], q => by simp [chunksT]
  | p :: ps, q => by rw [List.cons_append, chunksT, chunksT, chunksT_snoc ps q, List.append_assoc]
theorem chunksT_many : ∀ (qs : List (List UInt8)), (∀ q ∈ qs, q ≠ []) → qs.length + qs.flatten.length ≤ (chunksT qs).length
  | [], _ => by simp
  | p :: ps, h => by
    have := chunksT_many ps (fun q hq => h q (by simp [hq]))
    rw [chunksT, chunkT, if_neg (h p (by simp)), List.flatten_cons]
    simp only [List.length_append, List.length_cons]
    omega
def jRaw : List UInt8 := [84, 114, 97, 110, 115, 102, 101, 114, 45, 69, 110, 99, 111, 100, 105, 110, 103, 58, 32, 99, 104, 117, 110, 107, 101, 100]
def jS : List UInt8 := [80, 85, 84, 32, 47, 120, 32, 72, 84, 84, 80, 47, 49, 46, 49, 13, 10, 72, 111, 115, 116, 58, 32, 97, 13, 10, 84, 114, 97, 110, 115, 102, 101, 114, 45, 69, 110, 99, 111, 100, 105, 110, 103, 58, 32, 99, 104, 117, 110, 107, 101, 100, 13, 10, 13, 10]
def jH : HeadL := ([80, 85, 84], [47, 120], 1, [(hostS, [97]), (teS, [99, 104, 117, 110, 107, 101, 100])])
theorem j_head : parseL jS = (jH, 0, 0) :=
  parse_read (raws := [hostR, jRaw]) ⟨by decide, ⟨by decide, by decide, by decide, by decide +kernel, Or.inr rfl⟩, by decide, by decide, by
    rw [List.map_cons, List.map_cons, List.map_nil, show fieldL hostR = some (hostS, [97]) by decide, show fieldL jRaw = some (teS, [99, 104, 117, 110, 107, 101, 100]) by decide +kernel]
    rfl, by
    intro a ha
    simp only [List.mem_cons, List.not_mem_nil, or_false] at ha
    rcases ha with rfl | rfl
    · exact ⟨by decide, by decide, by decide⟩
    · exact ⟨by decide, by decide +kernel, by decide⟩, by decide, by decide⟩
theorem j_body : bodyL jH = (2, 0, 0) := by
  have v1 : valsL jH clS = [] := by decide +kernel
  have v2 : valsL jH teS = [[99, 104, 117, 110, 107, 101, 100]] := by decide +kernel
  unfold bodyL
  rw [v1, v2]
  decide +kernel
theorem j_first (qs : List (List UInt8)) (hq : ∀ q ∈ qs, q ≠ [] ∧ q.length ≤ 65536) (hl : qs.flatten.length ≤ 16384) (rest : List UInt8) :
    firstL (jS ++ (chunksT qs ++ (endT ++ rest))) = (.ok ((reqOf jH qs.flatten), (56 + ((chunksT qs).length + 5)))) := by
  have hm := chunksT_many qs (fun q h => (hq q h).1)
  rw [first_head j_head]
  unfold bodyAt
  rw [j_body]
  simp only [List.drop_left]
  have h1 := (chunks_parts qs ((jS ++ (chunksT qs ++ (endT ++ rest))).length + 1) [] rest (fun q h => (hq q h).2) (by simp only [List.length_append]; omega) (by simp)).1 (by simpa using hl)
  rw [h1]
  rfl
theorem j_chunks (qs : List (List UInt8)) (hq : ∀ q ∈ qs, q ≠ [] ∧ q.length ≤ 65536) :
    chunksL ((chunksT qs ++ endT).length + 1) [] ((chunksT qs ++ endT).drop 0) = if 16384 < qs.flatten.length then (.error (some 413)) else (.ok (qs.flatten, ((chunksT qs ++ endT).length))) := by
  have hm := chunksT_many qs (fun q h => (hq q h).1)
  have h1 := chunks_parts qs ((chunksT qs ++ endT).length + 1) [] [] (fun q h => (hq q h).2) (by simp only [List.length_append]; omega) (by simp)
  rw [List.append_nil] at h1
  rw [List.drop_zero]
  split
  · rename_i h
    exact h1.2 (by simpa using h)
  · rename_i h
    rw [h1.1 (by simpa using h)]
    simp [endT]
theorem g_first : firstL awG = (.ok ((reqOf awH []), 28)) := by
  have := first_head aw_head []
  rw [List.append_nil] at this
  rw [this]
  unfold bodyAt
  rw [aw_body]
  simp [awG]

end Go.Proofs.YtllhibdjopfcnaaDoor

namespace Go.Proofs.YtllhibdjopfcnaaDoor
open Go.RowKit
set_option linter.unusedVariables false

theorem eqlc_some_nilJ (a : Addr) (w : World) : (binOp .eql 30 (.pointer (some a)) (.pointer none)).run Tryd.prog w = .ok (.bool false) w := by
  have h : ∀ d : Nat, (Op.equalIn (d + 1) 30 (.pointer (some a)) (.pointer none)).run Tryd.prog w = .ok false w := fun d => by
    simp [Op.equalIn, run_underlying Tryd.underlying30]
  simp only [binOp]
  simp [Op.equal, Op.maxDepth, h 9999]
theorem Below.keptJ {b p B : Nat} {w0 w w' : World} (h : Below b w0 w) (k : Kept p B w w') (hb : b ≤ p) (hB : b ≤ B) : Below b w0 w' :=
  ⟨k.os.trans h.os, k.tape.trans h.tape, k.output.trans h.output, Nat.le_trans h.size k.size, fun i hi => (k.block i (by omega) (by omega)).trans (h.block i hi)⟩
theorem j_str (c : List UInt8) : (⟨#[80, 85, 84, 32, 47, 120, 32, 72, 84, 84, 80, 47, 49, 46, 49, 13, 10, 72, 111, 115, 116, 58, 32, 97, 13, 10, 84, 114, 97, 110, 115, 102, 101, 114, 45, 69, 110, 99, 111, 100, 105, 110, 103, 58, 32, 99, 104, 117, 110, 107, 101, 100, 13, 10, 13, 10]⟩ : ByteArray) ++ ⟨(c ++ endT).toArray⟩ ++ ⟨#[71, 69, 84, 32, 47, 120, 32, 72, 84, 84, 80, 47, 49, 46, 49, 13, 10, 72, 111, 115, 116, 58, 32, 97, 13, 10, 13, 10]⟩ = ⟨(jS ++ (c ++ (endT ++ awG))).toArray⟩ := by
  have h1 : (⟨#[80, 85, 84, 32, 47, 120, 32, 72, 84, 84, 80, 47, 49, 46, 49, 13, 10, 72, 111, 115, 116, 58, 32, 97, 13, 10, 84, 114, 97, 110, 115, 102, 101, 114, 45, 69, 110, 99, 111, 100, 105, 110, 103, 58, 32, 99, 104, 117, 110, 107, 101, 100, 13, 10, 13, 10]⟩ : ByteArray) = ⟨jS.toArray⟩ := rfl
  have h2 : (⟨#[71, 69, 84, 32, 47, 120, 32, 72, 84, 84, 80, 47, 49, 46, 49, 13, 10, 72, 111, 115, 116, 58, 32, 97, 13, 10, 13, 10]⟩ : ByteArray) = ⟨awG.toArray⟩ := rfl
  rw [h1, h2, str_joinL jS, str_joinL (jS ++ (c ++ endT)) awG, List.append_assoc, List.append_assoc]
/-- The parts that are written so far. -/
structure JInv (qs : List (List UInt8)) : Prop where
  each : ∀ q ∈ qs, q ≠ [] ∧ q.length ≤ 65536
  long : (chunksT qs).length ≤ 32777 + qs.flatten.length
  flat : qs.flatten.length ≤ 98304
theorem JInv.nil : JInv [] := ⟨(by simp), (by simp [chunksT]), (by simp)⟩
theorem JInv.step {qs : List (List UInt8)} {q : List UInt8} (h : JInv qs) (h0 : q ≠ []) (hq : q.length ≤ 65536) (hs : (chunksT qs).length ≤ 32768) : JInv (qs ++ [q]) := by
  have hl := (hexW_len 4 q.length (by simp; omega)).2
  have hm := chunksT_many qs (fun q h1 => (h.each q h1).1)
  refine ⟨fun x hx => ?_, ?_, ?_⟩
  · rcases List.mem_append.1 hx with hx | hx
    · exact h.each x hx
    · rw [List.mem_singleton] at hx; subst hx; exact ⟨h0, hq⟩
  · rw [chunksT_snoc, chunkT, if_neg h0]
    simp only [List.length_append, List.length_cons, List.length_nil, List.flatten_append, List.flatten_cons, List.flatten_nil, List.append_nil]
    omega
  · simp only [List.length_append, List.flatten_append, List.flatten_cons, List.flatten_nil, List.append_nil]
    omega

set_option maxRecDepth 40000 in
set_option maxHeartbeats 16000000 in
theorem join_walk (v : Value) (ls : List (List UInt8)) (w : World) (hM : ML w) (hS : SeesS w v ls) (hll : ls.length ≤ 9223372036854775807) :
    Calls Tryd.prog 7 #[v] w fun e w' => e = .returned (.bool true) ∧ Below w.heap.size w w' := by
  obtain ⟨b, off, ao, cap, rfl, hcap, _, hao, hcell⟩ := hS
  have hgl := hM.lt
  have HM := hid hM
  have HC := hid hcell
  clear hM hcell
  go_enter Tryd.func7, Tryd.ntmps7
  go_wp2_with fail
  go_loopw [3, 4, 5] (fun u bd i wr => ∃ (qs : List (List UInt8)) (k : Nat), u = .string ⟨(chunksT qs).toArray⟩ ∧ bd = .string ⟨qs.flatten.toArray⟩ ∧ i = .int .i64 (k : Int) ∧ k ≤ ls.length ∧ JInv qs ∧ Below w.heap.size w wr) (fun _ _ i _ => ls.length - (intOf i).toNat)
  case atStart => exact ⟨[], 0, rfl, rfl, rfl, Nat.zero_le _, JInv.nil, Below.refl _ _⟩
  case round =>
    obtain ⟨qs, k, rfl, rfl, rfl, hk, hJ, hB⟩ := hrel
    have hsw := hB.size
    have HB := hid hB
    have HJ := hid hJ
    obtain ⟨s, hs⟩ : ∃ s : ByteArray, s = ⟨(chunksT qs).toArray⟩ := ⟨_, rfl⟩
    obtain ⟨B, hb⟩ : ∃ B : ByteArray, B = ⟨qs.flatten.toArray⟩ := ⟨_, rfl⟩
    rw [← hs, ← hb]
    have hsz : s.size = (chunksT qs).length := by rw [hs, size_list]
    have hbz : B.size = qs.flatten.length := by rw [hb, size_list]
    have hsm : s.size ≤ 131081 := by have := hJ.long; have := hJ.flat; omega
    have hbm : B.size ≤ 98304 := by have := hJ.flat; omega
    have HS := hid hs
    have HBB := hid hb
    have HSZ := hid hsz
    have HBZ := hid hbz
    clear hB hJ hs hb hsz hbz
    by_cases hlt : k < ls.length
    · have hlt' : (k : Int) < (ls.length : Int) := by omega
      obtain rfl := hao (by intro h; rw [h] at hlt; simp at hlt)
      obtain ⟨P, hP⟩ : ∃ P, P = ls[k] := ⟨_, rfl⟩
      obtain ⟨x, hx⟩ : ∃ x : ByteArray, x = ⟨P.toArray⟩ := ⟨_, rfl⟩
      have hxz : x.size = P.length := by rw [hx, size_list]
      have hcx : wr.cell? ⟨b, off + k, none⟩ = some (.string x) := by
        have h0 := HC.out k hlt
        have hb := World.block_lt_of_cell? w _ h0
        rw [HB.out.cell hb, h0, hx, hP]
        rfl
      have HX := hid hx
      have HXZ := hid hxz
      clear hP hx hxz
      by_cases h0 : x.size = 0
      · have h0' : (((x.size : Nat) : Int) == 0) = true := by rw [beq_iff_eq]; omega
        go_wp2_with fail
        go_roundw
        case rel => exact ⟨qs, k + 1, by rw [HS.out], by rw [HBB.out], by go_num, by omega, HJ.out, HB.out⟩
        case measure => simp [intOf]; omega
      · have h0' : (((x.size : Nat) : Int) == 0) = false := by rw [beq_eq_false_iff_ne]; omega
        by_cases h1 : 65536 < x.size
        · have h1' : (65536 : Int) < (x.size : Int) := by omega
          have hAW := awakeP_any _ (HM.out.below HB.out hgl)
          go_wp2_with fail
          refine hAW.mono ?_
          clear hAW
          rintro e w7 ⟨rfl, q7⟩
          have hs7 := HB.out.size
          go_wp2
          go_ret
          exact ⟨rfl, HB.out.trans (q7.mono hs7)⟩
        · have h1' : ¬ (65536 : Int) < (x.size : Int) := by omega
          by_cases h2 : 32768 < s.size
          · have h2' : (32768 : Int) < (s.size : Int) := by omega
            have hAW := awakeP_any _ (HM.out.below HB.out hgl)
            go_wp2_with fail
            refine hAW.mono ?_
            clear hAW
            rintro e w7 ⟨rfl, q7⟩
            have hs7 := HB.out.size
            go_wp2
            go_ret
            exact ⟨rfl, HB.out.trans (q7.mono hs7)⟩
          · have h2' : ¬ (32768 : Int) < (s.size : Int) := by omega
            have hD := fun w => digits_any x.size w (by omega)
            have hPn : P ≠ [] := by intro h; have := HXZ.out; rw [h] at this; exact h0 this
            have HJ2 := hid (HJ.out.step hPn (by have := HXZ.out; omega) (by have := HSZ.out; omega))
            obtain ⟨dg, hdg⟩ : ∃ dg : ByteArray, dg = ⟨(hexW x.size).toArray⟩ := ⟨_, rfl⟩
            have hdz : dg.size ≤ 5 := by rw [hdg, size_list]; exact (hexW_len 4 x.size (by simp; omega)).2
            rw [← hdg] at hD
            have HDG := hid hdg
            have hcd : wr.drew.cell? ⟨b, off + k, none⟩ = some (.string x) := hcx
            have HBd := hid (Below.drew HB.out)
            have f1 : ¬ 9223372036854775807 < s.size + dg.size := by omega
            have f2 : ¬ 9223372036854775807 < s.size + dg.size + 2 := by omega
            have f3 : ¬ 9223372036854775807 < s.size + dg.size + 2 + x.size := by omega
            have f4 : ¬ 9223372036854775807 < s.size + dg.size + 2 + x.size + 2 := by omega
            have HE1 : Hid (s ++ dg ++ ⟨#[13, 10]⟩ ++ x ++ ⟨#[13, 10]⟩ = ⟨(chunksT (qs ++ [P])).toArray⟩) := by
              unfold Hid
              rw [hdg, HXZ.out, HS.out, HX.out, chunksT_snoc, chunkT, if_neg hPn]
              apply ByteArray.ext
              simp [ByteArray.data_append]
            have HE2 : Hid (B ++ x = ⟨(qs ++ [P]).flatten.toArray⟩) := by
              unfold Hid
              rw [HBB.out, HX.out]
              apply ByteArray.ext
              simp [ByteArray.data_append]
            clear hdg
            go_wp2_with fail
            go_region_law
              (first
                | (go_simp
                   refine (hD _).mono ?_
                   rintro e' w2 ⟨rfl, hw2⟩
                   subst hw2))
            all_goals
              go_wp2
              exact ⟨⟨qs ++ [P], k + 1, by rw [HE1.out], by rw [HE2.out], by go_num, by omega, HJ2.out, HBd.out⟩, by simp [intOf]; omega⟩
    · have hlt' : ¬ (k : Int) < (ls.length : Int) := by omega
      have hC := chunksN_any (chunksT qs ++ endT) 0 wr (by rw [List.length_append, ← HSZ.out]; simp [endT]; omega) (Nat.zero_le _)
      rw [j_chunks qs HJ.out.each] at hC
      have hse : s ++ ⟨#[48, 13, 10, 13, 10]⟩ = (⟨(chunksT qs ++ endT).toArray⟩ : ByteArray) := by rw [HS.out]; exact str_joinL (chunksT qs) endT
      rw [← hse, show (((0 : Nat) : Int)) = 0 from rfl] at hC
      have f1 : ¬ 9223372036854775807 < s.size + 5 := by omega
      have hez : (chunksT qs ++ endT).length = s.size + 5 := by rw [List.length_append, ← HSZ.out]; rfl
      rw [hez] at hC
      have HSE := hid hse
      clear hez hse
      by_cases hbig : 16384 < B.size
      · have hbig' : (16384 : Int) < (B.size : Int) := by omega
        rw [if_pos (by rw [← HBZ.out]; exact hbig)] at hC
        simp only [chkV, chkT] at hC
        go_wp2_with fail
        refine hC.mono ?_
        clear hC
        rintro e w1 ⟨rfl, hB1⟩
        have HB1 := hid (HB.out.trans (hB1.mono hsw))
        have hAW := awakeP_any _ (HM.out.below HB1.out hgl)
        clear hB1
        go_wp2_with fail
        refine hAW.mono ?_
        clear hAW
        rintro e w7 ⟨rfl, q7⟩
        have hs7 := HB1.out.size
        go_wp2
        go_ret
        exact ⟨rfl, HB1.out.trans (q7.mono hs7)⟩
      · have hbig' : ¬ (16384 : Int) < (B.size : Int) := by omega
        rw [if_neg (by rw [← HBZ.out]; exact hbig)] at hC
        simp only [chkV, chkT] at hC
        rw [← HBB.out, Nat.zero_add] at hC
        go_wp2_with fail
        refine hC.mono ?_
        clear hC
        rintro e w1 ⟨rfl, hB1⟩
        have HB1 := hid (HB.out.trans (hB1.mono hsw))
        obtain ⟨p, hp⟩ : ∃ p, p = w1.heap.size := ⟨_, rfl⟩
        have hsp : w.heap.size ≤ p := by rw [hp]; exact HB1.out.size
        have hNw := new_any w1
        rw [← hp] at hNw
        clear hp hB1
        go_wp2_with fail
        refine hNw.mono ?_
        clear hNw
        rintro e w2 ⟨rfl, hP2, hB2⟩
        have heq := eqlc_some_nilJ ⟨p, 0, none⟩ w2
        have hpl := hP2.lt
        have HB2 := hid (HB1.out.trans (hB2.mono hsp))
        have hfe : (⟨#[80, 85, 84, 32, 47, 120, 32, 72, 84, 84, 80, 47, 49, 46, 49, 13, 10, 72, 111, 115, 116, 58, 32, 97, 13, 10, 84, 114, 97, 110, 115, 102, 101, 114, 45, 69, 110, 99, 111, 100, 105, 110, 103, 58, 32, 99, 104, 117, 110, 107, 101, 100, 13, 10, 13, 10]⟩ : ByteArray) ++ (s ++ ⟨#[48, 13, 10, 13, 10]⟩) ++ ⟨#[71, 69, 84, 32, 47, 120, 32, 72, 84, 84, 80, 47, 49, 46, 49, 13, 10, 72, 111, 115, 116, 58, 32, 97, 13, 10, 13, 10]⟩ = ⟨(jS ++ (chunksT qs ++ (endT ++ awG))).toArray⟩ := by
          rw [HSE.out]
          exact j_str (chunksT qs)
        have hlen : (jS ++ (chunksT qs ++ (endT ++ awG))).length = s.size + 89 := by
          simp only [List.length_append, ← HSZ.out, show jS.length = 56 from rfl, show endT.length = 5 from rfl, show awG.length = 28 from rfl]
          omega
        have hJl := HJ.out.long
        rw [← HSZ.out, ← HBZ.out] at hJl
        have hF := feed_any p [] (jS ++ (chunksT qs ++ (endT ++ awG))) 0 w2 hP2 (by simp)
        have hfl : ¬ 65536 < ([] : List UInt8).length + (jS ++ (chunksT qs ++ (endT ++ awG))).length := by rw [hlen]; simp; omega
        rw [(fed_ok hfl).1, (fed_ok hfl).2, List.nil_append, ← hfe] at hF
        have hz1 : ¬ 9223372036854775807 < 56 + (s.size + 5) := by omega
        have hz2 : ¬ 9223372036854775807 < 56 + (s.size + 5) + 28 := by omega
        have HLEN := hid hlen
        clear hP2 hB2 HB1 HB hfl hfe hlen
        go_wp2_with fail
        refine hF.mono ?_
        clear hF
        rintro e w3 ⟨rfl, hP3, hK3⟩
        have hs3 := hK3.size
        have HB3 := hid (Below.keptJ HB2.out hK3 hsp (by omega))
        have hNx := next_any p (jS ++ (chunksT qs ++ (endT ++ awG))) 0 w3 (HM.out.below HB3.out hgl) hP3 (by rw [HLEN.out]; omega)
        have hT := j_first qs HJ.out.each (by rw [← HBZ.out]; omega) awG
        have hdr : (jS ++ (chunksT qs ++ (endT ++ awG))).drop (56 + ((chunksT qs).length + 5)) = awG := by
          rw [← List.drop_drop, show 56 = jS.length from rfl, List.drop_left, ← List.drop_drop, List.drop_left]
          rfl
        rw [nxt_got hT, hdr] at hNx
        simp only at hNx
        have hpl3 := hP3.lt
        clear hT hP3 hK3 HB2 hdr heq
        go_wp2_with fail
        refine hNx.mono ?_
        clear hNx
        rintro e w5 ⟨u5, rfl, hO5, hP5, hK5⟩
        obtain ⟨e1, he1, rfl, hp1⟩ := hO5.elem
        simp only [RqE.val, reqV, RqE.vf, RqE.vq]
        have hb1 : (⟨e1.q.body.toArray⟩ : ByteArray) = B := by rw [HBB.out, he1]; rfl
        rw [hb1]
        have hs5 := hK5.size
        have hpl5 := hP5.lt
        have hB5 := Below.keptJ HB3.out hK5 hsp (by omega)
        have hBa := below_alloc w5 (.cells #[.string ⟨e1.q.head.1.toArray⟩, .string ⟨e1.q.head.2.1.toArray⟩, .int .i64 e1.q.head.2.2.1, .slice e1.af e1.q.head.2.2.2.length e1.cf, .string ⟨e1.q.path.toArray⟩, .slice e1.aq e1.q.query.length e1.cq, .string B, .bool e1.q.close] 38)
        have HB6 := hid (hB5.trans (hBa.mono (by omega)))
        have HP6 := hid (hP5.below hBa hP5.lt)
        have hal := ReqAt.new w5 (.string ⟨e1.q.head.1.toArray⟩) (.string ⟨e1.q.head.2.1.toArray⟩) (.int .i64 e1.q.head.2.2.1) (.slice e1.af e1.q.head.2.2.2.length e1.cf) (.string ⟨e1.q.path.toArray⟩) (.slice e1.aq e1.q.query.length e1.cq) (.string B) (.bool e1.q.close)
        have hy6 := hal.cells.2.2.2.2.2.2.1
        have hNx := next_any p awG 0 _ (HM.out.below HB6.out hgl) HP6.out (by decide)
        rw [nxt_got g_first] at hNx
        simp only at hNx
        have hszA : (w5.alloc (.cells #[.string ⟨e1.q.head.1.toArray⟩, .string ⟨e1.q.head.2.1.toArray⟩, .int .i64 e1.q.head.2.2.1, .slice e1.af e1.q.head.2.2.2.length e1.cf, .string ⟨e1.q.path.toArray⟩, .slice e1.aq e1.q.query.length e1.cq, .string B, .bool e1.q.close] 38)).heap.size = w5.heap.size + 1 := by simp
        have HY6 := hid hy6
        clear hO5 hp1 he1 hP5 hK5 hB5 hBa HB3 hal hb1 hy6 HP6
        go_wp2_with fail
        refine hNx.mono ?_
        clear hNx
        rintro e w8 ⟨u8, rfl, hO8, hP8, hK8⟩
        obtain ⟨e2, he2, rfl, hp2⟩ := hO8.elem
        simp only [RqE.val, reqV, RqE.vf, RqE.vq]
        have hb2 : (⟨e2.q.path.toArray⟩ : ByteArray) = ⟨#[47, 120]⟩ := by rw [he2, aw_req]
        rw [hb2]
        have hs8 := hK8.size
        have hB8 := Below.keptJ HB6.out hK8 hsp (by omega)
        have hBb := below_alloc w8 (.cells #[.string ⟨e2.q.head.1.toArray⟩, .string ⟨e2.q.head.2.1.toArray⟩, .int .i64 e2.q.head.2.2.1, .slice e2.af e2.q.head.2.2.2.length e2.cf, .string ⟨#[47, 120]⟩, .slice e2.aq e2.q.query.length e2.cq, .string ⟨e2.q.body.toArray⟩, .bool e2.q.close] 38)
        have HB9 := hid (hB8.trans (hBb.mono (by omega)))
        have hc6 : (w8.alloc (.cells #[.string ⟨e2.q.head.1.toArray⟩, .string ⟨e2.q.head.2.1.toArray⟩, .int .i64 e2.q.head.2.2.1, .slice e2.af e2.q.head.2.2.2.length e2.cf, .string ⟨#[47, 120]⟩, .slice e2.aq e2.q.query.length e2.cq, .string ⟨e2.q.body.toArray⟩, .bool e2.q.close] 38)).cell? ⟨w5.heap.size, 6, none⟩ = some (.string B) := by
          rw [hBb.cell (show w5.heap.size < w8.heap.size by omega)]
          have := hK8.block w5.heap.size (by omega) (by omega)
          rw [← HY6.out]
          simp only [World.cell?, this]
        have hal := ReqAt.new w8 (.string ⟨e2.q.head.1.toArray⟩) (.string ⟨e2.q.head.2.1.toArray⟩) (.int .i64 e2.q.head.2.2.1) (.slice e2.af e2.q.head.2.2.2.length e2.cf) (.string ⟨#[47, 120]⟩) (.slice e2.aq e2.q.query.length e2.cq) (.string ⟨e2.q.body.toArray⟩) (.bool e2.q.close)
        have hy4 := hal.cells.2.2.2.2.1
        have hAW := awakeP_any _ (HM.out.below HB9.out hgl)
        clear hO8 hp2 he2 hP8 hK8 hB8 hBb HB6 hal hb2 HY6
        go_wp2_with fail
        refine hAW.mono ?_
        clear hAW
        rintro e w11 ⟨rfl, q11⟩
        have hs11 := HB9.out.size
        go_wp2
        go_ret
        exact ⟨rfl, HB9.out.trans (q11.mono hs11)⟩

end Go.Proofs.YtllhibdjopfcnaaDoor

namespace Go.Proofs.YtllhibdjopfcnaaDoor
open Go.ChangeShapes Go.WideShapes Go.ChangeAt Go.RowKit
set_option linter.unusedVariables false

theorem strsJ_at {W : World} {a : Addr} {ss : List ByteArray} (h : ∀ i, i < ss.length → W.cell? (a.add i) = some (.string (ss.getD i ByteArray.empty))) (hp : 0 < ss.length) :
    ∃ b off, a = ⟨b, off, none⟩ ∧ ∀ j, j < ss.length → W.cell? ⟨b, off + j, none⟩ = some (.string (ss.getD j ByteArray.empty)) := by
  obtain ⟨b, off, spot⟩ := a
  have hspot : spot = none := by simpa [Addr.add] using World.cell?_spot (h 0 hp)
  subst hspot
  exact ⟨b, off, rfl, fun j hj => by rw [← addr_add]; exact h j hj⟩
set_option maxRecDepth 100000 in
theorem strsJ_arg {H : Type} {enc : TypeId × Value → H} {W : World} {base : Nat} {v : Value} {d : DataW H} {p : List MemPlace}
    (hval : Value.okWide Tryd.prog W .any base 50 v) (h : DataW.Trod enc Tryd.prog W 0 (fun _ => true) true 50 v d p) : ∃ xs, SeesS W v xs ∧ xs.length ≤ 9223372036854775807 := by
  obtain ⟨a0, len0, cap0, rfl⟩ := okWide_slice Tryd.underlying50 hval
  obtain ⟨fuel, hf⟩ := h
  rcases open_strings Tryd.underlying50 Tryd.underlying9 (by kernel_rfl) hf with ⟨hcs, hx⟩ | ⟨a, len, cap, zs, hcs, _, hl, hm, hz, hx, hcell, hwz⟩
  · simp [Value.cells] at hcs
    obtain ⟨rfl, rfl, rfl⟩ := hcs
    exact ⟨[], ⟨0, 0, none, 0, rfl, Nat.le_refl _, fun _ => rfl, fun h => absurd rfl h, fun j hj => by simp at hj⟩, by simp⟩
  · simp [Value.cells] at hcs
    obtain ⟨rfl, rfl, rfl⟩ := hcs
    have hz' : zs.length = cap0 := by simpa using hz
    have hlen : ((zs.take len0).map fun s => s.data.toList).length = len0 := by rw [List.length_map, List.length_take]; omega
    refine ⟨(zs.take len0).map fun s => s.data.toList, ?_, ?_⟩
    · by_cases h0 : len0 = 0
      · subst h0
        exact ⟨0, 0, some a, cap0, rfl, Nat.zero_le _, (fun h => by cases h), fun h => absurd (by simp) h, fun j hj => by simp at hj⟩
      · obtain ⟨b, off, rfl, hc⟩ := strsJ_at hcell (by omega)
        refine ⟨b, off, _, cap0, by rw [hlen], by omega, (fun h => by cases h), fun _ => rfl, fun j hj => ?_⟩
        have hj' : j < len0 := by omega
        have hjz : j < zs.length := by omega
        rw [hc j (by omega)]
        simp [List.getD, hjz, strV]
    · rw [hlen]
      have : maxLen = 9223372036854775807 := rfl
      omega
end Go.Proofs.YtllhibdjopfcnaaDoor

namespace Go.Proofs.YtllhibdjopfcnaaDoor.parseJoined
open Go.ChangeShapes Go.WideShapes Go.ChangeAt Go.RowKit Go.ChangeMaps
set_option linter.unusedVariables false

set_option maxRecDepth 100000 in
theorem contract (H : Type) (enc : TypeId × Value → H) (W : World) (base : Nat) (args : Array Value) (ds gs : List (DataW H)) (before : List MemPlace)
    (hval : ∀ (j : Nat) t v, Tryd.f7.params[j]? = some t → args[j]? = some v → Value.okWide Tryd.prog W .any base t v)
    (hW : DataW.Whole enc Tryd.prog Tryd.f7.params.toList Rows.parseJoinedSpec.vars false W args.toList ds gs before) (hM : ML W) :
    Calls Tryd.prog 7 args W fun e W' => ∃ v, e = .returned v ∧ Rows.parseJoinedSpec.post enc Tryd.prog Tryd.f7 false true false false W args v W' := by
  have hW' := hW
  obtain ⟨p, q, hA0, hV, rfl, hfz, hnd⟩ := hW
  have hA : DataW.TrodAll enc Tryd.prog W 0 (fun _ => true) true Tryd.f7.params.toList args.toList ds p := hA0
  rw [Tryd.params7] at hA hval
  obtain ⟨v0, vs0, d0, ds0, p0, q0, hargs, rfl, rfl, h0, r0⟩ := trodAll_cons hA
  obtain ⟨rfl, rfl, rfl⟩ := trodAll_nil r0
  obtain rfl : args = #[v0] := by cases args; simp_all
  obtain ⟨rfl, rfl⟩ := trodVars_none hV
  obtain ⟨x0, hx0, lx0⟩ := strsJ_arg (hval 0 50 v0 rfl rfl) h0
  have lt0 : ∀ x ∈ p0, x.block < W.heap.size := by obtain ⟨m, hm⟩ := h0; exact DataW.trod_lt m _ _ _ hm
  clear hA0
  refine (join_walk v0 x0 W hM hx0 lx0).mono fun e W' ⟨he, bel⟩ => ?_
  subst he
  exact ⟨_, rfl, _, _, _, [], _, [], hW', trodAll_mk1 (shut_bool Tryd.underlying4 _), (trodAll_cons_mk (Below.trod laidOut (by kernel_rfl) (of_decide_eq_true (by kernel_rfl)) h0 bel lt0) trodAll_mk0), rfl, bel.frame _, fun h => by cases h⟩

theorem reads (os : Os) {H : Type} (enc : TypeId × Value → H) : ∃ places, DataW.whole enc Tryd.prog (({ World.holding Tryd.prog os ⟨#[], #[], []⟩ with heap := ((World.holding Tryd.prog os ⟨#[], #[], []⟩).heap.modify 2 layRanges).modify 1 layFirst } : World).forCall (fun _ _ => 0) ⟨#[], #[.slice none 0 0], []⟩).memory Tryd.f7.params.toList Rows.parseJoinedSpec.vars false (#[.slice none 0 0] : Array Value).toList 8 = some ([.nil], [], places) :=
  ⟨[], by kernel_rfl⟩

set_option maxRecDepth 100000 in
theorem lifted (os : Os) (started : os.Started) (H : Type) (enc : TypeId × Value → H) (F : Stop.Interp) :
    ReturnsInHanded {} Tryd.checked os 7 .any ((OpenSpec.ofChange Rows.parseJoinedSpec).preRow enc Tryd.prog Tryd.f7 Rows.parseJoinedRow.domain false Rows.parseJoinedRow.laid) (((OpenSpec.ofChange Rows.parseJoinedSpec).at F).post enc Tryd.prog Tryd.f7 false true false false) := by
  obtain ⟨places, hx⟩ := reads os enc
  refine returnsInHanded_of_row (C := Tryd.checked) (s := OpenSpec.ofChange Rows.parseJoinedSpec) own started (by kernel_rfl) Tryd.func7
    (witness_row_at (enc := enc) (C := Tryd.checked) false { World.holding Tryd.prog os ⟨#[], #[], []⟩ with heap := ((World.holding Tryd.prog os ⟨#[], #[], []⟩).heap.modify 2 layRanges).modify 1 layFirst } #[.slice none 0 0] rfl (by kernel_rfl) (by kernel_rfl) (by kernel_rfl)
      (OpenSpec.preRow_of_cond 8 hx (by kernel_rfl) (fun k hk => by cases hk) (by kernel_rfl) (laid_met os _))) ?_
  intro W base args ds gs before hval hW _ hcond hz hL hsh _
  exact contract H enc W base args ds gs before hval hW (ml_of hsh)

theorem said : Rows.ParseJoinedSaid :=
  OpenClaim.holds_of_cond 7 Tryd.f7 rfl rfl rfl rfl rfl rfl rfl ⟨rfl, rfl, rfl, rfl, rfl⟩ rfl rfl rfl rfl rfl (by kernel_rfl) Tryd.func7 (by kernel_rfl)
    (of_decide_eq_true (by kernel_rfl)) (by unfold Func.isWrapper; first | (rw [if_pos (by decide +kernel)]; kernel_rfl) | (rw [if_neg (by decide +kernel)]; exact ⟨rfl, rfl⟩))
    (fun os started H enc _ F => by rw [OpenClaim.pre_eq_preRow]; exact lifted os started H enc F)

theorem plain (f : FuncId) (fn : Func) (hf : Tryd.pinned.checked.prog.funcNamed "cloister/cloisterlaw08.ParseJoined" = some f) (hfn : Tryd.pinned.checked.prog.funcs[f]? = some fn) :
    false = Tryd.pinned.checked.prog.looks [] ∧ ∀ (j : Nat) t, fn.params[j]? = some t → Tryd.pinned.checked.prog.wantsStandIn t = false := by
  obtain rfl : f = 7 := Option.some.inj ((show Tryd.prog.funcNamed "cloister/cloisterlaw08.ParseJoined" = some 7 by kernel_rfl).symm.trans hf) |>.symm
  obtain rfl : fn = Tryd.f7 := (Option.some.inj (Tryd.func7.symm.trans hfn)).symm
  refine ⟨by kernel_rfl, fun j t ht => ?_⟩
  rw [Tryd.params7] at ht
  have hm := Array.mem_of_getElem? ht
  simp only [List.mem_toArray, List.mem_cons, List.not_mem_nil, or_false] at hm
  subst hm
  exact (show Tryd.prog.wantsStandIn 50 = false by kernel_rfl)

theorem card : Rows.ParseJoinedCardSaid :=
  Claim7.holds_tied_plain_at .later [] _ _ _ _ said (fun _ h => by cases h) (by kernel_rfl) (fun _ h => by cases h) parseJoined_row_tie rfl ⟨rfl, rfl⟩ (by kernel_rfl) rfl plain (by kernel_rfl)

end Go.Proofs.YtllhibdjopfcnaaDoor.parseJoined
namespace Go.Proofs.YtllhibdjopfcnaaDoor
theorem parseJoined_holds : Rows.ParseJoinedCardSaid := parseJoined.card
end Go.Proofs.YtllhibdjopfcnaaDoor

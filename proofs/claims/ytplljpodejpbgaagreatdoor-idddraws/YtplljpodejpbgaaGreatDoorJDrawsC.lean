/-
  IddDraws: for every list of draws and of truths the law IddDraws returns true: two servers over the same draws tell the same tokens. No condition but that the listed tables are the program's, to which they are tied. (The tables; a server of the law's two users; the walk; the card.)
-/
import Derived.Test.YtplljpodejpbgaaGreatDoorCards
import Derived.Test.YtplljpodejpbgaaGreatDoorTie
import Derived.WalkKit
import Derived.ProofKit
import Derived.OpenShut
import Derived.ShutString
import Derived.ChangeOld
import Derived.ChangeMaps5
import Derived.Below
import Derived.JoinedCond
import Derived.SizedLaws
import Derived.LaidLaws
import Derived.Deep.DeepHandedRow
import Derived.Lib.LaidTab
import Derived.Lib.LaidU8
import Derived.Lib.SmallJoins
import Derived.Test.YtplljpodejpbgaaGreatDoorJLoginB
import Derived.Test.YtplljpodejpbgaaGreatDoorJAwake
import Derived.Deep.Grids
namespace Go.Proofs.YtplljpodejpbgaaGreatDoor
open Go.ChangeShapes Go.WideShapes Go.ChangeAt Go.RowKit Go.Joins
set_option linter.unusedVariables false

theorem own : ownKnob Tryz.prog.godebug = none := by kernel_rfl
theorem laidOut : laidOutB Tryz.prog = true := by kernel_rfl
theorem gRo : Tryz.prog.globalNamed "cloister/sha.rounds" = some 0 := by kernel_rfl
theorem gRoType : (Tryz.prog.globals[0]?).map (·.type) = some 167 := by kernel_rfl
theorem cellsRo : Tryz.prog.cellsOf 167 = 64 := by kernel_rfl
theorem cellsR1 : Tryz.prog.cellsOf 138 = 1 := by kernel_rfl
theorem gTab : Tryz.prog.globalNamed "internal/strconv.uint64pow10" = some 1 := by kernel_rfl
theorem gTabType : (Tryz.prog.globals[1]?).map (·.type) = some 191 := by kernel_rfl
theorem cellsPo : Tryz.prog.cellsOf 191 = 20 := by kernel_rfl
theorem cellsU : Tryz.prog.cellsOf 154 = 1 := by kernel_rfl
def K0z : List Int := K0.map fun (x : Nat) => (x : Int)
/-- What the rows' list gives: the table of powers lies below all that is made, and sha's words lie. -/
theorem tb_laid {W : World} (h : laidMetH Tryz.prog [("math/bits.deBruijn32tab", Rows.laid_math_bits_deBruijn32tab), ("math/bits.deBruijn64tab", Rows.laid_math_bits_deBruijn64tab), ("internal/strconv.uint64pow10", Rows.laid_internal_strconv_uint64pow10), ("cloister/sha.rounds", Rows.laid_cloister_sha_rounds)] W) : Tb W := by
  have h' : laidMet Tryz.prog [("math/bits.deBruijn32tab", Rows.laid_math_bits_deBruijn32tab), ("math/bits.deBruijn64tab", Rows.laid_math_bits_deBruijn64tab), ("internal/strconv.uint64pow10", Rows.laid_internal_strconv_uint64pow10), ("cloister/sha.rounds", Rows.laid_cloister_sha_rounds)] W := h
  obtain ⟨ps, ⟨_, _, _, _, _, q1, _, _, _, _, h2, _⟩, _⟩ := h'
  obtain ⟨_, _, _, _, _, q2, _, _, _, _, h3, _⟩ := h2
  obtain ⟨g', t', cs, fuel, p, q, hg', ht', hvar, hd, h4, _⟩ := h3
  obtain ⟨g'', t'', cs', fuel', p', q', hg'', ht'', hvar', hd', _, _⟩ := h4
  obtain rfl := Option.some.inj (gTab.symm.trans hg')
  obtain rfl := Option.some.inj (gTabType.symm.trans ht')
  obtain rfl := Option.some.inj (gRo.symm.trans hg'')
  obtain rfl := Option.some.inj (gRoType.symm.trans ht'')
  constructor
  · have ht : Lib.TabIs Tryz.prog W "cloister/sha.rounds" .u32 K0z := by
      unfold Lib.TabIs
      rw [hvar', ← Lib.cells_of_tab (k := .u32) (zs := K0z) Tryz.underlying167 Tryz.underlying138 cellsR1 cellsRo hd']
    intro j hj
    have hc := ht.cell gRo j hj
    rw [hc]
    have hl : j < K0.length := hj
    simp [K0z, List.getD, hl]
  · refine Lib.tabBelow_of_tabIs ?_
    unfold Lib.TabIs
    rw [hvar, ← Lib.cells_of_tab (k := .u64) (zs := Lib.pow10Tab) Tryz.underlying191 Tryz.underlying154 cellsU cellsPo hd]

def layRounds : Obj → Obj
  | .cells _ t frozen => .cells (cellsN .u32 K0).toArray t frozen
  | o => o
def zPow : List Int := [1, 10, 100, 1000, 10000, 100000, 1000000, 10000000, 100000000, 1000000000, 10000000000, 100000000000, 1000000000000, 10000000000000, 100000000000000, 1000000000000000, 10000000000000000, 100000000000000000, 1000000000000000000, 10000000000000000000]
def layPow : Obj → Obj
  | .cells _ t frozen => .cells (zPow.map fun z => Value.int .u64 z).toArray t frozen
  | o => o
def zB32 : List Int := [0, 1, 28, 2, 29, 14, 24, 3, 30, 22, 20, 15, 25, 17, 4, 8, 31, 27, 13, 23, 21, 19, 16, 7, 26, 12, 18, 6, 11, 5, 10, 9]
def layB32 : Obj → Obj
  | .cells _ t frozen => .cells (zB32.map fun z => Value.int .u8 z).toArray t frozen
  | o => o
def zB64 : List Int := [0, 1, 56, 2, 57, 49, 28, 3, 61, 58, 42, 50, 38, 29, 17, 4, 62, 47, 59, 36, 45, 43, 51, 22, 53, 39, 33, 30, 24, 18, 12, 5, 63, 55, 48, 27, 60, 41, 37, 16, 46, 35, 44, 21, 52, 32, 23, 11, 54, 26, 40, 15, 34, 20, 31, 10, 25, 14, 19, 9, 13, 8, 7, 6]
def layB64 : Obj → Obj
  | .cells _ t frozen => .cells (zB64.map fun z => Value.int .u8 z).toArray t frozen
  | o => o
theorem laid_met (os : Os) (args : Array Value) : laidMet Tryz.prog [("math/bits.deBruijn32tab", Rows.laid_math_bits_deBruijn32tab), ("math/bits.deBruijn64tab", Rows.laid_math_bits_deBruijn64tab), ("internal/strconv.uint64pow10", Rows.laid_internal_strconv_uint64pow10), ("cloister/sha.rounds", Rows.laid_cloister_sha_rounds)] (({ World.holding Tryz.prog os ⟨#[], #[], []⟩ with heap := ((((World.holding Tryz.prog os ⟨#[], #[], []⟩).heap.modify 0 layRounds).modify 1 layPow).modify 3 layB32).modify 4 layB64 } : World).forCall (fun _ _ => 0) ⟨#[], args, []⟩).memory :=
  laidMet_of_run' 8 (by kernel_rfl) (by kernel_rfl)
end Go.Proofs.YtplljpodejpbgaaGreatDoor
namespace Go.Proofs.YtplljpodejpbgaaGreatDoor
open Go.RowKit
set_option linter.unusedVariables false
set_option linter.unusedSimpArgs false
section
set_option maxRecDepth 100000

theorem num_apart : ∀ a, a < 40 → ∀ b, b < 40 → strOf (hexOf (num4 a)) = strOf (hexOf (num4 b)) → a = b := by decide +kernel
def tokL (dr : List Int) (n : Nat) : ByteArray := strOf ((hexOf (digest H0 K0 (bytesOf (seedOf dr n)))).take 24)
theorem tokL_len (dr : List Int) (n : Nat) : (tokL dr n).data.toList.length = 24 := by
  have h1 : (tokL dr n).size = 24 := by
    unfold tokL
    rw [strOf_size, List.length_take, hexOf_len, digest_len H0_words]
    rfl
  rw [Array.length_toList]
  exact h1
theorem app_inj {a b c d : ByteArray} (h : a ++ b = c ++ d) (hl : a.data.toList.length = c.data.toList.length) : b = d := by
  have h1 : (a ++ b).data.toList = (c ++ d).data.toList := by rw [h]
  rw [ByteArray.data_append, ByteArray.data_append, Array.toList_append, Array.toList_append] at h1
  exact tok_inj (List.append_inj_right h1 hl)
theorem tok_ne {dr : List Int} {a b : Nat} (ha : a < 40) (hb : b < 40) (h : tokOf dr a = tokOf dr b) : a = b := by
  have h' : tokL dr a ++ strOf (hexOf (num4 a)) = tokL dr b ++ strOf (hexOf (num4 b)) := h
  exact num_apart a ha b hb (app_inj h' (by rw [tokL_len, tokL_len]))

structure SrvD (w : World) (dr : List Int) (n d : Nat) (F : Nat → Prop) (ub mb : Nat) (us : List (Acc × Value)) (vd : Value) (ss : List Ses) (vg : Value) (gs : List Gra) (v0 v1 : Value) : Prop where
  at_ : IdAt w d ub mb us vd dr n ss vg gs
  two : TwoAt us v0 v1
  toks : ∀ x ∈ ss, x.token = tokOf dr x.login
  F : F = mineD d ub mb vg
def Srv (w : World) (dr : List Int) (n d : Nat) (F : Nat → Prop) : Prop := ∃ ub mb us vd ss vg gs v0 v1, SrvD w dr n d F ub mb us vd ss vg gs v0 v1
theorem Srv.ints {w : World} {dr : List Int} {n d : Nat} {F : Nat → Prop} (h : Srv w dr n d F) : ∀ (k : Nat) (cur : Array Value), w.heap[k]? = some (.cells cur 3 (0, 0)) → ¬ F k := by
  obtain ⟨ub, mb, us, vd, ss, vg, gs, v0, v1, h⟩ := h
  rw [h.F]
  exact h.at_.apart.2.2.2.2
theorem Srv.lt {w : World} {dr : List Int} {n d : Nat} {F : Nat → Prop} (h : Srv w dr n d F) : ∀ k, F k → k < w.heap.size := by
  obtain ⟨ub, mb, us, vd, ss, vg, gs, v0, v1, h⟩ := h
  rw [h.F]
  rintro k (rfl | rfl | rfl | hk)
  · exact h.at_.ltd
  · exact h.at_.ltu
  · exact h.at_.ltm
  · exact ownsRow_lt h.at_.gra hk
theorem Srv.keep {w w' : World} {dr : List Int} {n d : Nat} {F G : Nat → Prop} (h : Srv w dr n d F) (hG : Gr G w w') (hd : ∀ k, F k → ¬ G k) (hi : ∀ (k : Nat) (cur : Array Value), w.heap[k]? = some (.cells cur 3 (0, 0)) → ¬ G k) : Srv w' dr n d F := by
  have hlt := h.lt
  obtain ⟨ub, mb, us, vd, ss, vg, gs, v0, v1, h⟩ := h
  refine ⟨ub, mb, us, vd, ss, vg, gs, v0, v1, h.at_.same fun k hk => ?_, h.two, h.toks, h.F⟩
  rcases hk with hk | ⟨cur, hk⟩
  · rw [← h.F] at hk
    exact hG.block k (hlt k hk) (hd k hk)
  · exact hG.block k (Array.getElem?_eq_some_iff.1 hk).1 (hi k cur hk)
theorem Srv.below {w w' : World} {dr : List Int} {n d : Nat} {F : Nat → Prop} (h : Srv w dr n d F) (hb : Below w.heap.size w w') : Srv w' dr n d F :=
  h.keep (Gr.of_below hb (fun _ => False)) (fun _ _ h => h) (fun _ _ _ h => h)

def nameQ (q : Bool) : ByteArray := if q then { data := #[98] } else { data := #[97] }
def wordQ (q : Bool) : ByteArray := if q then tTwo else tOne
def userQ (q : Bool) : Nat := if q then 1 else 0
theorem two_q {us : List (Acc × Value)} {v0 v1 : Value} (h : TwoAt us v0 v1) (q : Bool) : ∃ p : Acc × Value, us[userQ q]? = some p ∧ nameTo us (nameQ q) us.length = some (userQ q) ∧ p.1.salt.size ≤ 32 ∧ (wordQ q).size ≤ 140737488351232 ∧ strOf (saltOf p.1.salt (wordQ q)) = p.1.digest := by
  cases q with
  | true => exact ⟨_, h.b, h.nameB, by show tT.size ≤ 32; decide, by decide, rfl⟩
  | false => exact ⟨_, h.a, h.nameA, by show tS.size ≤ 32; decide, by decide, rfl⟩

theorem login_srv (w0 w : World) (hT : Tb w0) (hb0 : Below w0.heap.size w0 w) (dr : List Int) (n d : Nat) (F : Nat → Prop) (h : Srv w dr n d F) (hF : ∀ k, F k → w0.heap.size ≤ k) (q : Bool) (hn : n < 30) (hdr : ∀ x ∈ dr, -9223372036854775808 ≤ x ∧ x ≤ 9223372036854775807) :
    Calls Tryz.prog 16 #[.pointer (some ⟨d, 0, none⟩), .string (nameQ q), .string (wordQ q)] w fun e w' => e = .returned (.tuple #[.string (tokOf dr n), .int .i64 (userQ q : Int), .int .i64 0]) ∧ Srv w' dr (n + 1) d F ∧ Gr F w w' := by
  obtain ⟨ub, mb, us, vd, ss, vg, gs, v0, v1, h⟩ := h
  obtain ⟨p, hp, hu, hs, hw, hg⟩ := two_q h.two q
  have hnew : ∀ x ∈ ss, x.token ≠ tokOf dr n := fun x hx e => by
    have hlow := h.at_.low x hx
    rw [h.toks x hx] at e
    have := tok_ne (by omega) (by omega) e
    omega
  have hF' : ∀ k, mineD d ub mb vg k → w0.heap.size ≤ k := by
    have := hF
    rw [h.F] at this
    exact this
  have hTw : Tb w := hT.below hb0
  by_cases hlt : (toksOf ss (userQ q : Int)).length < 8
  · refine (login_ok w hTw d ub mb us vd dr n ss vg gs h.at_ (nameQ q) (wordQ q) (userQ q) p hp hu hs hw hg hlt (by omega) hnew hdr).mono ?_
    rintro e w' ⟨rfl, hI, hG⟩
    refine ⟨rfl, ⟨ub, mb, us, vd, _, vg, gs, v0, v1, hI, h.two, ?_, h.F⟩, by rw [h.F]; exact hG⟩
    intro x hx
    rcases List.mem_append.1 hx with hx | hx
    · exact h.toks x hx
    · simp at hx; subst hx; rfl
  · obtain ⟨t0, tr, hts⟩ : ∃ t0 tr, toksOf ss (userQ q : Int) = t0 :: tr := by
      cases hh : toksOf ss (userQ q : Int) with
      | nil => rw [hh] at hlt; simp at hlt
      | cons a b => exact ⟨a, b, rfl⟩
    have h0 : t0.size ≤ maxLen := by
      have hm : t0 ∈ toksOf ss (userQ q : Int) := by rw [hts]; simp
      unfold toksOf at hm
      obtain ⟨x, hx, rfl⟩ := List.mem_map.1 hm
      rw [h.toks x (List.mem_filter.1 hx).1, tokOf_size]
      decide
    refine (login_over w0 w hT hb0 d ub mb us vd dr n ss vg gs h.at_ hF' (nameQ q) (wordQ q) (userQ q) p hp hu hs hw hg t0 tr hts (by omega) h0 (by omega) hnew hdr).mono ?_
    rintro e w' ⟨rfl, hI, hG⟩
    refine ⟨rfl, ⟨ub, mb, us, vd, _, vg, gs, v0, v1, hI, h.two, ?_, h.F⟩, by rw [h.F]; exact hG⟩
    intro x hx
    rcases List.mem_append.1 hx with hx | hx
    · exact h.toks x (dropS_sub hx)
    · simp at hx; subst hx; rfl

theorem new_srv (B : Nat) (vd0 : Value) (dr : List Int) (w0 w : World) (ho : w.ownsRow w0.heap.size 55 4 (.slice (some ⟨B, 0, none⟩) 2 2) 2 (uC twoL)) (hD : Sees w vd0 dr) (hdl : dr.length * 8 ≤ 140737488355328) :
    Calls Tryz.prog 8 #[.slice (some ⟨B, 0, none⟩) 2 2, vd0] w fun e w' => ∃ d F, e = .returned (.tuple #[.pointer (some ⟨d, 0, none⟩), .int .i64 0]) ∧ Srv w' dr 0 d F ∧ Below w.heap.size w w' ∧ ∀ k, F k → w.heap.size ≤ k := by
  refine (new_yes (.slice (some ⟨B, 0, none⟩) 2 2) vd0 twoL dr w (sees_of_row ho) hD two_may two_sizes hdl).mono ?_
  rintro e w' ⟨d, ub, mb, us, vd, vg, rfl, hI, hU, hb, hm⟩
  obtain ⟨v0, v1, hTw⟩ := hU.two
  exact ⟨d, mineD d ub mb vg, rfl, ⟨ub, mb, us, vd, [], vg, _, v0, v1, hI, hTw, fun x hx => by simp at hx, rfl⟩, hb, hm⟩
end
end Go.Proofs.YtplljpodejpbgaaGreatDoor
namespace Go.Proofs.YtplljpodejpbgaaGreatDoor
open Go.RowKit
set_option linter.unusedVariables false
set_option linter.unusedSimpArgs false
section
set_option maxRecDepth 100000

/-- The slice v reads n truths in the world w. -/
def SeesB (w : World) (v : Value) (n : Nat) (B : Nat → Bool) : Prop :=
  ∃ b off ao cap, v = .slice ao n cap ∧ n ≤ cap ∧ (n ≠ 0 → ao = some ⟨b, off, none⟩) ∧ ∀ j, j < n → w.cell? ⟨b, off + j, none⟩ = some (.bool (B j))

set_option maxHeartbeats 4000000 in
theorem draws_walk (vd0 vo : Value) (dr : List Int) (m : Nat) (B : Nat → Bool) (w : World) (hT : Tb w) (hD : Sees w vd0 dr) (hdl : dr.length * 8 ≤ 140737488355328) (hdr : ∀ x ∈ dr, -9223372036854775808 ≤ x ∧ x ≤ 9223372036854775807) (hO : SeesB w vo m B) :
    Calls Tryz.prog 7 #[vd0, vo] w fun e w' => e = .returned (.bool true) ∧ Below w.heap.size w w' := by
  obtain ⟨b, off, ao, cap, rfl, hcap, hao, hcell⟩ := hO
  have htw := hid (two_any w)
  have HT := hid hT
  have HD := hid hD
  have HC := hid hcell
  have HAO := hid hao
  have HAW : Hid (∀ wr, Below w.heap.size w wr → Calls Tryz.prog 10 #[] wr fun e w' => e = .returned (.bool true) ∧ Below wr.heap.size wr w') := fun wr hr => awake_any wr (hT.below hr)
  clear hT hD hcell hao
  go_enter Tryz.func7, Tryz.ntmps7
  go_wp2_with fail
  refine htw.out.mono ?_
  rintro e w1 ⟨B1, rfl, ho1, hb1⟩
  have HNW := hid (new_srv B1 vd0 dr w w1 ho1 (HD.out.below hb1) hdl)
  have HB1 := hid hb1
  clear htw ho1 hb1
  go_wp2_with fail
  refine HNW.out.mono ?_
  rintro e w2 ⟨d1, F1, rfl, hS1, hb2, hF1⟩
  have HB2 := hid (HB1.out.trans (hb2.mono HB1.out.size))
  have HF1 : Hid (∀ k, F1 k → w.heap.size ≤ k) := fun k hk => Nat.le_trans HB1.out.size (hF1 k hk)
  have HS1 := hid hS1
  have htw := hid (two_any w2)
  clear hS1 hb2 hF1 HNW HB1
  go_wp2_with fail
  refine htw.out.mono ?_
  rintro e w3 ⟨B2, rfl, ho3, hb3⟩
  have HB3 := hid (HB2.out.trans (hb3.mono HB2.out.size))
  have HNW := hid (new_srv B2 vd0 dr w2 w3 ho3 (HD.out.below HB3.out) hdl)
  have HS3 := hid (HS1.out.below hb3)
  have HL3 : Hid (∀ k, F1 k → k < w3.heap.size) := fun k hk => (HS1.out.below hb3).lt k hk
  clear htw ho3 hb3 HS1 HB2
  go_wp2_with fail
  refine HNW.out.mono ?_
  rintro e w4 ⟨d2, F2, rfl, hS2, hb4, hF2⟩
  have HB4 := hid (HB3.out.trans (hb4.mono HB3.out.size))
  have HF2 : Hid (∀ k, F2 k → w.heap.size ≤ k) := fun k hk => Nat.le_trans HB3.out.size (hF2 k hk)
  have HAP : Hid (∀ k, F1 k → ¬ F2 k) := fun k h1 h2 => by
    have e1 := HL3.out k h1
    have e2 := hF2 k h2
    omega
  have HS4 := hid (HS3.out.below hb4)
  have HS2 := hid hS2
  have heq1 := eqlD_some_nil ⟨d1, 0, none⟩
  have heq2 := eqlD_some_nil ⟨d2, 0, none⟩
  clear hS2 hb4 hF2 HNW HB3 HS3 HL3
  go_wp2
  go_loopw [9, 10, 11, 12, 13, 14, 15, 16, 17] (fun i _ _ _ _ _ _ _ _ wr => ∃ k : Nat, k ≤ 30 ∧ i = .int .i64 k ∧ Hid (Srv wr dr k d1 F1) ∧ Hid (Srv wr dr k d2 F2) ∧ Hid (Below w.heap.size w wr)) (fun i _ _ _ _ _ _ _ _ _ => 30 - (intOf i).toNat)
  case atStart => exact ⟨0, by omega, rfl, HS4.out, HS2.out, HB4.out⟩
  case round =>
    obtain ⟨k, hk, rfl, HA, HE, HB⟩ := hrel
    clear heq1 heq2 HS4 HS2 HB4
    by_cases hkm : k < m
    · by_cases hlt : k < 30
      · have hi1 : (k : Int) < (m : Int) := by omega
        have hi2 : (k : Int) < 30 := by omega
        have hc := HC.out k hkm
        have hbl := World.block_lt_of_cell? w _ hc
        have hcr := (HB.out.cell (p := ⟨b, off + k, none⟩) hbl).trans hc
        obtain rfl := HAO.out (by omega)
        have hl1 := hid (login_srv w wr HT.out HB.out dr k d1 F1 HA.out HF1.out (B k) hlt hdr)
        obtain ⟨q, hq⟩ : ∃ q, q = B k := ⟨_, rfl⟩
        rw [← hq] at hcr hl1
        have HLB : Hid (∀ wx, Below w.heap.size w wx → Srv wx dr k d2 F2 → Calls Tryz.prog 16 #[.pointer (some ⟨d2, 0, none⟩), .string { data := #[97] }, .string { data := #[111, 110, 101] }] wx fun e w' => e = .returned (.tuple #[.string (tokOf dr k), .int .i64 0, .int .i64 0]) ∧ Srv w' dr (k + 1) d2 F2 ∧ Gr F2 wx w') :=
          fun wx hx hs => login_srv w wx HT.out hx dr k d2 F2 hs HF2.out false hlt hdr
        obtain ⟨tk1, htk⟩ : ∃ t, t = tokOf dr k := ⟨_, rfl⟩
        rw [← htk] at hl1 HLB
        clear htk hq hc
        cases q with
        | true =>
          have hl2 : Hid (Calls Tryz.prog 16 #[.pointer (some ⟨d1, 0, none⟩), .string { data := #[98] }, .string { data := #[116, 119, 111] }] wr fun e w' => e = .returned (.tuple #[.string tk1, .int .i64 1, .int .i64 0]) ∧ Srv w' dr (k + 1) d1 F1 ∧ Gr F1 wr w') := hl1
          clear hl1
          go_wp2_with fail
          refine hl2.out.mono ?_
          rintro e w5 ⟨rfl, hs5, hg5⟩
          have HB5 := hid (HB.out.trans (hg5.below HF1.out HB.out.size))
          have HE5 := hid (HE.out.keep hg5 (fun k h2 h1 => HAP.out k h1 h2) HA.out.ints)
          have HA5 := hid hs5
          have HLC := hid (HLB.out w5 HB5.out HE5.out)
          clear hs5 hg5 hl2 HLB HB HE HA hcr
          go_wp2_with fail
          refine HLC.out.mono ?_
          rintro e w6 ⟨rfl, hs6, hg6⟩
          have HB6 := hid (HB5.out.trans (hg6.below HF2.out HB5.out.size))
          have HA6 := hid (HA5.out.keep hg6 HAP.out HE5.out.ints)
          have HE6 := hid hs6
          clear hs6 hg6 HLC HB5 HE5 HA5
          go_wp2
          go_roundw
          case rel => exact ⟨k + 1, by omega, by go_num, HA6, HE6, HB6⟩
          case measure => simp [intOf]; omega
        | false =>
          have hl2 : Hid (Calls Tryz.prog 16 #[.pointer (some ⟨d1, 0, none⟩), .string { data := #[97] }, .string { data := #[111, 110, 101] }] wr fun e w' => e = .returned (.tuple #[.string tk1, .int .i64 0, .int .i64 0]) ∧ Srv w' dr (k + 1) d1 F1 ∧ Gr F1 wr w') := hl1
          clear hl1
          go_wp2_with fail
          refine hl2.out.mono ?_
          rintro e w5 ⟨rfl, hs5, hg5⟩
          have HB5 := hid (HB.out.trans (hg5.below HF1.out HB.out.size))
          have HE5 := hid (HE.out.keep hg5 (fun k h2 h1 => HAP.out k h1 h2) HA.out.ints)
          have HA5 := hid hs5
          have HLC := hid (HLB.out w5 HB5.out HE5.out)
          clear hs5 hg5 hl2 HLB HB HE HA hcr
          go_wp2_with fail
          refine HLC.out.mono ?_
          rintro e w6 ⟨rfl, hs6, hg6⟩
          have HB6 := hid (HB5.out.trans (hg6.below HF2.out HB5.out.size))
          have HA6 := hid (HA5.out.keep hg6 HAP.out HE5.out.ints)
          have HE6 := hid hs6
          clear hs6 hg6 HLC HB5 HE5 HA5
          go_wp2
          go_roundw
          case rel => exact ⟨k + 1, by omega, by go_num, HA6, HE6, HB6⟩
          case measure => simp [intOf]; omega
      · have hi1 : (k : Int) < (m : Int) := by omega
        have hi2 : ¬ (k : Int) < 30 := by omega
        have haw := HAW.out wr HB.out
        go_wp2_with fail
        refine haw.mono ?_
        rintro e w5 ⟨rfl, b5⟩
        have HX := hid (HB.out.trans (b5.mono HB.out.size))
        clear haw b5
        go_wp2
        go_ret
        exact ⟨rfl, HX.out⟩
    · have hi1 : ¬ (k : Int) < (m : Int) := by omega
      have haw := HAW.out wr HB.out
      go_wp2_with fail
      refine haw.mono ?_
      rintro e w5 ⟨rfl, b5⟩
      have HX := hid (HB.out.trans (b5.mono HB.out.size))
      clear haw b5
      go_wp2
      go_ret
      exact ⟨rfl, HX.out⟩
end
end Go.Proofs.YtplljpodejpbgaaGreatDoor
namespace Go.Proofs.YtplljpodejpbgaaGreatDoor
open Go.ChangeShapes Go.WideShapes Go.ChangeAt Go.RowKit
set_option linter.unusedVariables false

theorem int_bounds {m : Int} (h : (Lit.int .i64 m).wf = true) : -9223372036854775808 ≤ m ∧ m ≤ 9223372036854775807 := by
  have h' := h
  simp [Lit.wf] at h'
  have e1 : IntKind.i64.min = -9223372036854775808 := by first | rfl | decide
  have e2 : IntKind.i64.max = 9223372036854775807 := by first | rfl | decide
  omega
theorem weights_arg {H : Type} {ts : List TypeId} {ds : List (DataW H)} (h : (DataW.weightsEach Tryz.prog ts ds).all (· ≤ reachBytes) = true) {j : Nat} {t : TypeId} {d : DataW H} (ht : ts[j]? = some t) (hd : ds[j]? = some d) :
    ∀ n, n ∈ d.weights Tryz.prog t → n ≤ reachBytes := fun n hn => by
  have := List.all_eq_true.1 h n (DataW.weights_mem_each ht hd n hn)
  simpa using this
/-- A slice of numbers among the data. -/
theorem ints_cell {H : Type} {enc : TypeId × Value → H} {W : World} {v : Value} {x : DataW H × List MemPlace} {fuel : Nat}
    (h : DataW.trod enc Tryz.prog W 0 (fun _ => true) true fuel 23 [v] = some x) : ∃ xs, Sees W v xs ∧ (∀ z ∈ xs, -9223372036854775808 ≤ z ∧ z ≤ 9223372036854775807) ∧ ((∀ n, n ∈ x.1.weights Tryz.prog 23 → n ≤ reachBytes) → xs.length * 8 ≤ 140737488351232) := by
  rcases open_ints Tryz.underlying23 Tryz.underlying3 (by kernel_rfl) h with ⟨hcs, hx⟩ | ⟨a, len, cap, zs, hcs, _, hl, hm, hz, hx, hcell, hwz⟩
  · simp only [List.cons.injEq, and_true] at hcs
    subst hcs
    exact ⟨[], ⟨0, 0, none, 0, rfl, Nat.le_refl _, fun _ => rfl, fun h => absurd rfl h, fun j hj => by simp at hj⟩, fun z hz => by simp at hz, fun _ => by simp⟩
  · simp only [List.cons.injEq, and_true] at hcs
    subst hcs
    have hz' : zs.length = cap := by simpa using hz
    have hlen : (zs.take len).length = len := by rw [List.length_take]; omega
    refine ⟨zs.take len, ?_, fun z hz => int_bounds (hwz z (List.mem_of_mem_take hz)), fun hw => ?_⟩
    · by_cases h0 : len = 0
      · subst h0
        exact ⟨0, 0, some a, cap, rfl, Nat.zero_le _, (fun h => by cases h), fun h => absurd (by simp) h, fun j hj => by simp at hj⟩
      · obtain ⟨b, off, rfl, hc⟩ := ints_at hcell (by omega)
        refine ⟨b, off, _, cap, by rw [hlen], by omega, (fun h => by cases h), fun _ => rfl, fun j hj => ?_⟩
        have hj' : j < len := by omega
        rw [hc j (by omega)]
        simp [List.getD, hj']
    · rw [hx] at hw
      have h3 : Tryz.prog.bytesOf 3 = 8 := by kernel_rfl
      have := hw (((lits (H := H) .i64 (zs.take len)).length + (lits (H := H) .i64 (zs.drop len)).length) * Tryz.prog.bytesOf 3) (by simp [DataW.weights, Tryz.underlying23])
      rw [h3] at this
      simp only [lits, List.length_map, hlen] at this
      rw [hlen]
      have hr : reachBytes = 140737488351232 := rfl
      omega
/-- A slice of truths among the data. -/
theorem bools_cell {H : Type} {enc : TypeId × Value → H} {W : World} {v : Value} {x : DataW H × List MemPlace} {fuel : Nat}
    (h : DataW.trod enc Tryz.prog W 0 (fun _ => true) true fuel 48 [v] = some x) : ∃ m B, SeesB W v m B := by
  rcases Go.Deep.open_bools Tryz.underlying48 Tryz.underlying4 (by kernel_rfl) h with ⟨hcs, hx⟩ | ⟨a, len, cap, B, hcs, _, hl, hm, hx, hcell⟩
  · simp only [List.cons.injEq, and_true] at hcs
    subst hcs
    exact ⟨0, fun _ => false, 0, 0, none, 0, rfl, Nat.le_refl _, fun h => absurd rfl h, fun j hj => absurd hj (by omega)⟩
  · simp only [List.cons.injEq, and_true] at hcs
    subst hcs
    refine ⟨len, B, ?_⟩
    by_cases h0 : len = 0
    · subst h0
      exact ⟨0, 0, some a, cap, rfl, Nat.zero_le _, fun h => absurd rfl h, fun j hj => absurd hj (by omega)⟩
    · obtain ⟨b, off, spot⟩ := a
      have hspot : spot = none := by simpa [Addr.add] using World.cell?_spot (hcell 0 (by omega))
      subst hspot
      refine ⟨b, off, _, cap, rfl, hl, fun _ => rfl, fun j hj => ?_⟩
      have := hcell j (by omega)
      rwa [addr_add] at this
end Go.Proofs.YtplljpodejpbgaaGreatDoor
namespace Go.Proofs.YtplljpodejpbgaaGreatDoor.iddDraws
open Go.ChangeShapes Go.WideShapes Go.ChangeAt Go.RowKit Go.ChangeMaps
set_option linter.unusedVariables false

set_option maxRecDepth 100000 in
theorem contract (H : Type) (enc : TypeId × Value → H) (W : World) (base : Nat) (args : Array Value) (ds gs : List (DataW H)) (before : List MemPlace)
    (hval : ∀ (j : Nat) t v, Tryz.f7.params[j]? = some t → args[j]? = some v → Value.okWide Tryz.prog W .any base t v)
    (hW : DataW.Whole enc Tryz.prog Tryz.f7.params.toList Rows.iddDrawsSpec.vars false W args.toList ds gs before)
    (hz : (DataW.weightsEach Tryz.prog (Tryz.f7.params.toList ++ Rows.iddDrawsSpec.plain.varTypes Tryz.prog) (ds ++ gs)).all (· ≤ reachBytes) = true) (hL : laidMetH Tryz.prog Rows.iddDrawsRow.laid W) :
    Calls Tryz.prog 7 args W fun e W' => ∃ v, e = .returned v ∧ Rows.iddDrawsSpec.post enc Tryz.prog Tryz.f7 false true false false W args v W' := by
  have hW' := hW
  obtain ⟨p, q, hA0, hV, rfl, hfz, hnd⟩ := hW
  have hA : DataW.TrodAll enc Tryz.prog W 0 (fun _ => true) true Tryz.f7.params.toList args.toList ds p := hA0
  rw [Tryz.params7] at hA hval hz
  obtain ⟨v0, vs0, d0, ds0, p0, q0, hargs, rfl, rfl, h0, r0⟩ := trodAll_cons hA
  obtain ⟨v1, vs1, d1, ds1, p1, q1, rfl, rfl, rfl, h1, r1⟩ := trodAll_cons r0
  obtain ⟨rfl, rfl, rfl⟩ := trodAll_nil r1
  obtain rfl : args = #[v0, v1] := by cases args; simp_all
  obtain ⟨rfl, rfl⟩ := trodVars_none hV
  obtain ⟨a0, n0, c0, rfl⟩ := okWide_slice Tryz.underlying23 (hval 0 23 v0 rfl rfl)
  have h0' := h0
  obtain ⟨fu0, hf0⟩ := h0'
  obtain ⟨l0, hx0, bd0, sz0⟩ := ints_cell hf0
  have sz0 := sz0 (weights_arg hz (j := 0) rfl rfl)
  have lt0 : ∀ x ∈ p0, x.block < W.heap.size := by obtain ⟨m, hm⟩ := h0; exact DataW.trod_lt m _ _ _ hm
  obtain ⟨a1, n1, c1, rfl⟩ := okWide_slice Tryz.underlying48 (hval 1 48 v1 rfl rfl)
  have h1' := h1
  obtain ⟨fu1, hf1⟩ := h1'
  obtain ⟨m1, B1, hx1⟩ := bools_cell hf1
  have lt1 : ∀ x ∈ p1, x.block < W.heap.size := by obtain ⟨m, hm⟩ := h1; exact DataW.trod_lt m _ _ _ hm
  clear hA0
  refine (draws_walk _ _ l0 m1 B1 W (tb_laid hL) hx0 (by omega) bd0 hx1).mono fun e W' ⟨he, bel⟩ => ?_
  subst he
  exact ⟨_, rfl, _, _, _, [], _, [], hW', trodAll_mk1 (shut_bool Tryz.underlying4 _), (trodAll_cons_mk (Below.trod laidOut (by kernel_rfl) (of_decide_eq_true (by kernel_rfl)) h0 bel lt0) (trodAll_cons_mk (Below.trod laidOut (by kernel_rfl) (of_decide_eq_true (by kernel_rfl)) h1 bel lt1) trodAll_mk0)), rfl, bel.frame _, fun h => by cases h⟩

theorem reads (os : Os) {H : Type} (enc : TypeId × Value → H) : ∃ places, DataW.whole enc Tryz.prog (({ World.holding Tryz.prog os ⟨#[], #[], []⟩ with heap := ((((World.holding Tryz.prog os ⟨#[], #[], []⟩).heap.modify 0 layRounds).modify 1 layPow).modify 3 layB32).modify 4 layB64 } : World).forCall (fun _ _ => 0) ⟨#[], #[.slice none 0 0, .slice none 0 0], []⟩).memory Tryz.f7.params.toList Rows.iddDrawsSpec.vars false (#[.slice none 0 0, .slice none 0 0] : Array Value).toList 8 = some ([.nil, .nil], [], places) :=
  ⟨[], by kernel_rfl⟩

set_option maxRecDepth 100000 in
theorem lifted (os : Os) (started : os.Started) (H : Type) (enc : TypeId × Value → H) (F : Stop.Interp) :
    ReturnsInHanded {} Tryz.checked os 7 .any ((OpenSpec.ofChange Rows.iddDrawsSpec).preRow enc Tryz.prog Tryz.f7 Rows.iddDrawsRow.domain false Rows.iddDrawsRow.laid) (((OpenSpec.ofChange Rows.iddDrawsSpec).at F).post enc Tryz.prog Tryz.f7 false true false false) := by
  obtain ⟨places, hx⟩ := reads os enc
  refine returnsInHanded_of_row (C := Tryz.checked) (s := OpenSpec.ofChange Rows.iddDrawsSpec) own started (by kernel_rfl) Tryz.func7
    (witness_row_at (enc := enc) (C := Tryz.checked) false { World.holding Tryz.prog os ⟨#[], #[], []⟩ with heap := ((((World.holding Tryz.prog os ⟨#[], #[], []⟩).heap.modify 0 layRounds).modify 1 layPow).modify 3 layB32).modify 4 layB64 } #[.slice none 0 0, .slice none 0 0] rfl (by kernel_rfl) (by kernel_rfl) (by kernel_rfl)
      (OpenSpec.preRow_of_cond 8 hx (by kernel_rfl) (fun k hk => by cases hk) (by kernel_rfl) (laid_met os _))) ?_
  intro W base args ds gs before hval hW _ hcond hz hL hsh _
  exact contract H enc W base args ds gs before hval hW hz hL

theorem said : Rows.IddDrawsSaid :=
  OpenClaim.holds_of_cond 7 Tryz.f7 rfl rfl rfl rfl rfl rfl rfl ⟨rfl, rfl, rfl, rfl, rfl⟩ rfl rfl rfl rfl rfl (by kernel_rfl) Tryz.func7 (by kernel_rfl)
    (of_decide_eq_true (by kernel_rfl)) (by unfold Func.isWrapper; first | (rw [if_pos (by decide +kernel)]; kernel_rfl) | (rw [if_neg (by decide +kernel)]; exact ⟨rfl, rfl⟩))
    (fun os started H enc _ F => by rw [OpenClaim.pre_eq_preRow]; exact lifted os started H enc F)

theorem plain (f : FuncId) (fn : Func) (hf : Tryz.pinned.checked.prog.funcNamed "cloister/cloisterlaw17.IddDraws" = some f) (hfn : Tryz.pinned.checked.prog.funcs[f]? = some fn) :
    true = Tryz.pinned.checked.prog.looks [] ∧ ∀ (j : Nat) t, fn.params[j]? = some t → Tryz.pinned.checked.prog.wantsStandIn t = false := by
  obtain rfl : f = 7 := Option.some.inj ((show Tryz.prog.funcNamed "cloister/cloisterlaw17.IddDraws" = some 7 by kernel_rfl).symm.trans hf) |>.symm
  obtain rfl : fn = Tryz.f7 := (Option.some.inj (Tryz.func7.symm.trans hfn)).symm
  refine ⟨by kernel_rfl, fun j t ht => ?_⟩
  rw [Tryz.params7] at ht
  have hm := Array.mem_of_getElem? ht
  simp only [List.mem_toArray, List.mem_cons, List.not_mem_nil, or_false] at hm
  rcases hm with rfl | rfl
  · exact (show Tryz.prog.wantsStandIn 23 = false by kernel_rfl)
  · exact (show Tryz.prog.wantsStandIn 48 = false by kernel_rfl)

theorem card : Rows.IddDrawsCardSaid :=
  Claim7.holds_tied_plain_at .later [] _ _ _ _ said (fun _ h => by cases h) (by kernel_rfl) (fun _ h => by cases h) iddDraws_row_tie rfl ⟨rfl, rfl⟩ (by kernel_rfl) rfl plain (by kernel_rfl)

end Go.Proofs.YtplljpodejpbgaaGreatDoor.iddDraws
namespace Go.Proofs.YtplljpodejpbgaaGreatDoor
theorem iddDraws_holds : Rows.IddDrawsCardSaid := iddDraws.card
end Go.Proofs.YtplljpodejpbgaaGreatDoor

/-
  part: a node below is parted in two.
-/
import Derived.Test.YtkjmilcocnjjoaaTBunI
import Derived.Deep.CutBlock
import Derived.Deep.DeepCutAuto
namespace Go.Proofs.Ytkjmilcocnjjoaa.I
open Go.RowKit Tm
set_option linter.unusedVariables false

theorem TB.mid {w w' : World} {N N' : List Nd} (h : TB w w' N N') {m : Nat} {o : Obj} (hm : w.heap[m]? = some o) (h0 : sumN N m = 0) : w'.heap[m]? = some o := by
  rw [h.gr.block m (heap_lt hm) (by simp only [h0]; omega)]; exact hm

theorem items_max {w : World} {v : Value} {l : List It} {ao : Option Addr} {n cap : Nat} (h : RowI w v l) (hv : v = .slice ao n cap) : n = l.length ∧ n ≤ cap ∧ cap ≤ 9223372036854775807 := by
  obtain ⟨ao', c, e, h1, h2⟩ := ownsRow_shape h
  subst hv
  cases e
  simp only [maxLen] at h2
  exact ⟨rfl, h1, by omega⟩
theorem kids_max {w : World} {v : Value} {l : List Nat} {ao : Option Addr} {n cap : Nat} (h : RowP w v l) (hv : v = .slice ao n cap) : n = l.length ∧ n ≤ cap ∧ cap ≤ 9223372036854775807 := by
  obtain ⟨ao', c, e, h1, h2⟩ := ownsRow_shape h
  subst hv
  cases e
  simp only [maxLen] at h2
  exact ⟨rfl, h1, by omega⟩

set_option maxHeartbeats 4000000 in
set_option maxRecDepth 100000 in
theorem part_raw (p pl at' o : Nat) (vi vk vil vkl : Value) (is il : List It) (qs ql : List Nat) (w : World) (hB : Bun w [⟨p, vi, vk, is, qs⟩, ⟨pl, vil, vkl, il, ql⟩]) (ho : o + 1 < il.length) (hil : il.length ≤ 200) (his : is.length ≤ 200)
    (hat : at' ≤ is.length) (hqs : qs.length = is.length + 1) (hq : qs[at']? = some pl) (hk : (vkl = .slice none 0 0 ∧ ql = []) ∨ ql.length = il.length + 1) :
    Calls Try.prog 36 #[ptr p, .int .i64 at', .int .i64 o] w fun e w' => e = .returned (.tuple #[]) ∧
      ∃ q vi' vk' vil' vkl' vir vkr, TB w w' [⟨p, vi, vk, is, qs⟩, ⟨pl, vil, vkl, il, ql⟩]
        [⟨p, vi', vk', is.take at' ++ il[o] :: is.drop at', qs.take (at' + 1) ++ q :: qs.drop (at' + 1)⟩, ⟨pl, vil', vkl', il.take o, ql.take (o + 1)⟩, ⟨q, vir, vkr, il.drop (o + 1), ql.drop (o + 1)⟩] ∧
        (vkl = .slice none 0 0 → vkl' = .slice none 0 0 ∧ vkr = .slice none 0 0) := by
  have hP := hB.lies _ (List.mem_cons_self ..)
  have hL := hB.lies ⟨pl, vil, vkl, il, ql⟩ (by simp)
  obtain ⟨gk, ck, hvk, hck, hgk, hfk, hcellk⟩ := rowP_form hP.rk (by show 0 < qs.length; omega)
  obtain ⟨gl, cl, hvil, hcl, hgl, hfl, hcelll⟩ := row_form hL.ri (by show 0 < il.length; omega)
  change vk = .slice _ qs.length ck at hvk
  change vil = .slice _ il.length cl at hvil
  change qs.length ≤ ck at hck
  change il.length ≤ cl at hcl
  have hck3 := (kids_max hP.rk hvk).2.2
  have hcl3 := (items_max hL.ri hvil).2.2
  have p1 := node_cell1 hP.blk
  have l0 := node_cell0 hL.blk
  change w.cell? ⟨p, 1, none⟩ = some vk at p1
  change w.cell? ⟨pl, 0, none⟩ = some vil at l0
  obtain ⟨hatq, hatv⟩ := List.getElem?_eq_some_iff.1 hq
  have k1 := hcellk at' hatq
  change w.cell? ⟨gk, at', none⟩ = some (ptr qs[at']) at k1
  rw [hatv] at k1
  obtain ⟨m1, m2⟩ := hcelll o (by show o < il.length; omega)
  change w.cell? ⟨gl, o * 2, none⟩ = some (.string il[o].1) at m1
  change w.cell? ⟨gl, o * 2 + 1, none⟩ = some (encI il[o].2) at m2
  generalize hmx : il[o] = mx at m1 m2
  have HMX := hid hmx
  have HB := hid hB
  have HP := hid hP
  have HL := hid hL
  have HCL := hid hcelll
  have HQ := hid hq
  have HK := hid hk
  have HVK := hid hvk
  have HVL := hid hvil
  have HQS := hid hqs
  have HAT := hid hat
  clear hmx hB hP hL hcelll hcellk hfk hfl hq hk hatv hqs hat
  subst hvk
  subst hvil
  simp only [encI] at m2
  unfold ptr at *
  have hatq2 : at' < qs.length := hatq
  have hol : o < il.length := by omega
  have hw1 : IntKind.i64.wrap ((o : Int) + 1) = (o : Int) + 1 := by rw [IntKind.wrap_i64]; omega
  have htn : ((o : Int) + 1).toNat = o + 1 := by omega
  have hb1 : (0 : Int) ≤ (o : Int) + 1 := by omega
  have hb2 : ¬ (cl = o + 1) := by omega
  have hb3 : (o : Int) + 1 ≤ (il.length : Int) := by omega
  go_enter Try.func36, Try.ntmps36
  have la0 : (w.alloc (.cells #[.string mx.1, encI mx.2] 47)).cell? ⟨pl, 0, none⟩ = some (.slice (some ⟨gl, 0, none⟩) il.length cl) := Lib.cell?_alloc_some _ l0
  simp only [encI] at la0
  go_wp2_with fail
  obtain ⟨wa, hwa⟩ : ∃ wa, wa = w.alloc (.cells #[.string mx.1, encI mx.2] 47) := ⟨_, rfl⟩
  have hmid : wa.heap[w.heap.size]? = some (.cells #[.string mx.1, encI mx.2] 47 (0, 0)) := by rw [hwa]; exact heap_alloc_new w _
  have hba : Below w.heap.size w wa := by rw [hwa]; exact (Below.refl _ w).alloc (Nat.le_refl _) _
  simp only [encI] at hwa
  rw [← hwa]
  have ta := TB.below HB.out hba
  have h0 : sumN [⟨p, vi, .slice (some ⟨gk, 0, none⟩) qs.length ck, is, qs⟩, ⟨pl, .slice (some ⟨gl, 0, none⟩) il.length cl, vkl, il, ql⟩] w.heap.size = 0 := HB.out.lt (Nat.le_refl _)
  have HTA := hid ta
  have HMID := hid hmid
  have H0 := hid h0
  have HWS : Hid (wa.heap.size = w.heap.size + 1) := hid (by rw [hwa]; simp)
  have hLa := ta.bun.lies ⟨pl, .slice (some ⟨gl, 0, none⟩) il.length cl, vkl, il, ql⟩ (by simp)
  have hcs : ∀ j u, (itC encI (il.drop (o + 1)))[j]? = some u → wa.cell? ⟨gl, (o + 1) * 2 + j, none⟩ = some u := fun j u hj => by
    rw [← itC_drop, List.getElem?_drop] at hj
    have := hLa.ri.cells (g := gl) rfl _ u hj
    rw [addr_add, Nat.zero_add] at this
    exact this
  have hgla : gl < wa.heap.size := by rw [HWS.out]; omega
  clear la0 ta hmid h0 hba p1 l0 k1 m1 m2 hwa hLa
  refine (I.clone_any gl ((o + 1) * 2) (il.length - (o + 1)) _ (itC encI (il.drop (o + 1))) wa (by omega) (by omega) hgla (by rw [itC_len, List.length_drop]) hcs (itC_one encI encI_one _)).mono ?_
  rintro e wb ⟨g1, cap1, rfl, r1, r2, r3⟩
  have hbb : Below wa.heap.size wa wb := ⟨r2.os, r2.tape, r2.output, r2.size, fun k hk => r2.block k hk (fun e => by cases e)⟩
  have hrow1 : RowI wb (.slice (some ⟨g1, 0, none⟩) (il.length - (o + 1)) cap1) (il.drop (o + 1)) := row_of r1 (by simp) rfl
  have tn := step_new HTA.out.bun hbb (.slice (some ⟨g1, 0, none⟩) (il.length - (o + 1)) cap1) (.slice none 0 0) (il.drop (o + 1)) [] hrow1 (World.ownsRow_nil _ _ _ _) (fun g e => by cases e; exact r3) (fun g e => by cases e)
  obtain ⟨wc, hwc⟩ : ∃ wc, wc = wb.alloc (.cells #[.slice (some ⟨g1, 0, none⟩) (il.length - (o + 1)) cap1, .slice none 0 0] 69) := ⟨_, rfl⟩
  obtain ⟨q, hq⟩ : ∃ q, q = wb.heap.size := ⟨_, rfl⟩
  rw [← hwc, ← hq] at tn
  have HTN := hid tn
  clear hcs hgla r1 r2 r3 hbb hrow1 tn
  go_wp2_with fail
  rw [← hwc, ← hq]
  clear hwc hq
  go_cut [] (fun wx => ∃ v', Hid (TB wc wx [⟨p, vi, .slice (some ⟨gk, 0, none⟩) qs.length ck, is, qs⟩, ⟨pl, .slice (some ⟨gl, 0, none⟩) il.length cl, vkl, il, ql⟩, ⟨q, .slice (some ⟨g1, 0, none⟩) (il.length - (o + 1)) cap1, .slice none 0 0, il.drop (o + 1), []⟩]
    [⟨p, vi, .slice (some ⟨gk, 0, none⟩) qs.length ck, is, qs⟩, ⟨pl, v', vkl, il.take o, ql⟩, ⟨q, .slice (some ⟨g1, 0, none⟩) (il.length - (o + 1)) cap1, .slice none 0 0, il.drop (o + 1), []⟩]))
  case first =>
    have hLc := HTN.out.bun.lies ⟨pl, .slice (some ⟨gl, 0, none⟩) il.length cl, vkl, il, ql⟩ (by simp)
    have c0 : wc.drew.cell? ⟨pl, 0, none⟩ = some (.slice (some ⟨gl, 0, none⟩) il.length cl) := node_cell0 hLc.blk
    have hdel := I.del_any _ il.length o il.length (itC encI il) wc.drew hLc.ri (by omega) (Nat.le_refl _) (by omega) (itC_one encI encI_one _)
    have HLC := hid hLc
    clear hLc
    go_region_law
      (first
        | (go_simp
           refine hdel.mono ?_
           rintro e wd ⟨v', rfl, r1, r2, r3⟩
           rw [Nat.sub_self, Nat.add_zero] at r1
           have hrow : RowI wd v' (il.take o) := row_of r1 (by rw [List.length_take]; omega) (by rw [itC_take, itC_drop]; simp [itC])
           have r2' : wc.grownBy wd (some gl) := ⟨r2.os, r2.tape, r2.output, r2.size, r2.block⟩
           have ts := step_items (A := [⟨p, vi, .slice (some ⟨gk, 0, none⟩) qs.length ck, is, qs⟩]) (B := [⟨q, .slice (some ⟨g1, 0, none⟩) (il.length - (o + 1)) cap1, .slice none 0 0, il.drop (o + 1), []⟩]) HTN.out.bun v' (il.take o) r2' hrow (.inl r3)
           have hd0 := HTN.out.bun.blk_i (x := ⟨pl, .slice (some ⟨gl, 0, none⟩) il.length cl, vkl, il, ql⟩) (by simp) r2'
           have d0 : wd.cell? ⟨pl, 0, none⟩ = some (.slice (some ⟨gl, 0, none⟩) il.length cl) := node_cell0 hd0
           have d1 : wd.frozen? ⟨pl, 0, none⟩ = false := node_fro (j := 0) hd0
           obtain ⟨aod, capd, hvd, _, _⟩ := ownsRow_shape r1
           subst hvd
           have HTS := hid ts
           clear hdel r1 r2 r2' r3 hrow ts hd0 c0))
    all_goals
      go_wp2
      go_meet
      case rel => exact ⟨_, HTS⟩
  case rest =>
    obtain ⟨vil', hts⟩ := hcut
    have t2 := (HTA.out.trans HTN.out).trans hts.out
    have t2m := HTN.out.trans hts.out
    have hmid2 := t2m.mid HMID.out H0.out
    have hL2 := t2.bun.lies ⟨pl, vil', vkl, il.take o, ql⟩ (by simp)
    have hR2 := t2.bun.lies ⟨q, .slice (some ⟨g1, 0, none⟩) (il.length - (o + 1)) cap1, .slice none 0 0, il.drop (o + 1), []⟩ (by simp)
    have HT2 := hid t2
    have HM2 := hid hmid2
    have HT2M := hid t2m
    have HL2 := hid hL2
    have HR2 := hid hR2
    have l1 : wc.cell? ⟨pl, 1, none⟩ = some vkl := node_cell1 hL2.blk
    clear hts t2 t2m hmid2 hL2 hR2
    rename_i K4 hK4
    refine hK4 _ _ ?_
    go_step
    go_cut [] (fun wx => ∃ vkl' vkr, Hid (TB wc wx [⟨p, vi, .slice (some ⟨gk, 0, none⟩) qs.length ck, is, qs⟩, ⟨pl, vil', vkl, il.take o, ql⟩, ⟨q, .slice (some ⟨g1, 0, none⟩) (il.length - (o + 1)) cap1, .slice none 0 0, il.drop (o + 1), []⟩]
      [⟨p, vi, .slice (some ⟨gk, 0, none⟩) qs.length ck, is, qs⟩, ⟨pl, vil', vkl', il.take o, ql.take (o + 1)⟩, ⟨q, .slice (some ⟨g1, 0, none⟩) (il.length - (o + 1)) cap1, vkr, il.drop (o + 1), ql.drop (o + 1)⟩]) ∧ Hid (vkl = .slice none 0 0 → vkl' = .slice none 0 0 ∧ vkr = .slice none 0 0))
    case first =>
      rcases HK.out with ⟨hk1, hk2⟩ | hk
      · rw [hk1] at l1
        go_wp2_with fail
        refine (leaf_yes pl 0 wc l1).mono ?_
        rintro e wc2 ⟨rfl, rfl⟩
        go_wp2
        go_meet
        case rel =>
          subst hk2
          exact ⟨vkl, .slice none 0 0, hid (by simpa using TB.refl HT2.out.bun), hid (fun _ => ⟨hk1, rfl⟩)⟩
      · obtain ⟨gm, cm, hvm, hcm, hgm, hfm, hcellm⟩ := rowP_form HL2.out.rk (by show 0 < ql.length; omega)
        change vkl = .slice _ ql.length cm at hvm
        change ql.length ≤ cm at hcm
        have hcm3 := (kids_max HL2.out.rk hvm).2.2
        rw [hvm] at l1
        have hk0 : 0 < ql.length := by omega
        have hb4 : ¬ (cm = o + 1) := by omega
        have hb5 : (o : Int) + 1 ≤ (ql.length : Int) := by omega
        have hcs : ∀ j u, ((ql.drop (o + 1)).map ptr)[j]? = some u → wc.cell? ⟨gm, o + 1 + j, none⟩ = some u := fun j u hj => by
          rw [List.map_drop, List.getElem?_drop] at hj
          have := HL2.out.rk.cells (g := gm) (by show vkl.ownBlock = _; rw [hvm]; rfl) _ u hj
          rw [addr_add, Nat.zero_add] at this
          exact this
        have HCS := hid hcs
        have HKL := hid hk
        have HVM := hid hvm
        clear hcs hfm hcellm hk hvm
        go_wp2_with fail
        refine (leaf_no pl ql.length cm _ wc hk0 l1).mono ?_
        rintro e wc2 ⟨rfl, hwc2⟩
        subst hwc2
        go_wp2_with fail
        refine (P.clone_any gm (o + 1) (ql.length - (o + 1)) _ ((ql.drop (o + 1)).map ptr) wc2 (by have := HKL.out; omega) (by have := HKL.out; omega) hgm (by simp) HCS.out (ptr_one _)).mono ?_
        rintro e wf ⟨g2, cap2, rfl, r1, r2, r3⟩
        have ts := step_kids (A := [⟨p, vi, .slice (some ⟨gk, 0, none⟩) qs.length ck, is, qs⟩, ⟨pl, vil', vkl, il.take o, ql⟩]) (B := []) HT2.out.bun (.slice (some ⟨g2, 0, none⟩) (ql.length - (o + 1)) cap2) (ql.drop (o + 1)) r2 (rowP_of r1 (by simp) rfl) (.inr ⟨g2, rfl, r3⟩)
        have hd0 := HT2.out.bun.blk_k (x := ⟨q, .slice (some ⟨g1, 0, none⟩) (il.length - (o + 1)) cap1, .slice none 0 0, il.drop (o + 1), []⟩) (by simp) r2
        have d0 : wf.cell? ⟨q, 1, none⟩ = some (.slice none 0 0) := node_cell1 hd0
        have d1 : wf.frozen? ⟨q, 1, none⟩ = false := node_fro (j := 1) hd0
        have HTS := hid ts
        clear r1 r2 r3 ts hd0 l1
        go_wp2_with fail
        obtain ⟨wg, hwg⟩ : ∃ wg, wg = wf.setCell ⟨q, 1, none⟩ (.slice (some ⟨g2, 0, none⟩) (ql.length - (o + 1)) cap2) := ⟨_, rfl⟩
        rw [← hwg]
        have HTS2 : Hid (TB wc2 wg [⟨p, vi, .slice (some ⟨gk, 0, none⟩) qs.length ck, is, qs⟩, ⟨pl, vil', vkl, il.take o, ql⟩, ⟨q, .slice (some ⟨g1, 0, none⟩) (il.length - (o + 1)) cap1, .slice none 0 0, il.drop (o + 1), []⟩]
          [⟨p, vi, .slice (some ⟨gk, 0, none⟩) qs.length ck, is, qs⟩, ⟨pl, vil', vkl, il.take o, ql⟩, ⟨q, .slice (some ⟨g1, 0, none⟩) (il.length - (o + 1)) cap1, .slice (some ⟨g2, 0, none⟩) (ql.length - (o + 1)) cap2, il.drop (o + 1), ql.drop (o + 1)⟩]) := hid (by rw [hwg]; exact HTS.out)
        clear HTS d0 d1 hwg
        have hLg := HTS2.out.bun.lies ⟨pl, vil', vkl, il.take o, ql⟩ (by simp)
        have c1 : wg.drew.cell? ⟨pl, 1, none⟩ = some (.slice (some ⟨gm, 0, none⟩) ql.length cm) := by rw [← HVM.out]; exact node_cell1 hLg.blk
        have hrk : wg.drew.ownsRow 0 59 1 (.slice (some ⟨gm, 0, none⟩) ql.length cm) ql.length (ql.map ptr) := by rw [← HVM.out]; exact hLg.rk
        have hdel := P.del_any _ ql.length (o + 1) ql.length (ql.map ptr) wg.drew hrk (by have := HKL.out; omega) (Nat.le_refl _) (by have := HKL.out; omega) (ptr_one _)
        have e1 : ((o + 1 : Nat) : Int) = (o : Int) + 1 := by omega
        rw [e1] at hdel
        clear e1 hLg hrk
        go_region_law
          (first
            | (go_simp
               refine hdel.mono ?_
               rintro e wd ⟨v', rfl, r1, r2, r3⟩
               rw [Nat.sub_self, Nat.add_zero] at r1
               have r2' : wg.grownBy wd vkl.ownBlock := by rw [HVM.out]; exact grown_drew r2
               have r3' : v'.ownBlock = vkl.ownBlock := by rw [HVM.out]; exact r3
               have ts := step_kids (A := [⟨p, vi, .slice (some ⟨gk, 0, none⟩) qs.length ck, is, qs⟩]) (B := [⟨q, .slice (some ⟨g1, 0, none⟩) (il.length - (o + 1)) cap1, .slice (some ⟨g2, 0, none⟩) (ql.length - (o + 1)) cap2, il.drop (o + 1), ql.drop (o + 1)⟩]) HTS2.out.bun v' (ql.take (o + 1)) r2' (rowP_of r1 (by rw [List.length_take]; have := HKL.out; omega) (by simp [List.map_take])) (.inl r3')
               have hd0 := HTS2.out.bun.blk_k (x := ⟨pl, vil', vkl, il.take o, ql⟩) (by simp) r2'
               have d0 : wd.cell? ⟨pl, 1, none⟩ = some (.slice (some ⟨gm, 0, none⟩) ql.length cm) := by rw [← HVM.out]; exact node_cell1 hd0
               have d1 : wd.frozen? ⟨pl, 1, none⟩ = false := node_fro (j := 1) hd0
               obtain ⟨aod, capd, hvd, _, _⟩ := ownsRow_shape r1
               subst hvd
               have HTS := hid ts
               clear hdel r1 r2 r2' r3 r3' ts hd0 c1))
        all_goals
          go_wp2
          go_meet
          case rel => exact ⟨_, _, hid (HTS2.out.trans HTS.out), hid (fun e => by rw [HVM.out] at e; cases e)⟩
    case rest =>
      obtain ⟨vkl', vkr, hts, hnil⟩ := hcut
      rename_i K5 hK5
      refine hK5 _ _ ?_
      have t3 := HT2.out.trans hts.out
      have hmid3 := (HT2M.out.trans hts.out).mid HMID.out H0.out
      have hP3 := t3.bun.lies ⟨p, vi, .slice (some ⟨gk, 0, none⟩) qs.length ck, is, qs⟩ (by simp)
      have HT3 := hid t3
      have HM3 := hid hmid3
      have HN := hid hnil.out
      clear hts t3 hmid3 hnil
      go_step
      go_cut [] (fun wx => ∃ vi', Hid (TB wc wx [⟨p, vi, .slice (some ⟨gk, 0, none⟩) qs.length ck, is, qs⟩, ⟨pl, vil', vkl', il.take o, ql.take (o + 1)⟩, ⟨q, .slice (some ⟨g1, 0, none⟩) (il.length - (o + 1)) cap1, vkr, il.drop (o + 1), ql.drop (o + 1)⟩]
        [⟨p, vi', .slice (some ⟨gk, 0, none⟩) qs.length ck, is.take at' ++ mx :: is.drop at', qs⟩, ⟨pl, vil', vkl', il.take o, ql.take (o + 1)⟩, ⟨q, .slice (some ⟨g1, 0, none⟩) (il.length - (o + 1)) cap1, vkr, il.drop (o + 1), ql.drop (o + 1)⟩]))
      case first =>
        have e1 : wc.drew.cell? ⟨w.heap.size, 0, none⟩ = some (.string mx.1) := by
          have := HM3.out
          show wc.cell? _ = _
          simp [World.cell?, this]
        have e2 : wc.drew.cell? ⟨w.heap.size, 1, none⟩ = some (encI mx.2) := by
          have := HM3.out
          show wc.cell? _ = _
          simp [World.cell?, this]
        have c0 : wc.drew.cell? ⟨p, 0, none⟩ = some vi := node_cell0 hP3.blk
        have tb := TB.below HT3.out.bun (((Below.refl _ wc).alloc (Nat.le_refl _) (.cells #[.string mx.1, encI mx.2] 47)).drew)
        have c0' : (wc.alloc (.cells #[.string mx.1, encI mx.2] 47)).cell? ⟨p, 0, none⟩ = some vi := Lib.cell?_alloc_some _ c0
        obtain ⟨W, hW⟩ : ∃ W, W = (wc.alloc (.cells #[.string mx.1, encI mx.2] 47)).drew := ⟨_, rfl⟩
        rw [← hW] at tb
        have hvb : W.heap[wc.heap.size]? = some (.cells #[.string mx.1, encI mx.2] 47 (0, 0)) := by rw [hW]; exact heap_alloc_new wc _
        have hPW := tb.bun.lies ⟨p, vi, .slice (some ⟨gk, 0, none⟩) qs.length ck, is, qs⟩ (by simp)
        have hins := I.ins_any vi is.length at' wc.heap.size (itC encI is) [.string mx.1, encI mx.2] W hPW.ri HAT.out (by omega) hvb rfl (itC_one encI encI_one is) (one_leaf mx.1 mx.2) (fun e => by
          have : wc.heap.size < wc.heap.size := ownsRow_blk hP3.ri e
          omega)
        obtain ⟨aoi, capi, hvi, _, _⟩ := ownsRow_shape hP3.ri
        change vi = .slice aoi is.length capi at hvi
        have HTB := hid tb
        have HVI := hid hvi
        clear tb hvb hPW hP3
        simp only [encI] at e2 hW c0'
        rw [hvi] at c0 c0' hins
        rw [hW] at hins
        clear hvi
        go_region_law
          (first
            | (go_simp
               refine hins.mono ?_
               rintro e wd ⟨v', rfl, r1, r2, r3⟩
               rw [← hW] at r2 r3
               have r2' : W.grownBy wd vi.ownBlock := by rw [HVI.out]; exact r2
               have r3' : v'.ownBlock = vi.ownBlock ∨ v'.ownBlock = some W.heap.size := by rw [HVI.out]; exact r3
               have ts := step_items (A := []) (B := [⟨pl, vil', vkl', il.take o, ql.take (o + 1)⟩, ⟨q, .slice (some ⟨g1, 0, none⟩) (il.length - (o + 1)) cap1, vkr, il.drop (o + 1), ql.drop (o + 1)⟩]) HTB.out.bun v' (is.take at' ++ mx :: is.drop at') r2' (row_of r1 (by simp; have := HAT.out; omega) (by rw [itC_app, itC_take, itC_drop]; simp [itC])) (by
                 rcases r3' with h | h
                 · exact .inl h
                 · exact .inr ⟨_, h, Nat.le_refl _⟩)
               have hd0 := HTB.out.bun.blk_i (x := ⟨p, vi, .slice (some ⟨gk, 0, none⟩) qs.length ck, is, qs⟩) (by simp) r2'
               have d0 : wd.cell? ⟨p, 0, none⟩ = some vi := node_cell0 hd0
               have d1 : wd.frozen? ⟨p, 0, none⟩ = false := node_fro (j := 0) hd0
               obtain ⟨aod, capd, hvd, _, _⟩ := ownsRow_shape r1
               subst hvd
               have HTS := hid ts
               clear hins r1 r2 r2' r3 r3' ts hd0 c0 c0' e1 e2))
        all_goals
          go_wp2
          go_meet
          case rel => exact ⟨_, hid (TB.trans ⟨HTB.out.gr, HTB.out.old, HTB.out.bun⟩ HTS.out)⟩
      case rest =>
        obtain ⟨vi', hts⟩ := hcut
        rename_i K6 hK6
        refine hK6 _ _ ?_
        have t4 := HT3.out.trans hts.out
        have tb := TB.below t4.bun ((Below.refl _ wc).alloc (Nat.le_refl _) (.cells #[ptr q] 59))
        have hP4 := t4.bun.lies ⟨p, vi', .slice (some ⟨gk, 0, none⟩) qs.length ck, is.take at' ++ mx :: is.drop at', qs⟩ (by simp)
        obtain ⟨W, hW⟩ : ∃ W, W = wc.alloc (.cells #[ptr q] 59) := ⟨_, rfl⟩
        rw [← hW] at tb
        have hvb : W.heap[wc.heap.size]? = some (.cells #[ptr q] 59 (0, 0)) := by rw [hW]; exact heap_alloc_new wc _
        have hPW := tb.bun.lies ⟨p, vi', .slice (some ⟨gk, 0, none⟩) qs.length ck, is.take at' ++ mx :: is.drop at', qs⟩ (by simp)
        have c1 : wc.cell? ⟨p, 1, none⟩ = some (.slice (some ⟨gk, 0, none⟩) qs.length ck) := node_cell1 hP4.blk
        have hins := P.ins_any (.slice (some ⟨gk, 0, none⟩) qs.length ck) qs.length (at' + 1) wc.heap.size (qs.map ptr) [ptr q] W hPW.rk (by omega) (by have := HQS.out; omega) hvb rfl (ptr_one _) (ptr_one [q]) (fun e => by
          have : wc.heap.size < wc.heap.size := ownsRow_blk hP4.rk e
          omega)
        have e1 : ((at' + 1 : Nat) : Int) = (at' : Int) + 1 := by omega
        have hw2 : IntKind.i64.wrap ((at' : Int) + 1) = (at' : Int) + 1 := by rw [IntKind.wrap_i64]; have := HQS.out; omega
        rw [e1] at hins
        have HT4 := hid t4
        have HTB := hid tb
        unfold ptr at hW hvb
        clear t4 tb hvb hPW hP4 e1 hts hP3
        go_wp2_with fail
        rw [← hW]
        refine hins.mono ?_
        rintro e wd ⟨v', rfl, r1, r2, r3⟩
        have ts := step_kids (A := []) (B := [⟨pl, vil', vkl', il.take o, ql.take (o + 1)⟩, ⟨q, .slice (some ⟨g1, 0, none⟩) (il.length - (o + 1)) cap1, vkr, il.drop (o + 1), ql.drop (o + 1)⟩]) HTB.out.bun v' (qs.take (at' + 1) ++ q :: qs.drop (at' + 1)) r2 (rowP_of r1 (by simp; omega) (by simp [List.map_take, List.map_drop])) (by
          rcases r3 with h | h
          · exact .inl h
          · exact .inr ⟨_, h, Nat.le_refl _⟩)
        have hd0 := HTB.out.bun.blk_k (x := ⟨p, vi', .slice (some ⟨gk, 0, none⟩) qs.length ck, is.take at' ++ mx :: is.drop at', qs⟩) (by simp) r2
        have d0 : wd.cell? ⟨p, 1, none⟩ = some (.slice (some ⟨gk, 0, none⟩) qs.length ck) := node_cell1 hd0
        have d1 : wd.frozen? ⟨p, 1, none⟩ = false := node_fro (j := 1) hd0
        obtain ⟨aod, capd, hvd, _, _⟩ := ownsRow_shape r1
        subst hvd
        have HTS := hid ts
        clear hins r1 r2 r3 ts hd0 c1 hW
        go_wp2
        go_returns
        refine ⟨rfl, q, vi', .slice aod (qs.length + 1) capd, vil', vkl', .slice (some ⟨g1, 0, none⟩) (il.length - (o + 1)) cap1, vkr, (HT4.out.trans HTB.out).trans ?_, HN.out⟩
        exact HTS.out

end Go.Proofs.Ytkjmilcocnjjoaa.I

/- Contract of the specification's DiskRun. -/
import Derived.Test.YtipcdioolafkpaaSpecRows
import Derived.Deep.AppendLies
import Derived.BigRegion
namespace Go.Proofs.Ytipcdioolafkpaa.specrun
open Go.ChangeShapes Go.WideShapes Go.ChangeAt Go.RowKit
open Go.Proofs.Ytipcdioolafkpaa.bytes Go.Proofs.Ytipcdioolafkpaa.pile Go.Proofs.Ytipcdioolafkpaa.reader Go.Proofs.Ytipcdioolafkpaa.lists Go.Proofs.Ytipcdioolafkpaa.sizes Go.Proofs.Ytipcdioolafkpaa.marked Go.Proofs.Ytipcdioolafkpaa.disks Go.Proofs.Ytipcdioolafkpaa.diskmarks Go.Proofs.Ytipcdioolafkpaa.specdisk Go.Proofs.Ytipcdioolafkpaa.tracks Go.Proofs.Ytipcdioolafkpaa.trackof Go.Proofs.Ytipcdioolafkpaa.crashes Go.Proofs.Ytipcdioolafkpaa.crashed Go.Proofs.Ytipcdioolafkpaa.acts Go.Proofs.Ytipcdioolafkpaa.diskof Go.Proofs.Ytipcdioolafkpaa.beside Go.Proofs.Ytipcdioolafkpaa.doside Go.Proofs.Ytipcdioolafkpaa.implrun Go.Proofs.Ytipcdioolafkpaa.speccrash Go.Proofs.Ytipcdioolafkpaa.specact Go.Proofs.Ytipcdioolafkpaa.specwrite Go.Proofs.Ytipcdioolafkpaa.specwritten Go.Proofs.Ytipcdioolafkpaa.keeps Go.Proofs.Ytipcdioolafkpaa.specrows
set_option linter.unusedVariables false

theorem nil_rdT (w : World) : RdT w (.slice none 0 0) [] := ⟨⟨⟨none, 0, rfl, by simp, by simp [maxLen], by simp, by simp⟩, by simp⟩, fun h => absurd rfl h⟩
theorem nil_spec (w : World) (C : Int) : SpecRunE w ([], [], [], C) (.returned (.tuple #[.slice (some ⟨w.heap.size + 1, 0, none⟩) 0 0, .agg #[.slice none 0 0, .slice none 0 0], .int .i64 C])) ((w.alloc (.cells #[.slice none 0 0, .slice none 0 0] 40)).alloc (.cells #[] 3)) :=
  ⟨_, none, 0, 0, none, 0, [], rfl, lit0 (w.alloc _) (by simp) (by simp), DiskRd.left (nil_rdT _), ((Below.refl _ _).alloc (Nat.le_refl _) _).alloc (by simp) _⟩
theorem start (w : World) : Hid (SR w (((w.alloc (.cells #[.slice none 0 0, .slice none 0 0] 40)).alloc (.cells #[.slice none 0 0, .slice none 0 0] 40)).alloc (.cells #[] 3)) (.slice (some ⟨w.heap.size + 1 + 1, 0, none⟩) 0 0) 0 [] (.slice none 0 0) (.slice none 0 0) [] [] []) :=
  ⟨(three_blocks w _ _ _).1, (three_blocks w _ _ _).2.1, DiskRd.left (nil_rdT _), lit0 ((w.alloc _).alloc _) (by simp; omega) (by simp), (((Below.refl _ _).alloc (Nat.le_refl _) _).alloc (by simp) _).alloc (by simp; omega) _⟩
theorem cell_one_at {W : World} {v : Value} {t n : Nat} (hn : W.heap.size = n) : ∀ j u, [v][j]? = some u → (W.alloc (.cells #[v] t)).cell? ((⟨n, 0, none⟩ : Addr).add j) = some u := by
  subst hn
  exact cell_one_new _ _ _
theorem kset {W : World} {b t : Nat} {a0 a1 : Value} (h5 : t ≠ 5) (h22 : t ≠ 22) (kk : W.heap[b]? = some (.cells #[a0, a1] t (0, 0))) (s' p' : Value) : KeepT W ((W.setCell ⟨b, 0, none⟩ s').setCell ⟨b, 1, none⟩ p') := by
  have k1 : (W.setCell ⟨b, 0, none⟩ s').heap[b]? = some (.cells #[s', a1] t (0, 0)) := by
    have := heap_setCell_same W b 0 _ t s' kk
    simpa using this
  exact (KeepT.set kk h5 h22 0 s').trans (KeepT.set k1 h5 h22 1 p')
theorem oset {W : World} {b base n : Nat} {v a0 a1 : Value} {us : List Value} (kk : W.heap[b]? = some (.cells #[a0, a1] 40 (0, 0))) (ho : W.ownsRow base 3 1 v n us) (s' p' : Value) : ((W.setCell ⟨b, 0, none⟩ s').setCell ⟨b, 1, none⟩ p').ownsRow base 3 1 v n us := by
  have hd := own_other ho kk (by decide)
  exact ownsRow_setCell_other (ownsRow_setCell_other ho (a := ⟨b, 0, none⟩) hd _) (a := ⟨b, 1, none⟩) hd _
/-- The new disk is laid into the variable. -/
theorem stored {w wr w3 : World} {cv : Value} {k : Nat} {codes : List Int} {s p : Value} {xs : List Int} {us : List Value} {cs : List (List Int)} (h : SR w wr cv k codes s p xs us cs) (hb : Below wr.heap.size wr w3) {s' p' : Value} {xs' : List Int} {us' : List Value} {cs' : List (List Int)} (hd : DiskRd w3 s' p' xs' us' cs') :
    w3.heap[w.heap.size + 1]? = some (.cells #[s, p] 40 (0, 0)) ∧ SR w ((w3.setCell ⟨w.heap.size + 1, 0, none⟩ s').setCell ⟨w.heap.size + 1, 1, none⟩ p') cv k codes s' p' xs' us' cs' := by
  obtain ⟨r3, d3, o3, b3⟩ := h.call hb hd
  refine ⟨d3, ?_, set2 d3 s' p', DiskRd.keep hd (kset (by decide) (by decide) d3 s' p'), oset d3 o3 s' p', below_set2 b3 (by omega) _ _⟩
  rw [heap_setCell_other _ ⟨w.heap.size + 1, 1, none⟩ _ _ (by simp), heap_setCell_other _ ⟨w.heap.size + 1, 0, none⟩ _ _ (by simp)]
  exact r3
theorem ended {w wr : World} {cv : Value} {codes : List Int} {so : Option Addr} {sl sc : Nat} {po : Option Addr} {pc : Nat} {xs : List Int} {us : List Value} {cs : List (List Int)} (h : SR w wr cv codes.length codes (.slice so sl sc) (.slice po us.length pc) xs us cs) :
    SpecRunE w (codes, xs, cs, 0) (.returned (.tuple #[cv, .agg #[.slice so sl sc, .slice po us.length pc], .int .i64 0])) ((wr.setCell ⟨w.heap.size, 0, none⟩ (.slice so sl sc)).setCell ⟨w.heap.size, 1, none⟩ (.slice po us.length pc)).drew :=
  ⟨cv, so, sl, sc, po, pc, us, rfl, oset h.res h.row _ _, (DiskRd.keep h.rd (kset (by decide) (by decide) h.res _ _)).below ((Below.refl _ _).drew) (Nat.le_refl _), (below_set2 h.bel (Nat.le_refl _) _ _).drew⟩
theorem k8_of {wr W w2 : World} {c : Obj} (hB : Below W.heap.size W w2) (hW : W.heap = (wr.alloc c).heap) : w2.heap[wr.heap.size]? = some c := (hB.block _ (by rw [hW]; simp)).trans (by rw [hW]; exact heap_alloc_new wr c)

set_option maxRecDepth 20000 in
set_option maxHeartbeats 4000000 in
theorem specRun (w : World) (v : Value) (al : List Act4) (hv : RdActs w v al) (hf : ∀ a ∈ al, Fit a) :
    Calls Try.prog 22 #[v] w fun e w' => SpecRunE w (runA al) e w' := by
  have HV : Hid (RdActs w v al) := hv
  have HFit : Hid (∀ a ∈ al, Fit a) := hf
  obtain ⟨ao, ca, rfl, ha1, ha2, ha3⟩ := hv
  unfold maxLen at ha2
  clear hf
  by_cases hlong : 4096 < al.length
  · have HE : Hid (runA al = ([], [], [], 2)) := by unfold Hid runA; rw [if_pos hlong]
    have hl : (4096 : Int) < al.length := by omega
    go_enter Try.func22, Try.ntmps22
    go_wp2
    exact bodyPost_ret (v := .tuple #[.slice (some ⟨w.heap.size + 1, 0, none⟩) 0 0, .agg #[.slice none 0 0, .slice none 0 0], .int .i64 2]) (by simp [results, Try.results22, go_sem]) rfl (by rw [HE.out]; exact nil_spec w 2)
  have hl : ¬ (4096 : Int) < al.length := by omega
  by_cases hmany : 200 < al.length
  · have HE : Hid (runA al = ([], [], [], 7)) := by unfold Hid runA; rw [if_neg hlong, if_pos hmany]
    have hl2 : (200 : Int) < al.length := by omega
    go_enter Try.func22, Try.ntmps22
    go_wp2
    exact bodyPost_ret (v := .tuple #[.slice (some ⟨w.heap.size + 1, 0, none⟩) 0 0, .agg #[.slice none 0 0, .slice none 0 0], .int .i64 7]) (by simp [results, Try.results22, go_sem]) rfl (by rw [HE.out]; exact nil_spec w 7)
  have hl2 : ¬ (200 : Int) < al.length := by omega
  have HE : Hid (runA al = ((runD [] [] al).1, (runD [] [] al).2.1, (runD [] [] al).2.2, 0)) := by unfold Hid runA; rw [if_neg hlong, if_neg hmany]
  obtain ⟨i0, hi, hz0, hz1, hz2⟩ := info_parts info3
  have HI : Hid (Try.prog.info? 3 = some i0 ∧ i0.zero = some (.int .i64 0) ∧ i0.size = 1 ∧ i0.bytes = 8) := ⟨hi, hz0, hz1, hz2⟩
  clear hi hz0 hz1 hz2
  go_enter Try.func22, Try.ntmps22
  go_wp2
  go_loopw [6, 7] (fun cv i wr => ∃ (k : Nat) (so : Option Addr) (sl sc : Nat) (po : Option Addr) (pc : Nat) (us : List Value), k ≤ al.length ∧ i = .int .i64 k ∧ Hid (SR w wr cv k (runD [] [] (al.take k)).1 (.slice so sl sc) (.slice po us.length pc) (runD [] [] (al.take k)).2.1 us (runD [] [] (al.take k)).2.2)) (fun _ i _ => al.length - (intOf i).toNat)
  case atStart =>
    exact ⟨0, none, 0, 0, none, 0, [], by omega, rfl, by simpa [runD] using start w⟩
  case round =>
    obtain ⟨k, so, sl, sc, po, pc, us, hk, rfl, HR⟩ := hrel
    have BW : Below w.heap.size w wr := HR.out.bel
    have hsw := BW.size
    by_cases hlt : k < al.length
    · obtain ⟨ab, aoff, rfl, hca⟩ := ha3 (by omega)
      obtain ⟨u, hu, q0, q1, q2, q3⟩ := hca k hlt
      have hfa : Fit (al.getD k ⟨0, 0, 0, []⟩) := by
        have e : al.getD k ⟨0, 0, 0, []⟩ = al[k] := by simp [List.getD_eq_getElem?_getD, hlt]
        rw [e]
        exact HFit.out _ (List.getElem_mem hlt)
      have HTk : Hid (runD [] [] (al.take (k + 1)) = ((runD [] [] (al.take k)).1 ++ [(stepD (runD [] [] (al.take k)).2.1 (runD [] [] (al.take k)).2.2 (al.getD k ⟨0, 0, 0, []⟩)).2.2], (stepD (runD [] [] (al.take k)).2.1 (runD [] [] (al.take k)).2.2 (al.getD k ⟨0, 0, 0, []⟩)).1, (stepD (runD [] [] (al.take k)).2.1 (runD [] [] (al.take k)).2.2 (al.getD k ⟨0, 0, 0, []⟩)).2.1)) := by
        unfold Hid
        rw [take_next al ⟨0, 0, 0, []⟩ hlt, runD_snoc]
      have hsm := runD_small (al.take k) [] [] (by simp)
      rw [List.length_take] at hsm
      generalize al.getD k ⟨0, 0, 0, []⟩ = a at hu q0 q1 q2 q3 hfa HTk
      obtain ⟨⟨uo, uc, rfl, hu1, hu2, _⟩, _⟩ := id hu
      have r0 := (BW.cell (cell_lt q0)).trans q0
      have r1 := (BW.cell (cell_lt q1)).trans q1
      have r2 := (BW.cell (cell_lt q2)).trans q2
      have r3 := (BW.cell (cell_lt q3)).trans q3
      have HU : Hid (RdA w (.slice uo a.data.length uc) a.data) := hu
      generalize runD [] [] (al.take k) = q at HTk hsm HR
      obtain ⟨codes, xsK, csK⟩ := q
      simp only at HTk hsm HR
      have d0 := cell_of HR.out.disk (i := 0) rfl
      have d1 := cell_of HR.out.disk (i := 1) rfl
      have f0 := frozen_of HR.out.disk 0
      have f1 := frozen_of HR.out.disk 1
      have hul : us.length ≤ 200 := by
        have h1 := HR.out.rd.texts.1
        have := hsm.2.1
        simp at this
        omega
      have HAct : Hid (∀ W, Below wr.heap.size wr W → Calls Try.prog 49 #[.agg #[.slice so sl sc, .slice po us.length pc], .agg #[.int .i64 a.kind, .int .i64 a.keep, .int .i64 a.torn, .slice uo a.data.length uc]] W fun e w2 =>
          ∃ so' sl' sc' po' pc' us', e = .returned (.tuple #[.agg #[.slice so' sl' sc', .slice po' us'.length pc'], .int .i64 (stepD xsK csK a).2.2]) ∧ Hid (DiskRd w2 (.slice so' sl' sc') (.slice po' us'.length pc') (stepD xsK csK a).1 us' (stepD xsK csK a).2.1) ∧ Hid (Below W.heap.size W w2) ∧ Hid (Below wr.heap.size wr w2) ∧
          (w2.cell? ⟨w.heap.size + 1, 0, none⟩ = some (.slice so sl sc) ∧ w2.cell? ⟨w.heap.size + 1, 1, none⟩ = some (.slice po us.length pc)) ∧ w2.cell? ⟨ab, aoff + k * 4, none⟩ = some (.int .i64 a.kind) ∧ w2.cell? ⟨ab, aoff + k * 4 + 1, none⟩ = some (.int .i64 a.keep) ∧ w2.cell? ⟨ab, aoff + k * 4 + 2, none⟩ = some (.int .i64 a.torn) ∧ w2.cell? ⟨ab, aoff + k * 4 + 3, none⟩ = some (.slice uo a.data.length uc)) := fun W hW => by
        refine (act_any W _ _ xsK us csK (HR.out.rd.below hW (Nat.le_refl _)) a _ (HU.out.below (HR.out.bel.trans (hW.mono HR.out.bel.size)) (Nat.le_refl _)) hsm.1 hul hfa).mono ?_
        rintro e w2 ⟨so', sl', sc', po', pc', us', rfl, hD, hB⟩
        have hB2 : Below wr.heap.size wr w2 := hW.trans (hB.mono hW.size)
        exact ⟨so', sl', sc', po', pc', us', rfl, hD, hB, hB2, ⟨(hB2.cell (cell_lt d0)).trans d0, (hB2.cell (cell_lt d1)).trans d1⟩, (hB2.cell (cell_lt r0)).trans r0, (hB2.cell (cell_lt r1)).trans r1, (hB2.cell (cell_lt r2)).trans r2, (hB2.cell (cell_lt r3)).trans r3⟩
      have HCl : Hid (codes.length = k) := by unfold Hid; rw [hsm.2.2]; omega
      generalize stepD xsK csK a = st at HTk HAct
      obtain ⟨sx, sy, code⟩ := st
      simp only at HTk HAct
      clear hca ha3 q0 q1 q2 q3 hu hsm BW
      have nn0 := World.new_ne wr _ d0
      have nn2 := World.new_ne wr _ r0
      go_wp2
      go_region_held_law (fun w' => (w'.cell? ⟨w.heap.size + 1, 0, none⟩ = some (.slice so sl sc) ∧ w'.cell? ⟨w.heap.size + 1, 1, none⟩ = some (.slice po us.length pc)) ∧ w'.cell? ⟨ab, aoff + k * 4, none⟩ = some (.int .i64 a.kind) ∧ w'.cell? ⟨ab, aoff + k * 4 + 1, none⟩ = some (.int .i64 a.keep) ∧ w'.cell? ⟨ab, aoff + k * 4 + 2, none⟩ = some (.int .i64 a.torn) ∧ w'.cell? ⟨ab, aoff + k * 4 + 3, none⟩ = some (.slice uo a.data.length uc)) (go_keep) (first | (go_at_call 49; refine (HAct.out _ (by first | exact below_drew' (Below.refl _ _) _ | exact below_drew' ((Below.refl _ _).alloc (Nat.le_refl _) _) _ | exact (Below.refl _ _) | exact ((Below.refl _ _).alloc (Nat.le_refl _) _) | exact (Below.refl _ _).drew | exact ((Below.refl _ _).alloc (Nat.le_refl _) _).drew)).mono ?_; rintro e w2 ⟨so', sl', sc', po', pc', us', rfl, HD2, HB2, HW2, ⟨c0, c1⟩, t0, t1, t2, t3⟩; try (have k8 := k8_of (wr := wr) (c := .cells #[.slice none 0 0, .slice none 0 0] 40) HB2.out rfl; have e80 := cell_of k8 (i := 0) rfl; have e81 := cell_of k8 (i := 1) rfl; have e82 := frozen_of k8 0; have e83 := frozen_of k8 1); have nw0 := World.new_ne w2 _ c0; have nw2 := World.new_ne w2 _ t0))
      all_goals
        first
          | (have F3 : Hid (Below wr.heap.size wr ((w2.setCell ⟨wr.heap.size, 0, none⟩ (.slice so' sl' sc')).setCell ⟨wr.heap.size, 1, none⟩ (.slice po' us'.length pc')) ∧ DiskRd ((w2.setCell ⟨wr.heap.size, 0, none⟩ (.slice so' sl' sc')).setCell ⟨wr.heap.size, 1, none⟩ (.slice po' us'.length pc')) (.slice so' sl' sc') (.slice po' us'.length pc') sx us' sy ∧ ((w2.setCell ⟨wr.heap.size, 0, none⟩ (.slice so' sl' sc')).setCell ⟨wr.heap.size, 1, none⟩ (.slice po' us'.length pc')).heap[wr.heap.size]? = some (.cells #[.slice so' sl' sc', .slice po' us'.length pc'] 40 (0, 0))) := ⟨below_set2 HW2.out (Nat.le_refl _) _ _, DiskRd.keep HD2.out (kset (by decide) (by decide) k8 _ _), set2 k8 _ _⟩; generalize ((w2.setCell ⟨wr.heap.size, 0, none⟩ (.slice so' sl' sc')).setCell ⟨wr.heap.size, 1, none⟩ (.slice po' us'.length pc')) = w3 at F3 ⊢)
          | (have F3 : Hid (Below wr.heap.size wr (w2.alloc (.cells #[.slice so' sl' sc', .slice po' us'.length pc'] 40)) ∧ DiskRd (w2.alloc (.cells #[.slice so' sl' sc', .slice po' us'.length pc'] 40)) (.slice so' sl' sc') (.slice po' us'.length pc') sx us' sy ∧ (w2.alloc (.cells #[.slice so' sl' sc', .slice po' us'.length pc'] 40)).heap[w2.heap.size]? = some (.cells #[.slice so' sl' sc', .slice po' us'.length pc'] 40 (0, 0))) := ⟨HW2.out.alloc HW2.out.size _, HD2.out.below ((Below.refl _ _).alloc (Nat.le_refl _) _) (Nat.le_refl _), heap_alloc_new w2 _⟩; generalize (w2.alloc (.cells #[.slice so' sl' sc', .slice po' us'.length pc'] 40)) = w3 at F3 ⊢)
        have p0 := cell_of F3.out.2.2 (i := 0) rfl
        have p1 := cell_of F3.out.2.2 (i := 1) rfl
        obtain ⟨dd, S4⟩ := stored HR.out F3.out.1 F3.out.2.1
        have g0 := cell_of dd (i := 0) rfl
        have g1 := cell_of dd (i := 1) rfl
        have z0 := frozen_of dd 0
        have z1 := frozen_of dd 1
        have hs3 := F3.out.1.size
        have H4 : Hid (SR w _ u6 k codes (.slice so' sl' sc') (.slice po' us'.length pc') sx us' sy) := S4
        clear F3 dd S4 HD2 HB2 HW2 HAct
        go_wp2_with (at_builtin; refine wpList_append_lies _ rfl _ _ 38 rfl w.heap.size 3 i0 (.int .i64 0) 1 8 Try.underlying38 HI.out.1 HI.out.2.1 HI.out.2.2.1 HI.out.2.2.2 rfl (by decide) u6 k (codes.map (Value.int .i64)) rfl (H4.out.row.alloc _) ⟨w3.heap.size, 0, none⟩ 1 1 [.int .i64 code] rfl rfl (cell_one_at (by simp)) (by intro u hu; simp at hu; subst hu; rfl) (by decide) (by unfold maxLen; omega) (by omega) (by simp; omega) (w3.heap.size + 1) (by simp) ?_; intro g cap9 w9 hown hgrow hat hlt9)
        have H9 : Hid (SR w w9 (.slice (some ⟨g, 0, none⟩) (k + 1) cap9) (k + 1) (codes ++ [code]) (.slice so' sl' sc') (.slice po' us'.length pc') sx us' sy) := H4.out.coded (grown_trans (World.grownBy_alloc _ _ u6.ownBlock) hgrow) hown
        clear hown hgrow hat hlt9 H4
        go_wp2
        go_roundw
        case rel => exact ⟨k + 1, so', sl', sc', po', pc', us', by omega, by go_num, by rw [HTk.out]; exact H9⟩
        case measure => simp [intOf]; omega
    · have hkl : k = al.length := by omega
      have hsm := runD_small al [] [] (by simp)
      rw [hkl, List.take_length] at HR
      generalize runD [] [] al = q at HR hsm HE
      obtain ⟨codes, xsK, csK⟩ := q
      simp only at HR hsm HE
      have hS := HR.out
      rw [← hsm.2.2] at hS
      have d0 := cell_of hS.disk (i := 0) rfl
      have d1 := cell_of hS.disk (i := 1) rfl
      have e0 := cell_of hS.res (i := 0) rfl
      have e1 := cell_of hS.res (i := 1) rfl
      have e2 := frozen_of hS.res 0
      have e3 := frozen_of hS.res 1
      have kf := set2 hS.res (.slice so sl sc) (.slice po us.length pc)
      have g0 := cell_of kf (i := 0) rfl
      have g1 := cell_of kf (i := 1) rfl
      have HF : Hid (SpecRunE w (codes, xsK, csK, 0) (.returned (.tuple #[u6, .agg #[.slice so sl sc, .slice po us.length pc], .int .i64 0])) ((wr.setCell ⟨w.heap.size, 0, none⟩ (.slice so sl sc)).setCell ⟨w.heap.size, 1, none⟩ (.slice po us.length pc)).drew) := ended hS
      clear hS kf HR BW hsm ha3
      go_wp2
      go_region
      all_goals
        go_wp2
        exact bodyPost_ret (v := .tuple #[u6, .agg #[.slice so sl sc, .slice po us.length pc], .int .i64 0]) (by simp [results, Try.results22, go_sem, g0, g1]) rfl (by rw [HE.out]; exact HF.out)
end Go.Proofs.Ytipcdioolafkpaa.specrun

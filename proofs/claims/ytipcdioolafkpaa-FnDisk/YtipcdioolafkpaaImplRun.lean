/- Contract of the program's DiskRun. -/
import Derived.Test.YtipcdioolafkpaaDoSide
import Derived.Deep.AppendLies
namespace Go.Proofs.Ytipcdioolafkpaa.implrun
open Go.ChangeShapes Go.WideShapes Go.ChangeAt Go.RowKit
open Go.Proofs.Ytipcdioolafkpaa.bytes Go.Proofs.Ytipcdioolafkpaa.pile Go.Proofs.Ytipcdioolafkpaa.reader Go.Proofs.Ytipcdioolafkpaa.lists Go.Proofs.Ytipcdioolafkpaa.sizes Go.Proofs.Ytipcdioolafkpaa.marked Go.Proofs.Ytipcdioolafkpaa.disks Go.Proofs.Ytipcdioolafkpaa.diskmarks Go.Proofs.Ytipcdioolafkpaa.specdisk Go.Proofs.Ytipcdioolafkpaa.tracks Go.Proofs.Ytipcdioolafkpaa.trackof Go.Proofs.Ytipcdioolafkpaa.crashes Go.Proofs.Ytipcdioolafkpaa.crashed Go.Proofs.Ytipcdioolafkpaa.acts Go.Proofs.Ytipcdioolafkpaa.diskof Go.Proofs.Ytipcdioolafkpaa.beside Go.Proofs.Ytipcdioolafkpaa.doside
set_option linter.unusedVariables false

/-- The slice value v reads, in world w, as these acts. -/
def RdActs (w : World) (v : Value) (al : List Act4) : Prop :=
  ∃ ao cap, v = .slice ao al.length cap ∧ al.length ≤ cap ∧ cap ≤ maxLen ∧
    (0 < al.length → ∃ b off, ao = some ⟨b, off, none⟩ ∧ ∀ i, i < al.length → ∃ u, RdA w u (al.getD i ⟨0, 0, 0, []⟩).data ∧
      w.cell? ⟨b, off + i * 4, none⟩ = some (.int .i64 (al.getD i ⟨0, 0, 0, []⟩).kind) ∧ w.cell? ⟨b, off + i * 4 + 1, none⟩ = some (.int .i64 (al.getD i ⟨0, 0, 0, []⟩).keep) ∧
      w.cell? ⟨b, off + i * 4 + 2, none⟩ = some (.int .i64 (al.getD i ⟨0, 0, 0, []⟩).torn) ∧ w.cell? ⟨b, off + i * 4 + 3, none⟩ = some u)
theorem RdActs.below {w w' : World} {B : Nat} {v : Value} {al : List Act4} (h : RdActs w v al) (hb : Below B w w') (hB : w.heap.size ≤ B) : RdActs w' v al := by
  obtain ⟨ao, cap, rfl, h1, h2, h4⟩ := h
  refine ⟨ao, cap, rfl, h1, h2, fun hp => ?_⟩
  obtain ⟨b, off, rfl, hc⟩ := h4 hp
  refine ⟨b, off, rfl, fun i hi => ?_⟩
  obtain ⟨u, g0, g1, g2, g3, g4⟩ := hc i hi
  have t : ∀ {a : Addr} {x : Value}, w.cell? a = some x → w'.cell? a = some x := fun {a x} ha => (hb.cell (by have := cell_lt ha; omega)).trans ha
  exact ⟨u, g0.below hb hB, t g1, t g2, t g3, t g4⟩

/-- The numbers of an act are such that a machine holds them. -/
def Fit (a : Act4) : Prop := a.data.length ≤ 1099511627776 ∧ a.keep ≤ 9223372036854775807 ∧ a.torn ≤ 9223372036854775807

/-- What DiskRun answers: the codes, the synced bytes, the writes behind them, a code. -/
def runA (al : List Act4) : List Int × List Int × List (List Int) × Int :=
  if 4096 < al.length then ([], [], [], 2) else if 200 < al.length then ([], [], [], 7) else ((runD [] [] al).1, (runD [] [] al).2.1, (runD [] [] al).2.2, 0)

/-- What the program's DiskRun leaves. -/
def ImplRunE (w : World) (R : List Int × List Int × List (List Int) × Int) (e : Ending) (w' : World) : Prop :=
  ∃ cv ao ca pv, e = .returned (.tuple #[cv, .agg #[.slice ao R.2.1.length R.2.1.length, pv], .int .i64 R.2.2.2]) ∧ w'.ownsRow w.heap.size 3 1 cv R.1.length (R.1.map (Value.int .i64)) ∧ w'.ownsRow w.heap.size 22 1 pv R.2.2.1.length (piecesV ao R.2.1.length R.2.2.1 R.2.2.1.length) ∧ Own w' w.heap.size (.slice ao (R.2.1 ++ R.2.2.1.flatten).length ca) (R.2.1 ++ R.2.2.1.flatten) ∧ Below w.heap.size w w'

theorem nil_run {w wr : World} {C : Int} (B : Below w.heap.size w wr) : ImplRunE w ([], [], [], C) (.returned (.tuple #[.slice none 0 0, .agg #[.slice none 0 0, .slice none 0 0], .int .i64 C])) wr :=
  ⟨_, none, 0, _, rfl, World.ownsRow_nil _ _ _ _, World.ownsRow_nil _ _ _ _, ⟨by simp, World.ownsRow_nil _ _ _ _⟩, B⟩

set_option maxRecDepth 20000 in
set_option maxHeartbeats 4000000 in
theorem implRun (w : World) (v : Value) (al : List Act4) (hv : RdActs w v al) (hf : ∀ a ∈ al, Fit a) :
    Calls Try.prog 20 #[v] w fun e w' => ImplRunE w (runA al) e w' := by
  have HV : Hid (RdActs w v al) := hv
  have HFit : Hid (∀ a ∈ al, Fit a) := hf
  obtain ⟨ao, ca, rfl, ha1, ha2, ha3⟩ := hv
  unfold maxLen at ha2
  clear hf
  have HB1 : Hid (Below w.heap.size w (w.alloc (.cells #[.slice none 0 0, .slice none 0 0] 40))) := (Below.refl _ _).alloc (Nat.le_refl _) _
  by_cases hlong : 4096 < al.length
  · have HE : Hid (runA al = ([], [], [], 2)) := by unfold Hid runA; rw [if_pos hlong]
    have hl : (4096 : Int) < al.length := by omega
    go_enter Try.func20, Try.ntmps20
    go_wp2
    exact bodyPost_ret (v := .tuple #[.slice none 0 0, .agg #[.slice none 0 0, .slice none 0 0], .int .i64 2]) (by simp [results, Try.results20, go_sem]) rfl (by rw [HE.out]; exact nil_run HB1.out)
  have hl : ¬ (4096 : Int) < al.length := by omega
  by_cases hmany : 200 < al.length
  · have HE : Hid (runA al = ([], [], [], 7)) := by unfold Hid runA; rw [if_neg hlong, if_pos hmany]
    have hl2 : (200 : Int) < al.length := by omega
    go_enter Try.func20, Try.ntmps20
    go_wp2
    exact bodyPost_ret (v := .tuple #[.slice none 0 0, .agg #[.slice none 0 0, .slice none 0 0], .int .i64 7]) (by simp [results, Try.results20, go_sem]) rfl (by rw [HE.out]; exact nil_run HB1.out)
  have hl2 : ¬ (200 : Int) < al.length := by omega
  have HE : Hid (runA al = ((runD [] [] al).1, (runD [] [] al).2.1, (runD [] [] al).2.2, 0)) := by unfold Hid runA; rw [if_neg hlong, if_neg hmany]
  obtain ⟨W0, hW0⟩ : ∃ W0, W0 = (w.alloc (.cells #[.slice none 0 0, .slice none 0 0] 40)).alloc (.cells #[.slice none 0 0, .int .i64 0, .slice none 0 0] 74) := ⟨_, rfl⟩
  have b0 : Below w.heap.size w W0 := by rw [hW0]; exact HB1.out.alloc (by simp) _
  have sz0 : W0.heap.size = w.heap.size + 2 := by rw [hW0]; simp
  have kR : W0.heap[w.heap.size]? = some (.cells #[.slice none 0 0, .slice none 0 0] 40 (0, 0)) := by
    rw [hW0, Below.heap_alloc _ _ _ (by simp)]
    exact heap_alloc_new w _
  have kT : W0.heap[w.heap.size + 1]? = some (.cells #[.slice none 0 0, .int .i64 0, .slice none 0 0] 74 (0, 0)) := by
    rw [hW0]
    have := heap_alloc_new (w.alloc (.cells #[.slice none 0 0, .slice none 0 0] 40)) (.cells #[.slice none 0 0, .int .i64 0, .slice none 0 0] 74)
    rwa [show (w.alloc (.cells #[.slice none 0 0, .slice none 0 0] 40)).heap.size = w.heap.size + 1 by simp] at this
  have HIn : Hid (TDS W0 (w.heap.size + 1) (w.heap.size + 1) [] [] (w.heap.size + 1) (.slice none 0 0) 0 [] ∧ Below (w.heap.size + 1) W0 W0) :=
    hide ⟨⟨.slice none 0 0, .slice none 0 0, ⟨kT, ⟨by simp, World.ownsRow_nil _ _ _ _⟩, World.ownsRow_nil _ _ _ _, Nat.le_refl _⟩, World.ownsRow_nil _ _ _ _, .inl rfl⟩, Below.refl _ _⟩
  have HW0 : Hid (Below w.heap.size w W0 ∧ W0.heap.size = w.heap.size + 2 ∧ W0.heap[w.heap.size]? = some (.cells #[.slice none 0 0, .slice none 0 0] 40 (0, 0))) := ⟨b0, sz0, kR⟩
  obtain ⟨i0, hi, hz0, hz1, hz2⟩ := info_parts info3
  have HI : Hid (Try.prog.info? 3 = some i0 ∧ i0.zero = some (.int .i64 0) ∧ i0.size = 1 ∧ i0.bytes = 8) := ⟨hi, hz0, hz1, hz2⟩
  clear hi hz0 hz1 hz2 kR kT b0 sz0
  rw [hW0] at HIn
  go_enter Try.func20, Try.ntmps20
  go_wp2
  rw [← hW0]
  go_loopw [6, 19] (fun cv i wr => ∃ (k : Nat) (cap : Value), k ≤ al.length ∧ i = .int .i64 k ∧ Hid (TDS wr (w.heap.size + 1) (w.heap.size + 1) (runD [] [] (al.take k)).2.1 (runD [] [] (al.take k)).2.2 (w.heap.size + 1) cv k ((runD [] [] (al.take k)).1.map (Value.int .i64)) ∧ Below (w.heap.size + 1) W0 wr)) (fun _ i _ => al.length - (intOf i).toNat)
  case atStart =>
    rw [← hW0] at HIn
    exact ⟨0, .slice none 0 0, by omega, rfl, hide ⟨by simpa [runD] using HIn.out.1, HIn.out.2⟩⟩
  case round =>
    clear HIn
    obtain ⟨k, _, hk, rfl, HR⟩ := hrel
    have BW : Below w.heap.size w wr := HW0.out.1.trans (HR.out.2.mono (by omega))
    have hsw := BW.size
    by_cases hlt : k < al.length
    · obtain ⟨ab, aoff, rfl, hca⟩ := ha3 (by omega)
      obtain ⟨u, hu, q0, q1, q2, q3⟩ := hca k hlt
      have hfa : Fit (al.getD k ⟨0, 0, 0, []⟩) := by
        have e : al.getD k ⟨0, 0, 0, []⟩ = al[k] := by simp [List.getD_eq_getElem?_getD, hlt]
        rw [e]
        exact HFit.out _ (List.getElem_mem hlt)
      have HTk : Hid (runD [] [] (al.take (k + 1)) = ((runD [] [] (al.take k)).1 ++ [(stepD (runD [] [] (al.take k)).2.1 (runD [] [] (al.take k)).2.2 (al.getD k ⟨0, 0, 0, []⟩)).2.2], (stepD (runD [] [] (al.take k)).2.1 (runD [] [] (al.take k)).2.2 (al.getD k ⟨0, 0, 0, []⟩)).1, (stepD (runD [] [] (al.take k)).2.1 (runD [] [] (al.take k)).2.2 (al.getD k ⟨0, 0, 0, []⟩)).2.1)) := by
        unfold Hid
        rw [take_next al ⟨0, 0, 0, []⟩ hlt, runD_snoc]
      have hsm := runD_small (al.take k) [] [] (by simp)
      rw [List.length_take] at hsm
      generalize al.getD k ⟨0, 0, 0, []⟩ = a at hu q0 q1 q2 q3 hfa HTk
      obtain ⟨⟨uo, uc, rfl, hu1, hu2, _⟩, _⟩ := id hu
      have r0 := (BW.cell (cell_lt q0)).trans q0
      have r1 := (BW.cell (cell_lt q1)).trans q1
      have r2 := (BW.cell (cell_lt q2)).trans q2
      have r3 := (BW.cell (cell_lt q3)).trans q3
      obtain ⟨W1, hW1⟩ : ∃ W1, W1 = wr.alloc (.cells #[.int .i64 a.kind, .int .i64 a.keep, .int .i64 a.torn, .slice uo a.data.length uc] 76) := ⟨_, rfl⟩
      have b1 : Below wr.heap.size wr W1 := by rw [hW1]; exact (Below.refl _ _).alloc (Nat.le_refl _) _
      have sz1 : W1.heap.size = wr.heap.size + 1 := by rw [hW1]; simp
      generalize runD [] [] (al.take k) = q at HTk hsm HR
      obtain ⟨codes, xsK, csK⟩ := q
      simp only at HTk hsm HR
      obtain ⟨av0, ev0, T0, S0⟩ := HR.out.1
      have hC := do_side W1 (w.heap.size + 1) (w.heap.size + 1) xsK csK (w.heap.size + 1) u6 k (codes.map (Value.int .i64)) ⟨av0, ev0, T0.below b1, S0.below b1⟩ a (.slice uo a.data.length uc) (hu.below (BW.trans (b1.mono (by omega))) (Nat.le_refl _)) hsm.1 (by have := hsm.2.1; simp at this; omega) hfa.1 hfa.2.1 hfa.2.2
      have hsz0 := HW0.out.2.1
      have hsr := HR.out.2.size
      rw [hW1] at hC
      clear T0 S0 hca ha3 q0 q1 q2 q3 hu
      go_wp2_with fail
      refine hC.mono ?_
      rw [← hW1]
      generalize stepD xsK csK a = st at HTk ⊢
      obtain ⟨sx, sc, code⟩ := st
      simp only at HTk ⊢
      rintro e w2 ⟨rfl, ⟨av2, ev2, T2, S2⟩, b2⟩
      have s2 := b2.size
      have H2 : Hid (TS w2 (w.heap.size + 1) (w.heap.size + 1) av2 (sx ++ sc.flatten) sx.length ev2 (endsTo sx.length sc sc.length) ∧ Side w2 ev2 (w.heap.size + 1) u6 k (codes.map (Value.int .i64)) ∧ Below (w.heap.size + 1) W0 w2) := hide ⟨T2, S2, HR.out.2.trans ((b1.mono (by omega)).trans b2)⟩
      have HCl : Hid (codes.length = k) := by unfold Hid; rw [hsm.2.2]; omega
      clear hC T2 S2 b2 b1 hW1 r0 r1 r2 r3 HR BW hsm
      go_wp2_with (at_builtin; refine wpList_append_lies _ rfl _ _ 38 rfl (w.heap.size + 1) 3 i0 (.int .i64 0) 1 8 Try.underlying38 HI.out.1 HI.out.2.1 HI.out.2.2.1 HI.out.2.2.2 rfl (by decide) u6 k (codes.map (Value.int .i64)) rfl (H2.out.2.1.1.alloc _) ⟨w2.heap.size, 0, none⟩ 1 1 [.int .i64 code] rfl rfl (cell_one_new _ _ _) (by intro u hu; simp at hu; subst hu; rfl) (by decide) (by unfold maxLen; omega) (by omega) (by simp; omega) (w2.heap.size + 1) (by simp) ?_; intro g cap9 w9 hown hgrow hat hlt9)
      have H9 : Hid (TDS w9 (w.heap.size + 1) (w.heap.size + 1) (runD [] [] (al.take (k + 1))).2.1 (runD [] [] (al.take (k + 1))).2.2 (w.heap.size + 1) (.slice (some ⟨g, 0, none⟩) (k + 1) cap9) (k + 1) ((runD [] [] (al.take (k + 1))).1.map (Value.int .i64)) ∧ Below (w.heap.size + 1) W0 w9) := by
        have hg : w2.grownBy w9 u6.ownBlock := grown_trans (World.grownBy_alloc w2 _ u6.ownBlock) hgrow
        have T2 := H2.out.1
        have S2 := H2.out.2.1
        have hud : u6.ownBlock ≠ some (w.heap.size + 1) := own_other S2.1 T2.blk (by decide)
        have hev : ev2.ownBlock = none ∨ ev2.ownBlock ≠ u6.ownBlock := by
          cases hv : ev2.ownBlock with
          | none => exact .inl rfl
          | some x =>
            refine .inr fun e => ?_
            rcases S2.2 with h | h
            · rw [h] at e; simp at e
            · exact h (by rw [hv, e])
        rw [HTk.out]
        refine hide ⟨⟨av2, ev2, ⟨(hg.block _ T2.lt (fun e => hud e.symm)).trans T2.blk, own_kept T2.all hg (rows_apart T2.all.2 S2.1 (by decide)), World.ownsRow.kept T2.ends hg hev, T2.low⟩, by simpa using hown, ?_⟩, H2.out.2.2.grown hg (by have := H2.out.2.2.size; omega) (fun j hj => (World.ownsRow.lt S2.1 j hj).1)⟩
        refine .inr fun e => ?_
        have e' : some g = ev2.ownBlock := e
        rcases hat with h | h
        · rcases S2.2 with h2 | h2
          · rw [h2] at h; simp at h
          · exact h2 (by rw [h, e'])
        · have := (World.ownsRow.lt T2.ends g e'.symm).2
          omega
      clear hown hgrow hat hlt9 H2
      go_wp2
      go_roundw
      case rel => exact ⟨k + 1, .slice none 0 0, by omega, by go_num, H9⟩
      case measure => simp [intOf]; omega
    · have hkl : k = al.length := by omega
      have hQ := HR.out.1
      rw [hkl, List.take_length] at hQ
      have hsm := runD_small al [] [] (by simp)
      generalize runD [] [] al = q at hQ hsm HE
      obtain ⟨codes, xsK, csK⟩ := q
      simp only at hQ hsm HE
      obtain ⟨av, ev, T9, S9⟩ := hQ
      obtain ⟨ao9, ca9, hav, _⟩ := T9.all.rd
      subst hav
      have kR : wr.heap[w.heap.size]? = some (.cells #[.slice none 0 0, .slice none 0 0] 40 (0, 0)) := (HR.out.2.block _ (by omega)).trans HW0.out.2.2
      have hC := disk_any wr _ _ ao9 ca9 xsK csK ev T9 hsm.1 (by have := hsm.2.1; simp at this; omega)
      have hAll := T9.all
      have HRowC : Hid (wr.ownsRow (w.heap.size + 1) 3 1 u6 codes.length (codes.map (Value.int .i64)) ∧ Own wr (w.heap.size + 1) (.slice ao9 (xsK ++ csK.flatten).length ca9) (xsK ++ csK.flatten) ∧ Below w.heap.size w wr ∧ wr.heap[w.heap.size]? = some (.cells #[.slice none 0 0, .slice none 0 0] 40 (0, 0))) := ⟨by rw [hsm.2.2]; exact S9.1, hAll, BW, kR⟩
      clear T9 S9 hAll HR BW kR hsm ha3
      go_wp2_with fail
      refine hC.mono ?_
      rintro e w2 ⟨pv, rfl, P2, b2⟩
      obtain ⟨po, pl, pc, hpv⟩ := row_slice P2
      subst hpv
      have kR2 : w2.heap[w.heap.size]? = some (.cells #[.slice none 0 0, .slice none 0 0] 40 (0, 0)) := (b2.block _ (Array.getElem?_eq_some_iff.1 HRowC.out.2.2.2).1).trans HRowC.out.2.2.2
      have r0 := cell_of kR2 (i := 0) rfl
      have r1 := cell_of kR2 (i := 1) rfl
      have e0 := frozen_of kR2 0
      have e1 := frozen_of kR2 1
      have kf0 : (w2.setCell ⟨w.heap.size, 0, none⟩ (.slice ao9 xsK.length xsK.length)).heap[w.heap.size]? = some (.cells #[.slice ao9 xsK.length xsK.length, .slice none 0 0] 40 (0, 0)) := by
        have := heap_setCell_same w2 w.heap.size 0 _ 40 (.slice ao9 xsK.length xsK.length) kR2
        simpa using this
      have kf : ((w2.setCell ⟨w.heap.size, 0, none⟩ (.slice ao9 xsK.length xsK.length)).setCell ⟨w.heap.size, 1, none⟩ (.slice po pl pc)).heap[w.heap.size]? = some (.cells #[.slice ao9 xsK.length xsK.length, .slice po pl pc] 40 (0, 0)) := by
        have := heap_setCell_same _ w.heap.size 1 _ 40 (.slice po pl pc) kf0
        simpa using this
      have g0 := cell_of kf (i := 0) rfl
      have g1 := cell_of kf (i := 1) rfl
      have HF : Hid (ImplRunE w (codes, xsK, csK, 0) (.returned (.tuple #[u6, .agg #[.slice ao9 xsK.length xsK.length, .slice po pl pc], .int .i64 0])) ((w2.setCell ⟨w.heap.size, 0, none⟩ (.slice ao9 xsK.length xsK.length)).setCell ⟨w.heap.size, 1, none⟩ (.slice po pl pc))) := by
        have set2 : ∀ {b e : Nat} {v : Value} {n : Nat} {us : List Value}, w2.ownsRow b e 1 v n us → e ≠ 40 → w.heap.size ≤ b → ((w2.setCell ⟨w.heap.size, 0, none⟩ (.slice ao9 xsK.length xsK.length)).setCell ⟨w.heap.size, 1, none⟩ (.slice po pl pc)).ownsRow w.heap.size e 1 v n us := fun {b e v n us} h hne hb => by
          have hd := own_other h kR2 hne
          have h2 := ownsRow_setCell_other (ownsRow_setCell_other h (a := ⟨w.heap.size, 0, none⟩) hd (.slice ao9 xsK.length xsK.length)) (a := ⟨w.heap.size, 1, none⟩) hd (.slice po pl pc)
          obtain ⟨h1, h3 | ⟨g, c, cur, hv, hbg, r⟩⟩ := h2
          · exact ⟨h1, .inl h3⟩
          · exact ⟨h1, .inr ⟨g, c, cur, hv, by omega, r⟩⟩
        have hs := HRowC.out.2.2.1.size
        refine hide ⟨u6, ao9, ca9, .slice po pl pc, rfl, set2 (ends_below HRowC.out.1 b2 (Nat.le_refl _)) (by decide) (by omega), set2 P2 (by decide) hs, ⟨HRowC.out.2.1.1, set2 (HRowC.out.2.1.below b2 (Nat.le_refl _)).2 (by decide) (by omega)⟩, ((HRowC.out.2.2.1.trans (b2.mono hs)).setCell (p := ⟨w.heap.size, 0, none⟩) (Nat.le_refl _) _).setCell (p := ⟨w.heap.size, 1, none⟩) (Nat.le_refl _) _⟩
      clear P2 b2 kR2 kf kf0 hC HRowC
      go_wp2
      exact bodyPost_ret (v := .tuple #[u6, .agg #[.slice ao9 xsK.length xsK.length, .slice po pl pc], .int .i64 0]) (by simp [results, Try.results20, go_sem, g0, g1]) rfl (by rw [HE.out]; exact HF.out)
end Go.Proofs.Ytipcdioolafkpaa.implrun

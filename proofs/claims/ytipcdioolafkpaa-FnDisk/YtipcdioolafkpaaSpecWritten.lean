/- Contract of the specification's act on a disk: a write that is done. -/
import Derived.Test.YtipcdioolafkpaaSpecWrite
import Derived.Deep.RegionHeldLaw
namespace Go.Proofs.Ytipcdioolafkpaa.specwritten
open Go.ChangeShapes Go.WideShapes Go.ChangeAt Go.RowKit
open Go.Proofs.Ytipcdioolafkpaa.bytes Go.Proofs.Ytipcdioolafkpaa.pile Go.Proofs.Ytipcdioolafkpaa.reader Go.Proofs.Ytipcdioolafkpaa.lists Go.Proofs.Ytipcdioolafkpaa.sizes Go.Proofs.Ytipcdioolafkpaa.marked Go.Proofs.Ytipcdioolafkpaa.disks Go.Proofs.Ytipcdioolafkpaa.diskmarks Go.Proofs.Ytipcdioolafkpaa.specdisk Go.Proofs.Ytipcdioolafkpaa.tracks Go.Proofs.Ytipcdioolafkpaa.trackof Go.Proofs.Ytipcdioolafkpaa.crashes Go.Proofs.Ytipcdioolafkpaa.crashed Go.Proofs.Ytipcdioolafkpaa.acts Go.Proofs.Ytipcdioolafkpaa.diskof Go.Proofs.Ytipcdioolafkpaa.beside Go.Proofs.Ytipcdioolafkpaa.doside Go.Proofs.Ytipcdioolafkpaa.implrun Go.Proofs.Ytipcdioolafkpaa.speccrash Go.Proofs.Ytipcdioolafkpaa.specact Go.Proofs.Ytipcdioolafkpaa.specwrite
set_option linter.unusedVariables false

theorem written (w w1 w28 : World) (so : Option Addr) (sc : Nat) (po : Option Addr) (pc : Nat) (uo : Option Addr) (uc : Nat) (o28 : Option Addr) (c28 : Nat) (o26 : Option Addr) (c26 : Nat) (xs : List Int) (us : List Value) (cs : List (List Int)) (ys : List Int) (keep torn : Int)
    (HD : DiskRd w (.slice so xs.length sc) (.slice po us.length pc) xs us cs) (HV : Vars w (.slice so xs.length sc) (.slice po us.length pc) 1 keep torn (.slice uo ys.length uc) w1) (Hb : Below w1.heap.size w1 w28)
    (H28 : w28.ownsRow w1.heap.size 22 1 (.slice o28 (us ++ [Value.slice o26 ys.length c26]).length c28) (us ++ [Value.slice o26 ys.length c26]).length (us ++ [Value.slice o26 ys.length c26]))
    (R26 : w28.ownsRow w1.heap.size 5 1 (.slice o26 ys.length c26) ys.length (ys.map (Value.int .u8))) (hy : ∀ y ∈ ys, 0 ≤ y ∧ y ≤ 255) :
    (w28.setCell ⟨w.heap.size, 1, none⟩ (.slice o28 (us.length + 1) c28)).cell? ⟨w.heap.size, 0, none⟩ = some (.slice so xs.length sc) ∧
    (w28.setCell ⟨w.heap.size, 1, none⟩ (.slice o28 (us.length + 1) c28)).cell? ⟨w.heap.size, 1, none⟩ = some (.slice o28 (us.length + 1) c28) ∧
    (w28.setCell ⟨w.heap.size, 1, none⟩ (.slice o28 (us.length + 1) c28)).cell? ⟨w.heap.size + 2, 0, none⟩ = some (.slice none 0 0) ∧
    (w28.setCell ⟨w.heap.size, 1, none⟩ (.slice o28 (us.length + 1) c28)).cell? ⟨w.heap.size + 2, 1, none⟩ = some (.slice none 0 0) ∧
    (w28.setCell ⟨w.heap.size, 1, none⟩ (.slice o28 (us.length + 1) c28)).frozen? ⟨w.heap.size + 2, 0, none⟩ = false ∧
    (w28.setCell ⟨w.heap.size, 1, none⟩ (.slice o28 (us.length + 1) c28)).frozen? ⟨w.heap.size + 2, 1, none⟩ = false ∧
    (((w28.setCell ⟨w.heap.size, 1, none⟩ (.slice o28 (us.length + 1) c28)).setCell ⟨w.heap.size + 2, 0, none⟩ (.slice so xs.length sc)).setCell ⟨w.heap.size + 2, 1, none⟩ (.slice o28 (us.length + 1) c28)).cell? ⟨w.heap.size + 2, 0, none⟩ = some (.slice so xs.length sc) ∧
    (((w28.setCell ⟨w.heap.size, 1, none⟩ (.slice o28 (us.length + 1) c28)).setCell ⟨w.heap.size + 2, 0, none⟩ (.slice so xs.length sc)).setCell ⟨w.heap.size + 2, 1, none⟩ (.slice o28 (us.length + 1) c28)).cell? ⟨w.heap.size + 2, 1, none⟩ = some (.slice o28 (us.length + 1) c28) ∧
    Hid (ActE w (xs, cs ++ [ys], 0) (.returned (.tuple #[.agg #[.slice so xs.length sc, .slice o28 (us.length + 1) c28], .int .i64 0])) (((w28.setCell ⟨w.heap.size, 1, none⟩ (.slice o28 (us.length + 1) c28)).setCell ⟨w.heap.size + 2, 0, none⟩ (.slice so xs.length sc)).setCell ⟨w.heap.size + 2, 1, none⟩ (.slice o28 (us.length + 1) c28))) := by
  have hl : (us ++ [Value.slice o26 ys.length c26]).length = us.length + 1 := by simp
  rw [hl] at H28
  have V28 := HV.below Hb
  have kD : (w28.setCell ⟨w.heap.size, 1, none⟩ (.slice o28 (us.length + 1) c28)).heap[w.heap.size]? = some (.cells #[.slice so xs.length sc, .slice o28 (us.length + 1) c28] 40 (0, 0)) := by
    have := heap_setCell_same w28 w.heap.size 1 _ 40 (.slice o28 (us.length + 1) c28) V28.disk
    simpa using this
  have kR : (w28.setCell ⟨w.heap.size, 1, none⟩ (.slice o28 (us.length + 1) c28)).heap[w.heap.size + 2]? = some (.cells #[.slice none 0 0, .slice none 0 0] 40 (0, 0)) := by
    rw [Below.heap_setCell _ _ _ _ (by simp)]
    exact V28.res
  have kf := set2 kR (.slice so xs.length sc) (.slice o28 (us.length + 1) c28)
  refine ⟨cell_of kD rfl, cell_of kD rfl, cell_of kR rfl, cell_of kR rfl, frozen_of kR 0, frozen_of kR 1, cell_of kf rfl, cell_of kf rfl, ?_⟩
  have keep3 : ∀ {b e : Nat} {v : Value} {n : Nat} {vs : List Value}, w28.ownsRow b e 1 v n vs → e ≠ 40 → (((w28.setCell ⟨w.heap.size, 1, none⟩ (.slice o28 (us.length + 1) c28)).setCell ⟨w.heap.size + 2, 0, none⟩ (.slice so xs.length sc)).setCell ⟨w.heap.size + 2, 1, none⟩ (.slice o28 (us.length + 1) c28)).ownsRow b e 1 v n vs := fun {b e v n vs} h hne => by
    have h1 := ownsRow_setCell_other h (a := ⟨w.heap.size, 1, none⟩) (own_other h V28.disk hne) (.slice o28 (us.length + 1) c28)
    have hd := own_other h1 kR hne
    exact ownsRow_setCell_other (ownsRow_setCell_other h1 (a := ⟨w.heap.size + 2, 0, none⟩) hd _) (a := ⟨w.heap.size + 2, 1, none⟩) hd _
  have hB : Below w.heap.size w (((w28.setCell ⟨w.heap.size, 1, none⟩ (.slice o28 (us.length + 1) c28)).setCell ⟨w.heap.size + 2, 0, none⟩ (.slice so xs.length sc)).setCell ⟨w.heap.size + 2, 1, none⟩ (.slice o28 (us.length + 1) c28)) := below_set2 (V28.bel.setCell (p := ⟨w.heap.size, 1, none⟩) (Nat.le_refl _) _) (by omega) _ _
  have hrow := keep3 H28 (by decide)
  have hown : Own _ w1.heap.size (.slice o26 ys.length c26) ys := ⟨hy, keep3 R26 (by decide)⟩
  have hlc : us.length = cs.length := HD.texts.1
  refine ⟨so, xs.length, sc, o28, c28, us ++ [Value.slice o26 ys.length c26], by rw [hl], ⟨HD.synced.below hB (Nat.le_refl _), ?_, ⟨by simp [hlc], fun i hi => ?_⟩, fun n c e => ?_, fun o n c e hp => ?_, fun hx => (HD.sty hx).below hB (Nat.le_refl _), fun i hi hne => ?_⟩, hB⟩
  · rw [hl]
    have := row_rdS' hrow hl
    exact this
  · rw [hl] at hi
    by_cases hlt : i < us.length
    · have e1 : (us ++ [Value.slice o26 ys.length c26]).getD i (.slice none 0 0) = us.getD i (.slice none 0 0) := by simp [List.getD_eq_getElem?_getD, List.getElem?_append_left hlt]
      have e2 : (cs ++ [ys]).getD i [] = cs.getD i [] := by simp [List.getD_eq_getElem?_getD, List.getElem?_append_left (hlc ▸ hlt)]
      rw [e1, e2]
      exact (HD.texts.below hB (Nat.le_refl _)).2 i hlt
    · have hi' : i = us.length := by omega
      subst hi'
      have e1 : (us ++ [Value.slice o26 ys.length c26]).getD us.length (.slice none 0 0) = .slice o26 ys.length c26 := by simp [List.getD_eq_getElem?_getD]
      have e2 : (cs ++ [ys]).getD us.length [] = ys := by rw [hlc]; simp [List.getD_eq_getElem?_getD]
      rw [e1, e2]
      exact Own.rdA hown
  · obtain ⟨_, ⟨e0, h0⟩ | ⟨g, c', cur, e0, _⟩⟩ := hrow
    · omega
    · rw [hl] at e
      rw [e0] at e
      simp at e
  · obtain ⟨_, ⟨e0, h0⟩ | ⟨g, c', cur, e0, hbg, hg, _⟩⟩ := hrow
    · omega
    · rw [hl] at e
      rw [e0] at e
      simp only [Value.slice.injEq, Option.some.injEq] at e
      obtain ⟨rfl, _⟩ := e
      exact ⟨cur, _, hg⟩
  · rw [hl] at hi
    by_cases hlt : i < us.length
    · have e1 : (us ++ [Value.slice o26 ys.length c26]).getD i (.slice none 0 0) = us.getD i (.slice none 0 0) := by simp [List.getD_eq_getElem?_getD, List.getElem?_append_left hlt]
      have e2 : (cs ++ [ys]).getD i [] = cs.getD i [] := by simp [List.getD_eq_getElem?_getD, List.getElem?_append_left (hlc ▸ hlt)]
      rw [e1]
      exact (HD.wty i hlt (by intro e; exact hne (e2.trans e))).below hB (Nat.le_refl _)
    · have hi' : i = us.length := by omega
      subst hi'
      have e1 : (us ++ [Value.slice o26 ys.length c26]).getD us.length (.slice none 0 0) = .slice o26 ys.length c26 := by simp [List.getD_eq_getElem?_getD]
      have e2 : (cs ++ [ys]).getD us.length [] = ys := by rw [hlc]; simp [List.getD_eq_getElem?_getD]
      rw [e1]
      exact (Own.rdT hown).2 (by intro e; exact hne (e2.trans e))

set_option maxRecDepth 20000 in
set_option maxHeartbeats 4000000 in
theorem act_write (w : World) (s p : Value) (xs : List Int) (us : List Value) (cs : List (List Int)) (h : DiskRd w s p xs us cs) (keep torn : Int) (ys : List Int) (u : Value) (hu : RdA w u ys) (hb : xs.length + cs.flatten.length ≤ 8192) (hc : us.length ≤ 200) (hf1 : ys.length ≤ 1099511627776) (hm0 : ¬ 8192 < xs.length + cs.flatten.length + ys.length) :
    Calls Try.prog 49 #[.agg #[s, p], .agg #[.int .i64 1, .int .i64 keep, .int .i64 torn, u]] w fun e w' => ActE w (stepD xs cs ⟨1, keep, torn, ys⟩) e w' := by
  have HD : Hid (DiskRd w s p xs us cs) := h
  have HU : Hid (RdA w u ys) := hu
  obtain ⟨⟨⟨so, sc, rfl, _⟩, _⟩, ⟨po, pc, rfl, _⟩, _, _⟩ := h
  obtain ⟨⟨uo, uc, rfl, hu1, hu2, _⟩, _⟩ := hu
  unfold maxLen at hu2
  obtain ⟨T, hT⟩ : ∃ T, T = cs.flatten.length := ⟨_, rfl⟩
  have HTT : Hid (T = cs.flatten.length) := hT
  rw [← hT] at hb
  have hm : ¬ 8192 < xs.length + T + ys.length := by rw [hT]; exact hm0
  clear hT hm0
  have HV0 : Hid (Vars w (.slice so xs.length sc) (.slice po us.length pc) 1 keep torn (.slice uo ys.length uc) (((w.alloc (.cells #[.slice so xs.length sc, .slice po us.length pc] 40)).alloc (.cells #[.int .i64 1, .int .i64 keep, .int .i64 torn, .slice uo ys.length uc] 76)).alloc (.cells #[.slice none 0 0, .slice none 0 0] 40))) := vars0 w _ _ 1 keep torn _
  generalize hW0 : ((w.alloc (.cells #[.slice so xs.length sc, .slice po us.length pc] 40)).alloc (.cells #[.int .i64 1, .int .i64 keep, .int .i64 torn, .slice uo ys.length uc] 76)).alloc (.cells #[.slice none 0 0, .slice none 0 0] 40) = W0 at HV0
  obtain ⟨⟨x0, x1⟩, ⟨y0, y1, y2, y3⟩, _⟩ := HV0.out.cells
  have HSz : Hid (∀ n, Calls Try.prog 67 #[.agg #[.slice so xs.length sc, .slice po us.length pc]] (W0.drewN n) fun e w' => e = .returned (.int .i64 ((xs.length : Int) + (T : Int))) ∧ Hid (Vars w (.slice so xs.length sc) (.slice po us.length pc) 1 keep torn (.slice uo ys.length uc) w') ∧ w'.cell? ⟨w.heap.size + 1, 3, none⟩ = some (.slice uo ys.length uc) ∧ w'.cell? ⟨w.heap.size, 0, none⟩ = some (.slice so xs.length sc) ∧ w'.cell? ⟨w.heap.size, 1, none⟩ = some (.slice po us.length pc)) := fun n => by
    have hB : Below w.heap.size w (W0.drewN n) := below_drew' HV0.out.bel n
    rw [HTT.out]
    refine (size_any (W0.drewN n) _ _ xs us cs (HD.out.synced.below hB (Nat.le_refl _)) (HD.out.writes.below hB (Nat.le_refl _)) (HD.out.texts.below hB (Nat.le_refl _)) (by rw [← HTT.out]; omega)).mono ?_
    rintro e w' ⟨rfl, hb'⟩
    have hV := HV0.out.below (wy := w') ⟨hb'.os, hb'.tape, hb'.output, hb'.size, hb'.block⟩
    exact ⟨rfl, hV, hV.cells.2.1.2.2.2, hV.cells.1.1, hV.cells.1.2⟩
  have HE : Hid (stepD xs cs ⟨1, keep, torn, ys⟩ = (xs, cs ++ [ys], 0)) := by unfold Hid stepD; rw [if_pos rfl, if_neg (by rw [← HTT.out]; exact hm)]
  have hmi : ¬ (8192 : Int) - ((xs.length : Int) + (T : Int)) < (ys.length : Int) := by omega
  have hwr : IntKind.i64.wrap (8192 - ((xs.length : Int) + (T : Int))) = 8192 - ((xs.length : Int) + (T : Int)) := by rw [IntKind.wrap_i64]; omega
  have HYb : Hid (∀ y ∈ ys, 0 ≤ y ∧ y ≤ 255) := by
    obtain ⟨⟨_, _, _, _, _, h3, _⟩, _⟩ := HU.out
    exact h3
  have HNil : Hid (∀ n c, Value.slice po us.length pc = .slice none n c → Value.slice po us.length pc = .slice none 0 0) := HD.out.nil
  have HOne : Hid (∀ y ∈ us, y.oneCell' = true) := texts_one HD.out.texts
  go_enter Try.func49, Try.ntmps49
  go_wp2
  go_region_held_law (fun w' => w'.cell? ⟨w.heap.size + 1, 3, none⟩ = some (.slice uo ys.length uc) ∧ w'.cell? ⟨w.heap.size, 0, none⟩ = some (.slice so xs.length sc) ∧ w'.cell? ⟨w.heap.size, 1, none⟩ = some (.slice po us.length pc)) (go_keep) (first | (go_at_call 67; refine (HSz.out _).mono ?_; rintro e w1 ⟨rfl, HV1, c13, c10, c11⟩))
  all_goals
    obtain ⟨⟨v0, v1⟩, ⟨t0, t1, t2, t3⟩, z0, z1, z2, z3⟩ := HV1.out.cells
    have fz1 := frozen_of HV1.out.disk 1
    have hd1 : w.heap.size + 2 < w1.heap.size := (Array.getElem?_eq_some_iff.1 HV1.out.res).1
    have HP : Hid (∀ wx, Below w1.heap.size w1 wx → RdS wx (.slice po us.length pc) us ∧ RdA wx (.slice uo ys.length uc) ys) := fun wx hb => by
      have hB := HV1.out.bel.trans (hb.mono (by omega))
      exact ⟨HD.out.writes.below hB (Nat.le_refl _), HU.out.below hB (Nat.le_refl _)⟩
    have l1 : w.heap.size < w1.heap.size := by omega
    have l2 : w.heap.size + 1 < w1.heap.size := by omega
    have bA : Below w1.heap.size w1 (w1.alloc (.cells #[] 22)).drew := ((Below.refl _ _).alloc (Nat.le_refl _) _).drew
    have bB : Below w1.heap.size w1 (w1.alloc (.cells #[] 5)).drew := ((Below.refl _ _).alloc (Nat.le_refl _) _).drew
    have bAB : Below w1.heap.size w1 ((w1.alloc (.cells #[] 22)).alloc (.cells #[] 5)).drew := (((Below.refl _ _).alloc (Nat.le_refl _) _).alloc (by simp) _).drew
    have bBA : Below w1.heap.size w1 ((w1.alloc (.cells #[] 5)).alloc (.cells #[] 22)).drew := (((Below.refl _ _).alloc (Nat.le_refl _) _).alloc (by simp) _).drew
    have r19a : (w1.alloc (.cells #[] 22)).drew.ownsRow w1.heap.size 22 1 (.slice (some ⟨w1.heap.size, 0, none⟩) 0 0) 0 [] := lit0 w1 (Nat.le_refl _) rfl
    have r19b : ((w1.alloc (.cells #[] 22)).alloc (.cells #[] 5)).drew.ownsRow w1.heap.size 22 1 (.slice (some ⟨w1.heap.size, 0, none⟩) 0 0) 0 [] := (lit0 w1 (Nat.le_refl _) rfl).alloc _
    have r19c : ((w1.alloc (.cells #[] 5)).alloc (.cells #[] 22)).drew.ownsRow w1.heap.size 22 1 (.slice (some ⟨w1.heap.size + 1, 0, none⟩) 0 0) 0 [] := lit0 (w1.alloc (.cells #[] 5)) (by simp) (by simp)
    have r23a : (w1.alloc (.cells #[] 5)).drew.ownsRow w1.heap.size 5 1 (.slice (some ⟨w1.heap.size, 0, none⟩) 0 0) 0 [] := lit0 w1 (Nat.le_refl _) rfl
    have r23b : ((w1.alloc (.cells #[] 5)).alloc (.cells #[] 22)).drew.ownsRow w1.heap.size 5 1 (.slice (some ⟨w1.heap.size, 0, none⟩) 0 0) 0 [] := (lit0 w1 (Nat.le_refl _) rfl).alloc _
    have r23c : ((w1.alloc (.cells #[] 22)).alloc (.cells #[] 5)).drew.ownsRow w1.heap.size 5 1 (.slice (some ⟨w1.heap.size + 1, 0, none⟩) 0 0) 0 [] := lit0 (w1.alloc (.cells #[] 22)) (by simp) (by simp)
    go_wp2
    go_region_law (first | (refine step_rows _ rfl _ _ 29 rfl Try.underlying29 info22w w1.heap.size _ [] rfl (by first | exact r19a | exact r19b | exact r19c | exact G26.other _ _ _ _ _ (by decide) r19b | exact G26.other _ _ _ _ _ (by decide) r19c | exact (G26.other _ _ _ _ _ (by decide) r19b).alloc _ | exact (G26.other _ _ _ _ _ (by decide) r19c).alloc _ | exact lit0 w26 (by first | omega | (simp; omega) | simp) rfl | exact (lit0 w26 (by first | omega | (simp; omega) | simp) rfl).alloc _ | exact lit0 (w26.alloc (.cells #[.slice o26 ys.length c26] 22)) (by first | omega | (simp; omega) | simp) (by simp)) _ us rfl (HP.out _ (by first | exact bA | exact bB | exact bAB | exact bBA | exact Hb26 | exact Hb26.alloc (by omega) _ | exact (Hb26.alloc (by omega) _).alloc (by first | omega | (simp; omega) | simp) _ | exact Hb22 | exact Hb22.alloc (by omega) _ | exact (Hb22.alloc (by omega) _).alloc (by first | omega | (simp; omega) | simp) _)).1 HNil.out HOne.out (by first | omega | (simp; omega) | simp) (by first | omega | (simp; omega) | simp) ?_; intro o22 c22 w22 H22 G22; rw [List.nil_append] at H22; have Hb22 : Below w1.heap.size w1 w22 := G22.below _ (by first | exact bA | exact bB | exact bAB | exact bBA | exact Hb26 | exact Hb26.alloc (by omega) _ | exact (Hb26.alloc (by omega) _).alloc (by first | omega | (simp; omega) | simp) _ | exact Hb22 | exact Hb22.alloc (by omega) _ | exact (Hb22.alloc (by omega) _).alloc (by first | omega | (simp; omega) | simp) _); have hs22 := Hb22.size; have pw22 : w22.cell? ⟨w.heap.size, 1, none⟩ = some (.slice po us.length pc) := (Hb22.cell (p := ⟨w.heap.size, 1, none⟩) (by show w.heap.size < w1.heap.size; omega)).trans v1; have dw22 : w22.cell? ⟨w.heap.size + 1, 3, none⟩ = some (.slice uo ys.length uc) := (Hb22.cell (p := ⟨w.heap.size + 1, 3, none⟩) (by show w.heap.size + 1 < w1.heap.size; omega)).trans t3; have lw22 : w.heap.size < w22.heap.size := (by omega); have mw22 : w.heap.size + 1 < w22.heap.size := (by omega)) | (refine step_bytes _ rfl _ _ 22 rfl Try.underlying22 info5 w1.heap.size _ rfl (by first | exact r23a | exact r23b | exact r23c | exact G22.other _ _ _ _ _ (by decide) r23b | exact G22.other _ _ _ _ _ (by decide) r23c | exact lit0 w22 (by first | omega | (simp; omega) | simp) rfl) _ ys rfl (HP.out _ (by first | exact bA | exact bB | exact bAB | exact bBA | exact Hb26 | exact Hb26.alloc (by omega) _ | exact (Hb26.alloc (by omega) _).alloc (by first | omega | (simp; omega) | simp) _ | exact Hb22 | exact Hb22.alloc (by omega) _ | exact (Hb22.alloc (by omega) _).alloc (by first | omega | (simp; omega) | simp) _)).2 (by omega) (by first | omega | (simp; omega) | simp) ?_; intro o26 c26 w26 O26 G26; have Hb26 : Below w1.heap.size w1 w26 := G26.below _ (by first | exact bA | exact bB | exact bAB | exact bBA | exact Hb26 | exact Hb26.alloc (by omega) _ | exact (Hb26.alloc (by omega) _).alloc (by first | omega | (simp; omega) | simp) _ | exact Hb22 | exact Hb22.alloc (by omega) _ | exact (Hb22.alloc (by omega) _).alloc (by first | omega | (simp; omega) | simp) _); have hs26 := Hb26.size; have pw26 : w26.cell? ⟨w.heap.size, 1, none⟩ = some (.slice po us.length pc) := (Hb26.cell (p := ⟨w.heap.size, 1, none⟩) (by show w.heap.size < w1.heap.size; omega)).trans v1; have dw26 : w26.cell? ⟨w.heap.size + 1, 3, none⟩ = some (.slice uo ys.length uc) := (Hb26.cell (p := ⟨w.heap.size + 1, 3, none⟩) (by show w.heap.size + 1 < w1.heap.size; omega)).trans t3; have lw26 : w.heap.size < w26.heap.size := (by omega); have mw26 : w.heap.size + 1 < w26.heap.size := (by omega)) | (refine step_rows _ rfl _ _ 29 rfl Try.underlying29 info22w w1.heap.size (.slice o22 us.length c22) us rfl (by first | exact H22 | exact H22.alloc _ | exact G26.other _ _ _ _ _ (by decide) H22 | exact (G26.other _ _ _ _ _ (by decide) H22).alloc _ | exact (G26.other _ _ _ _ _ (by decide) (H22.alloc _)).alloc _) _ [.slice o26 ys.length c26] rfl (row_rdS' (by first | exact lit1 w26 (by first | omega | (simp; omega) | simp) rfl | exact lit1 w22 (by first | omega | (simp; omega) | simp) rfl | exact G22.apart _ _ _ _ _ (by first | simp [Value.ownBlock] | (simp [Value.ownBlock]; omega)) (lit1 w26 (by first | omega | (simp; omega) | simp) rfl) | exact G22.apart _ _ _ _ _ (by first | simp [Value.ownBlock] | (simp [Value.ownBlock]; omega)) (lit1 (w26.alloc (.cells #[] 22)) (by first | omega | (simp; omega) | simp) (by simp)) | exact G22.apart _ _ _ _ _ (by first | simp [Value.ownBlock] | (simp [Value.ownBlock]; omega)) ((lit1 w26 (by first | omega | (simp; omega) | simp) rfl).alloc _)) rfl) (by intro n c e; exact absurd (show Value.slice (some (⟨_, 0, none⟩ : Addr)) 1 1 = Value.slice none n c from e) (by simp)) (by intro y hy; simp at hy; subst hy; rfl) (by first | omega | (simp; omega) | simp) (by first | omega | (simp; omega) | simp) ?_; intro o28 c28 w28 H28 G28; have Hb28 : Below w1.heap.size w1 w28 := G28.below _ (by first | exact bA | exact bB | exact bAB | exact bBA | exact Hb26 | exact Hb26.alloc (by omega) _ | exact (Hb26.alloc (by omega) _).alloc (by first | omega | (simp; omega) | simp) _ | exact Hb22 | exact Hb22.alloc (by omega) _ | exact (Hb22.alloc (by omega) _).alloc (by first | omega | (simp; omega) | simp) _); have R26 : w28.ownsRow w1.heap.size 5 1 (.slice o26 ys.length c26) ys.length (ys.map (Value.int .u8)) := G28.other _ _ _ _ _ (by decide) (by first | exact O26.2.alloc _ | exact G22.other _ _ _ _ _ (by decide) (O26.2.alloc _) | exact G22.other _ _ _ _ _ (by decide) ((O26.2.alloc _).alloc _) | exact (G22.other _ _ _ _ _ (by decide) O26.2).alloc _ | exact (G22.other _ _ _ _ _ (by decide) (O26.2.alloc _)).alloc _); have dw28 : w28.cell? ⟨w.heap.size + 1, 3, none⟩ = some (.slice uo ys.length uc) := (Hb28.cell (p := ⟨w.heap.size + 1, 3, none⟩) l2).trans t3; have mw28 : w.heap.size + 1 < w28.heap.size := (by have := Hb28.size; omega); have hc28 : w28.cell? ⟨w.heap.size, 1, none⟩ = some (.slice po us.length pc) := (Hb28.cell (p := ⟨w.heap.size, 1, none⟩) l1).trans v1; have hf28 : w28.frozen? ⟨w.heap.size, 1, none⟩ = false := (Hb28.frozen (p := ⟨w.heap.size, 1, none⟩) l1).trans fz1))
    all_goals
      have HW := written w w1 w28 so sc po pc uo uc o28 c28 o26 c26 xs us cs ys keep torn HD.out HV1.out Hb28 H28 R26 HYb.out
      obtain ⟨f0, f1, f2, f3, f4, f5, f6, f7, HF⟩ := HW
      clear H28 G28 R26 H22 G22 O26 G26 Hb22 Hb26 Hb28
      go_wp2
      exact bodyPost_ret (v := .tuple #[.agg #[.slice so xs.length sc, .slice o28 (us.length + 1) c28], .int .i64 0]) (by simp [results, Try.results49, go_sem, f6, f7]) rfl (by rw [HE.out]; exact HF.out)

/-- Each act of the specification. -/
theorem act_any (w : World) (s p : Value) (xs : List Int) (us : List Value) (cs : List (List Int)) (h : DiskRd w s p xs us cs) (a : Act4) (u : Value) (hu : RdA w u a.data) (hb : xs.length + cs.flatten.length ≤ 8192) (hc : us.length ≤ 200) (hf : Fit a) :
    Calls Try.prog 49 #[.agg #[s, p], .agg #[.int .i64 a.kind, .int .i64 a.keep, .int .i64 a.torn, u]] w fun e w' => ActE w (stepD xs cs a) e w' := by
  by_cases h1 : a.kind = 1
  · obtain ⟨kind, keep, torn, ys⟩ := a
    simp only at h1 hu ⊢
    subst h1
    by_cases hm : 8192 < xs.length + cs.flatten.length + ys.length
    · exact act_over w s p xs us cs h keep torn ys u hu hb hc hf.1 hm
    · exact act_write w s p xs us cs h keep torn ys u hu hb hc hf.1 hm
  · exact act_other w s p xs us cs h a u hu hb hf h1
end Go.Proofs.Ytipcdioolafkpaa.specwritten

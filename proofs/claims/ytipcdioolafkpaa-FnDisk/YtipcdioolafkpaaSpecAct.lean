/- Contract of the specification's act on a disk, but for a write that is done. -/
import Derived.Test.YtipcdioolafkpaaImplRun
import Derived.Test.YtipcdioolafkpaaSpecCrash
namespace Go.Proofs.Ytipcdioolafkpaa.specact
open Go.ChangeShapes Go.WideShapes Go.ChangeAt Go.RowKit
open Go.Proofs.Ytipcdioolafkpaa.bytes Go.Proofs.Ytipcdioolafkpaa.pile Go.Proofs.Ytipcdioolafkpaa.reader Go.Proofs.Ytipcdioolafkpaa.lists Go.Proofs.Ytipcdioolafkpaa.sizes Go.Proofs.Ytipcdioolafkpaa.marked Go.Proofs.Ytipcdioolafkpaa.disks Go.Proofs.Ytipcdioolafkpaa.diskmarks Go.Proofs.Ytipcdioolafkpaa.specdisk Go.Proofs.Ytipcdioolafkpaa.tracks Go.Proofs.Ytipcdioolafkpaa.trackof Go.Proofs.Ytipcdioolafkpaa.crashes Go.Proofs.Ytipcdioolafkpaa.crashed Go.Proofs.Ytipcdioolafkpaa.acts Go.Proofs.Ytipcdioolafkpaa.diskof Go.Proofs.Ytipcdioolafkpaa.beside Go.Proofs.Ytipcdioolafkpaa.doside Go.Proofs.Ytipcdioolafkpaa.implrun Go.Proofs.Ytipcdioolafkpaa.speccrash
set_option linter.unusedVariables false

/-- A slice in a block of bytes. -/
def Ty (w : World) (v : Value) : Prop := ∃ o n c cur fr, v = .slice (some o) n c ∧ w.heap[o.block]? = some (.cells cur 5 fr)
theorem Ty.below {w w' : World} {B : Nat} {v : Value} (h : Ty w v) (hb : Below B w w') (hB : w.heap.size ≤ B) : Ty w' v := by
  obtain ⟨o, n, c, cur, fr, e, hk⟩ := h
  exact ⟨o, n, c, cur, fr, e, (hb.block _ (Nat.lt_of_lt_of_le (Array.getElem?_eq_some_iff.1 hk).1 hB)).trans hk⟩
/-- A slice that reads as these bytes, in a block of bytes where there are any. -/
def RdT (w : World) (v : Value) (F : List Int) : Prop := RdA w v F ∧ (F ≠ [] → Ty w v)
theorem Own.rdT {w : World} {base : Nat} {v : Value} {F : List Int} (h : Own w base v F) : RdT w v F := ⟨Own.rdA h, fun hF => by
  obtain ⟨_, ⟨e0, h0⟩ | ⟨g, c', cur, e0, hbg, hg, _⟩⟩ := h.2
  · exact absurd (List.length_eq_zero_iff.1 h0) hF
  · exact ⟨_, _, _, cur, _, e0, hg⟩⟩
theorem pre_rdT {w : World} {base : Nat} {o : Option Addr} {c K : Nat} {F : List Int} (h : Own w base (.slice o F.length c) F) (hK : K ≤ F.length) : RdT w (.slice o K c) (F.take K) := ⟨pre_rd (Own.rdA h) hK, fun hF => by
  have hF' : F ≠ [] := fun e => hF (by rw [e]; simp)
  obtain ⟨g, n, c', cur, fr, e, hk⟩ := (Own.rdT h).2 hF'
  simp only [Value.slice.injEq] at e
  exact ⟨g, K, c, cur, fr, by rw [e.1], hk⟩⟩

/-- A disk that can be read. -/
structure DiskRd (w : World) (s p : Value) (xs : List Int) (us : List Value) (cs : List (List Int)) : Prop where
  synced : RdA w s xs
  writes : RdS w p us
  texts : Texts w us cs
  nil : ∀ n c, p = .slice none n c → p = .slice none 0 0
  typed : ∀ o n c, p = .slice (some o) n c → 0 < us.length → ∃ cur fr, w.heap[o.block]? = some (.cells cur 22 fr)
  sty : xs ≠ [] → Ty w s
  wty : ∀ i, i < us.length → cs.getD i [] ≠ [] → Ty w (us.getD i (.slice none 0 0))
theorem DiskRd.below {w w' : World} {B : Nat} {s p : Value} {xs : List Int} {us : List Value} {cs : List (List Int)} (h : DiskRd w s p xs us cs) (hb : Below B w w') (hB : w.heap.size ≤ B) : DiskRd w' s p xs us cs := ⟨h.synced.below hb hB, h.writes.below hb hB, h.texts.below hb hB, h.nil, fun o n c e hp => by
    obtain ⟨cur, fr, hk⟩ := h.typed o n c e hp
    exact ⟨cur, fr, (hb.block _ (Nat.lt_of_lt_of_le (Array.getElem?_eq_some_iff.1 hk).1 hB)).trans hk⟩, fun hx => (h.sty hx).below hb hB, fun i hi hc => (h.wty i hi hc).below hb hB⟩
theorem DiskRd.left {w : World} {s : Value} {F : List Int} (h : RdT w s F) : DiskRd w s (.slice none 0 0) F [] [] := ⟨h.1, ⟨none, 0, rfl, by simp, by simp [maxLen], by simp⟩, ⟨rfl, fun i hi => by simp at hi⟩, fun _ _ _ => rfl, fun _ _ _ _ hp => by simp at hp, h.2, fun i hi => by simp at hi⟩

/-- What an act of the specification answers. -/
def ActE (w : World) (R : List Int × List (List Int) × Int) (e : Ending) (w' : World) : Prop :=
  ∃ so sl sc po pc us', e = .returned (.tuple #[.agg #[.slice so sl sc, .slice po us'.length pc], .int .i64 R.2.2]) ∧ DiskRd w' (.slice so sl sc) (.slice po us'.length pc) R.1 us' R.2.1 ∧ Below w.heap.size w w'

theorem set2 {W : World} {b t : Nat} {a0 a1 : Value} (k : W.heap[b]? = some (.cells #[a0, a1] t (0, 0))) (v0 v1 : Value) :
    ((W.setCell ⟨b, 0, none⟩ v0).setCell ⟨b, 1, none⟩ v1).heap[b]? = some (.cells #[v0, v1] t (0, 0)) := by
  have k1 : (W.setCell ⟨b, 0, none⟩ v0).heap[b]? = some (.cells #[v0, a1] t (0, 0)) := by
    have := heap_setCell_same W b 0 _ t v0 k
    simpa using this
  have := heap_setCell_same _ b 1 _ t v1 k1
  simpa using this
theorem below_set2 {w W : World} {B b : Nat} (h : Below B w W) (hb : B ≤ b) (v0 v1 : Value) : Below B w ((W.setCell ⟨b, 0, none⟩ v0).setCell ⟨b, 1, none⟩ v1) :=
  (h.setCell (p := ⟨b, 0, none⟩) hb _).setCell (p := ⟨b, 1, none⟩) hb _
theorem own_set2 {W : World} {b t base : Nat} {cur : Array Value} {v : Value} {xs : List Int} (h : Own W base v xs) (k : W.heap[b]? = some (.cells cur t (0, 0))) (hne : 5 ≠ t) (v0 v1 : Value) : Own ((W.setCell ⟨b, 0, none⟩ v0).setCell ⟨b, 1, none⟩ v1) base v xs := by
  have hd := own_other h.2 k hne
  exact own_setCell (own_setCell h (a := ⟨b, 0, none⟩) hd _) (a := ⟨b, 1, none⟩) hd _

/-- The three variables of the call: the disk, the act, the result. -/
structure Vars (w : World) (s p : Value) (kind keep torn : Int) (u : Value) (wx : World) : Prop where
  disk : wx.heap[w.heap.size]? = some (.cells #[s, p] 40 (0, 0))
  act : wx.heap[w.heap.size + 1]? = some (.cells #[.int .i64 kind, .int .i64 keep, .int .i64 torn, u] 76 (0, 0))
  res : wx.heap[w.heap.size + 2]? = some (.cells #[.slice none 0 0, .slice none 0 0] 40 (0, 0))
  bel : Below w.heap.size w wx
theorem Vars.below {w : World} {s p : Value} {kind keep torn : Int} {u : Value} {wx wy : World} (h : Vars w s p kind keep torn u wx) (hb : Below wx.heap.size wx wy) : Vars w s p kind keep torn u wy := by
  have h3 : w.heap.size + 2 < wx.heap.size := (Array.getElem?_eq_some_iff.1 h.res).1
  exact ⟨(hb.block _ (by omega)).trans h.disk, (hb.block _ (by omega)).trans h.act, (hb.block _ (by omega)).trans h.res, h.bel.trans (hb.mono (by omega))⟩
theorem vars0 (w : World) (s p : Value) (kind keep torn : Int) (u : Value) : Vars w s p kind keep torn u (((w.alloc (.cells #[s, p] 40)).alloc (.cells #[.int .i64 kind, .int .i64 keep, .int .i64 torn, u] 76)).alloc (.cells #[.slice none 0 0, .slice none 0 0] 40)) :=
  ⟨(three_blocks w _ _ _).1, (three_blocks w _ _ _).2.1, (three_blocks w _ _ _).2.2, (((Below.refl _ _).alloc (Nat.le_refl _) _).alloc (by simp) _).alloc (by simp; omega) _⟩

/-- What is read of the variables. -/
theorem Vars.cells {w : World} {s p : Value} {kind keep torn : Int} {u : Value} {wx : World} (h : Vars w s p kind keep torn u wx) : (wx.cell? ⟨w.heap.size, 0, none⟩ = some s ∧ wx.cell? ⟨w.heap.size, 1, none⟩ = some p) ∧
    (wx.cell? ⟨w.heap.size + 1, 0, none⟩ = some (.int .i64 kind) ∧ wx.cell? ⟨w.heap.size + 1, 1, none⟩ = some (.int .i64 keep) ∧ wx.cell? ⟨w.heap.size + 1, 2, none⟩ = some (.int .i64 torn) ∧ wx.cell? ⟨w.heap.size + 1, 3, none⟩ = some u) ∧
    (wx.cell? ⟨w.heap.size + 2, 0, none⟩ = some (.slice none 0 0) ∧ wx.cell? ⟨w.heap.size + 2, 1, none⟩ = some (.slice none 0 0) ∧ wx.frozen? ⟨w.heap.size + 2, 0, none⟩ = false ∧ wx.frozen? ⟨w.heap.size + 2, 1, none⟩ = false) :=
  ⟨⟨cell_of h.disk rfl, cell_of h.disk rfl⟩, ⟨cell_of h.act rfl, cell_of h.act rfl, cell_of h.act rfl, cell_of h.act rfl⟩, cell_of h.res rfl, cell_of h.res rfl, frozen_of h.res 0, frozen_of h.res 1⟩

set_option maxRecDepth 20000 in
set_option maxHeartbeats 4000000 in
theorem act_other (w : World) (s p : Value) (xs : List Int) (us : List Value) (cs : List (List Int)) (h : DiskRd w s p xs us cs) (a : Act4) (u : Value) (hu : RdA w u a.data) (hb : xs.length + cs.flatten.length ≤ 8192) (hf : Fit a) (h1 : a.kind ≠ 1) :
    Calls Try.prog 49 #[.agg #[s, p], .agg #[.int .i64 a.kind, .int .i64 a.keep, .int .i64 a.torn, u]] w fun e w' => ActE w (stepD xs cs a) e w' := by
  obtain ⟨kind, keep, torn, ys⟩ := a
  obtain ⟨hf1, hf2, hf3⟩ := hf
  simp only at hu h1 hf1 hf2 hf3 ⊢
  have HD : Hid (DiskRd w s p xs us cs) := h
  obtain ⟨⟨⟨so, sc, rfl, _⟩, _⟩, ⟨po, pc, rfl, _⟩, _, _⟩ := h
  obtain ⟨⟨uo, uc, rfl, _⟩, _⟩ := hu
  have HV0 : Hid (Vars w (.slice so xs.length sc) (.slice po us.length pc) kind keep torn (.slice uo ys.length uc) (((w.alloc (.cells #[.slice so xs.length sc, .slice po us.length pc] 40)).alloc (.cells #[.int .i64 kind, .int .i64 keep, .int .i64 torn, .slice uo ys.length uc] 76)).alloc (.cells #[.slice none 0 0, .slice none 0 0] 40))) := vars0 w _ _ kind keep torn _
  generalize hW0 : ((w.alloc (.cells #[.slice so xs.length sc, .slice po us.length pc] 40)).alloc (.cells #[.int .i64 kind, .int .i64 keep, .int .i64 torn, .slice uo ys.length uc] 76)).alloc (.cells #[.slice none 0 0, .slice none 0 0] 40) = W0 at HV0
  have q1 : (kind == 1) = false := beq_eq_false_iff_ne.2 h1
  have HSame : Hid (∀ wx C, Vars w (.slice so xs.length sc) (.slice po us.length pc) kind keep torn (.slice uo ys.length uc) wx → ActE w (xs, cs, C) (.returned (.tuple #[.agg #[.slice so xs.length sc, .slice po us.length pc], .int .i64 C])) ((wx.setCell ⟨w.heap.size + 2, 0, none⟩ (.slice so xs.length sc)).setCell ⟨w.heap.size + 2, 1, none⟩ (.slice po us.length pc))) := fun wx C hV => by
    have hB := below_set2 hV.bel (b := w.heap.size + 2) (by omega) (.slice so xs.length sc) (.slice po us.length pc)
    exact ⟨so, xs.length, sc, po, pc, us, rfl, HD.out.below hB (Nat.le_refl _), hB⟩
  have HLeft : Hid (∀ wx (F : List Int) o n c C, Vars w (.slice so xs.length sc) (.slice po us.length pc) kind keep torn (.slice uo ys.length uc) wx → RdT ((wx.setCell ⟨w.heap.size + 2, 0, none⟩ (.slice o n c)).setCell ⟨w.heap.size + 2, 1, none⟩ (.slice none 0 0)) (.slice o n c) F → ActE w (F, [], C) (.returned (.tuple #[.agg #[.slice o n c, .slice none 0 0], .int .i64 C])) ((wx.setCell ⟨w.heap.size + 2, 0, none⟩ (.slice o n c)).setCell ⟨w.heap.size + 2, 1, none⟩ (.slice none 0 0))) := fun wx F o n c C hV hO =>
    ⟨o, n, c, none, 0, [], rfl, DiskRd.left hO, below_set2 hV.bel (by omega) _ _⟩
  obtain ⟨⟨x0, x1⟩, ⟨y0, y1, y2, y3⟩, z0, z1, z2, z3⟩ := HV0.out.cells
  have kf := set2 HV0.out.res (.slice so xs.length sc) (.slice po us.length pc)
  have g0 := cell_of kf (i := 0) rfl
  have g1 := cell_of kf (i := 1) rfl
  by_cases h2 : kind = 2
  · subst h2
    have HE : Hid (stepD xs cs ⟨2, keep, torn, ys⟩ = (xs ++ cs.flatten, [], 0)) := by unfold Hid stepD; rw [if_neg (show ¬ (2 : Int) = 1 by decide), if_pos rfl]
    have hC := bytes_own W0 _ _ xs us cs (HD.out.synced.below HV0.out.bel (Nat.le_refl _)) (HD.out.writes.below HV0.out.bel (Nat.le_refl _)) (HD.out.texts.below HV0.out.bel (Nat.le_refl _)) (by omega)
    clear z0 z1 z2 z3 g0 g1 kf
    go_enter Try.func49, Try.ntmps49
    go_wp2_with fail
    refine hC.mono ?_
    rintro e w1 ⟨v, rfl, O1, b1⟩
    obtain ⟨o1, c1, hv, _⟩ := O1.rd
    subst hv
    have V1 := HV0.out.below b1
    obtain ⟨⟨v0, v1⟩, ⟨t0, t1, t2, t3⟩, z0, z1, z2, z3⟩ := V1.cells
    generalize hFE : xs ++ cs.flatten = F at O1 HE
    have kf := set2 V1.res (.slice o1 F.length c1) (.slice none 0 0)
    have g0 := cell_of kf (i := 0) rfl
    have g1 := cell_of kf (i := 1) rfl
    have HF := HLeft.out w1 F o1 F.length c1 0 V1 (Own.rdT (own_set2 O1 V1.res (by decide) _ _))
    clear O1 V1 kf b1 hC hFE
    go_wp2
    exact bodyPost_ret (v := .tuple #[.agg #[.slice o1 F.length c1, .slice none 0 0], .int .i64 0]) (by simp [results, Try.results49, go_sem, g0, g1]) rfl (by rw [HE.out]; exact HF)
  have q2 : (kind == 2) = false := beq_eq_false_iff_ne.2 h2
  by_cases h3 : kind = 3
  · subst h3
    by_cases hn : keep < 0 ∨ torn < 0
    · have HE : Hid (stepD xs cs ⟨3, keep, torn, ys⟩ = (xs, cs, 5)) := by unfold Hid stepD; rw [if_neg (show ¬ (3 : Int) = 1 by decide), if_neg (show ¬ (3 : Int) = 2 by decide), if_pos rfl, if_pos hn]
      have HF := HSame.out W0 5 HV0.out
      clear kf
      by_cases hk : keep < 0
      · clear hn
        go_enter Try.func49, Try.ntmps49
        go_wp2
        exact bodyPost_ret (v := .tuple #[.agg #[.slice so xs.length sc, .slice po us.length pc], .int .i64 5]) (by simp [results, Try.results49, go_sem, g0, g1]) rfl (by rw [HE.out]; exact HF)
      · have ht : torn < 0 := by omega
        clear hn
        go_enter Try.func49, Try.ntmps49
        go_wp2
        exact bodyPost_ret (v := .tuple #[.agg #[.slice so xs.length sc, .slice po us.length pc], .int .i64 5]) (by simp [results, Try.results49, go_sem, g0, g1]) rfl (by rw [HE.out]; exact HF)
    · obtain ⟨K, rfl⟩ := Int.eq_ofNat_of_zero_le (show 0 ≤ keep by omega)
      obtain ⟨R, rfl⟩ := Int.eq_ofNat_of_zero_le (show 0 ≤ torn by omega)
      have HE : Hid (stepD xs cs ⟨3, K, R, ys⟩ = (crashF xs cs K R, [], 0)) := by unfold Hid stepD; rw [if_neg (show ¬ (3 : Int) = 1 by decide), if_neg (show ¬ (3 : Int) = 2 by decide), if_pos rfl, if_neg hn]; rfl
      have m1 : ¬ (K : Int) < 0 := by omega
      have m2 : ¬ (R : Int) < 0 := by omega
      have hC := specLeft W0 _ _ xs us cs (HD.out.synced.below HV0.out.bel (Nat.le_refl _)) (HD.out.writes.below HV0.out.bel (Nat.le_refl _)) (HD.out.texts.below HV0.out.bel (Nat.le_refl _)) (by omega) K R (by omega) (by omega)
      clear z0 z1 z2 z3 g0 g1 kf hn
      go_enter Try.func49, Try.ntmps49
      go_wp2_with fail
      refine hC.mono ?_
      rintro e w1 ⟨v, rfl, o1, c1, rfl, O1, b1⟩
      have V1 := HV0.out.below b1
      obtain ⟨⟨v0, v1⟩, ⟨t0, t1, t2, t3⟩, z0, z1, z2, z3⟩ := V1.cells
      generalize hFE : crashF xs cs K R = F at O1 HE
      have kf := set2 V1.res (.slice o1 F.length c1) (.slice none 0 0)
      have g0 := cell_of kf (i := 0) rfl
      have g1 := cell_of kf (i := 1) rfl
      have HF := HLeft.out w1 F o1 F.length c1 0 V1 (Own.rdT (own_set2 O1 V1.res (by decide) _ _))
      clear O1 V1 kf b1 hC hFE
      go_wp2
      exact bodyPost_ret (v := .tuple #[.agg #[.slice o1 F.length c1, .slice none 0 0], .int .i64 0]) (by simp [results, Try.results49, go_sem, g0, g1]) rfl (by rw [HE.out]; exact HF)
  have q3 : (kind == 3) = false := beq_eq_false_iff_ne.2 h3
  by_cases h4 : kind = 4
  · subst h4
    have hC := bytes_own W0 _ _ xs us cs (HD.out.synced.below HV0.out.bel (Nat.le_refl _)) (HD.out.writes.below HV0.out.bel (Nat.le_refl _)) (HD.out.texts.below HV0.out.bel (Nat.le_refl _)) (by omega)
    have hlen : (xs ++ cs.flatten).length = xs.length + cs.flatten.length := List.length_append
    have HEb : Hid (keep < 0 ∨ ((xs ++ cs.flatten).length : Int) < keep → stepD xs cs ⟨4, keep, torn, ys⟩ = (xs, cs, 5)) := fun hn => by
      rw [hlen] at hn
      unfold stepD; rw [if_neg (show ¬ (4 : Int) = 1 by decide), if_neg (show ¬ (4 : Int) = 2 by decide), if_neg (show ¬ (4 : Int) = 3 by decide), if_pos rfl, if_pos hn]
    have HEg : Hid (∀ K : Nat, keep = K → ¬ ((xs ++ cs.flatten).length : Int) < keep → stepD xs cs ⟨4, keep, torn, ys⟩ = ((xs ++ cs.flatten).take K, [], 0)) := fun K hK hn => by
      rw [hlen] at hn
      unfold stepD; rw [if_neg (show ¬ (4 : Int) = 1 by decide), if_neg (show ¬ (4 : Int) = 2 by decide), if_neg (show ¬ (4 : Int) = 3 by decide), if_pos rfl, if_neg (by simp only; omega), hK]; rfl
    have hFl : (xs ++ cs.flatten).length ≤ 8192 := by rw [hlen]; exact hb
    clear z0 z1 z2 z3 g0 g1 kf hlen
    go_enter Try.func49, Try.ntmps49
    go_wp2_with fail
    refine hC.mono ?_
    rintro e w1 ⟨v, rfl, O1, b1⟩
    obtain ⟨o1, c1, hv, hc1, hc2, _⟩ := O1.rd
    subst hv
    unfold maxLen at hc2
    have V1 := HV0.out.below b1
    obtain ⟨⟨v0, v1⟩, ⟨t0, t1, t2, t3⟩, z0, z1, z2, z3⟩ := V1.cells
    generalize xs ++ cs.flatten = F at O1 HEb HEg hFl hc1 ⊢
    have HV1 : Hid (Vars w (.slice so xs.length sc) (.slice po us.length pc) 4 keep torn (.slice uo ys.length uc) w1) := V1
    have HO1 : Hid (Own w1 W0.heap.size (.slice o1 F.length c1) F) := O1
    have HIn : Hid (Calls Try.prog 70 #[.int .i64 keep, .int .i64 0, .int .i64 F.length] w1 fun e w' => e = .returned (.bool (decide (0 ≤ keep ∧ keep ≤ F.length))) ∧ w' = w1) := by
      by_cases m1 : 0 ≤ keep
      · by_cases m2 : keep ≤ F.length
        · rw [decide_eq_true ⟨m1, m2⟩]
          go_enter Try.func70, Try.ntmps70
          go_wp2
          go_ret
          exact ⟨rfl, rfl⟩
        · rw [decide_eq_false (fun h => m2 h.2)]
          go_enter Try.func70, Try.ntmps70
          go_wp2
          go_ret
          exact ⟨rfl, rfl⟩
      · rw [decide_eq_false (fun h => m1 h.1)]
        go_enter Try.func70, Try.ntmps70
        go_wp2
        go_ret
        exact ⟨rfl, rfl⟩
    clear O1 V1 b1 hC
    by_cases hn : keep < 0 ∨ (F.length : Int) < keep
    · rw [decide_eq_false (by omega)] at HIn
      have HE : Hid _ := HEb.out hn
      have HF := HSame.out w1 5 HV1.out
      have kf := set2 HV1.out.res (.slice so xs.length sc) (.slice po us.length pc)
      have g0 := cell_of kf (i := 0) rfl
      have g1 := cell_of kf (i := 1) rfl
      clear kf
      go_wp2_with fail
      refine HIn.out.mono ?_
      rintro e w2 ⟨rfl, hw2⟩
      have hw2' := hw2.symm
      clear hw2
      subst hw2'
      go_wp2
      exact bodyPost_ret (v := .tuple #[.agg #[.slice so xs.length sc, .slice po us.length pc], .int .i64 5]) (by simp [results, Try.results49, go_sem, g0, g1]) rfl (by rw [HE.out]; exact HF)
    · rw [decide_eq_true (by omega)] at HIn
      obtain ⟨K, rfl⟩ := Int.eq_ofNat_of_zero_le (show 0 ≤ keep by omega)
      have hKF : K ≤ F.length := by omega
      have HE : Hid _ := HEg.out K rfl (by omega)
      have j1 : (K : Int) ≤ c1 := by omega
      have j0 : (0 : Int) ≤ K := by omega
      have kf := set2 HV1.out.res (.slice o1 K c1) (.slice none 0 0)
      have g0 := cell_of kf (i := 0) rfl
      have g1 := cell_of kf (i := 1) rfl
      have HF := HLeft.out w1 (F.take K) o1 K c1 0 HV1.out (pre_rdT (own_set2 HO1.out HV1.out.res (by decide) _ _) hKF)
      clear kf
      go_wp2_with fail
      refine HIn.out.mono ?_
      rintro e w2 ⟨rfl, hw2⟩
      have hw2' := hw2.symm
      clear hw2
      subst hw2'
      go_wp2
      exact bodyPost_ret (v := .tuple #[.agg #[.slice o1 K c1, .slice none 0 0], .int .i64 0]) (by simp [results, Try.results49, go_sem, g0, g1]) rfl (by rw [HE.out]; exact HF)
  have q4 : (kind == 4) = false := beq_eq_false_iff_ne.2 h4
  have HE : Hid (stepD xs cs ⟨kind, keep, torn, ys⟩ = (xs, cs, 3)) := by unfold Hid stepD; rw [if_neg h1, if_neg h2, if_neg h3, if_neg h4]
  have HF := HSame.out W0 3 HV0.out
  clear kf
  go_enter Try.func49, Try.ntmps49
  go_wp2
  exact bodyPost_ret (v := .tuple #[.agg #[.slice so xs.length sc, .slice po us.length pc], .int .i64 3]) (by simp [results, Try.results49, go_sem, g0, g1]) rfl (by rw [HE.out]; exact HF)
end Go.Proofs.Ytipcdioolafkpaa.specact

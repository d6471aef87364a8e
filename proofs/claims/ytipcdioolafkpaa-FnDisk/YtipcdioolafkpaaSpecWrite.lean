/- Contract of the specification's act on a disk: a write that would be too much; and appends within a region that say what they leave alone. -/
import Derived.Test.YtipcdioolafkpaaSpecAct
import Derived.Test.YtipcdioolafkpaaSpecFeed
namespace Go.Proofs.Ytipcdioolafkpaa.specwrite
open Go.ChangeShapes Go.WideShapes Go.ChangeAt Go.RowKit
open Go.Proofs.Ytipcdioolafkpaa.bytes Go.Proofs.Ytipcdioolafkpaa.pile Go.Proofs.Ytipcdioolafkpaa.reader Go.Proofs.Ytipcdioolafkpaa.lists Go.Proofs.Ytipcdioolafkpaa.sizes Go.Proofs.Ytipcdioolafkpaa.marked Go.Proofs.Ytipcdioolafkpaa.disks Go.Proofs.Ytipcdioolafkpaa.diskmarks Go.Proofs.Ytipcdioolafkpaa.specdisk Go.Proofs.Ytipcdioolafkpaa.tracks Go.Proofs.Ytipcdioolafkpaa.trackof Go.Proofs.Ytipcdioolafkpaa.crashes Go.Proofs.Ytipcdioolafkpaa.crashed Go.Proofs.Ytipcdioolafkpaa.acts Go.Proofs.Ytipcdioolafkpaa.diskof Go.Proofs.Ytipcdioolafkpaa.beside Go.Proofs.Ytipcdioolafkpaa.doside Go.Proofs.Ytipcdioolafkpaa.implrun Go.Proofs.Ytipcdioolafkpaa.speccrash Go.Proofs.Ytipcdioolafkpaa.specact
set_option linter.unusedVariables false

/-- Rows of another type stay, and rows in another block. -/
structure Grew (t base : Nat) (row : Option Nat) (w w' : World) : Prop where
  other : ∀ b e v n us, e ≠ t → w.ownsRow b e 1 v n us → w'.ownsRow b e 1 v n us
  apart : ∀ b e v n us, v.ownBlock ≠ row → w.ownsRow b e 1 v n us → w'.ownsRow b e 1 v n us
  below : ∀ w0, Below base w0 w → Below base w0 w'
  size : w.heap.size ≤ w'.heap.size
theorem grew_of {t b0 : Nat} {v0 : Value} {n0 : Nat} {us0 : List Value} {w w' : World} (h : w.ownsRow b0 t 1 v0 n0 us0) (hg : w.grownBy w' v0.ownBlock) (hB : b0 ≤ w.heap.size) : Grew t b0 v0.ownBlock w w' where
  other := fun b e v n us hne ho => World.ownsRow.kept ho hg (rows_apart ho h hne)
  apart := fun b e v n us hne ho => World.ownsRow.kept ho hg (.inr hne)
  below := fun w0 hb => hb.grown hg hB (fun k hk => (World.ownsRow.lt h k hk).1)
  size := hg.size

theorem step_bytes {P : Program} (w : World) {ops : Array Oper} {o : Oper} {a : Act} {K : Act → World → Prop} {Q : Exit → Act → World → Prop} {E : Prop} (hgd : o.guard = none) (s x : Operand) (t : TypeId)
    (ho : o.op = .call { callee := .builtin .append, args := #[s, x], argTypes := #[t, t] }) (ht : P.underlying t = some (.slice 5))
    (hi : (P.info? 5).map (fun i => (i.zero, i.size, i.bytes)) = some (some (.int .u8 0), 1, 1))
    (base : Nat) (v : Value) (hs : a.eval s = v) (hown : w.ownsRow base 5 1 v 0 []) (u : Value) (ys : List Int) (hx : a.eval x = u) (hr : RdA w u ys)
    (hlen : ys.length ≤ 140737488355328) (hbase : base ≤ w.heap.size)
    (h : ∀ o' c' w', Own w' base (.slice o' ys.length c') ys → Grew 5 base v.ownBlock w w' → K (a.put o.dst (.slice o' ys.length c')) w') :
    if Region.wanted o (yielded ops a.tmps) = true then Oper.wp P o a w K Q else E :=
  step_append_rd w hgd s x t ho ht hi base v [] hs ⟨by simp, hown⟩ u ys hx hr (by simpa using hlen) hbase (fun v' w' hO hg => by
    have hO' : Own w' base v' ys := by simpa using hO
    obtain ⟨o', c', e, _⟩ := hO'.rd
    subst e
    exact h o' c' w' hO' (grew_of hown hg hbase))

theorem step_rows {P : Program} (w : World) {ops : Array Oper} {o : Oper} {a : Act} {K : Act → World → Prop} {Q : Exit → Act → World → Prop} {E : Prop} (hgd : o.guard = none) (s x : Operand) (t : TypeId)
    (ho : o.op = .call { callee := .builtin .append, args := #[s, x], argTypes := #[t, t] }) (ht : P.underlying t = some (.slice 22))
    (hi : (P.info? 22).map (fun i => (i.zero, i.size, i.bytes)) = some (some (.slice none 0 0), 1, 24))
    (base : Nat) (v : Value) (us : List Value) (hs : a.eval s = v) (hown : w.ownsRow base 22 1 v us.length us) (u : Value) (vs : List Value) (hx : a.eval x = u) (hr : RdS w u vs) (hnil : ∀ n c, u = .slice none n c → u = .slice none 0 0) (h1 : ∀ y ∈ vs, y.oneCell' = true)
    (hlen : us.length + vs.length ≤ 1099511627776) (hbase : base ≤ w.heap.size)
    (h : ∀ o' c' w', w'.ownsRow base 22 1 (.slice o' (us ++ vs).length c') (us ++ vs).length (us ++ vs) → Grew 22 base v.ownBlock w w' → K (a.put o.dst (.slice o' (us ++ vs).length c')) w') :
    if Region.wanted o (yielded ops a.tmps) = true then Oper.wp P o a w K Q else E := by
  have hw : Region.wanted o (yielded ops a.tmps) = true := by simp [Region.wanted, hgd]
  rw [if_pos hw]
  have h' : ∀ v' w', w'.ownsRow base 22 1 v' (us ++ vs).length (us ++ vs) → w.grownBy w' v.ownBlock → K (a.put o.dst v') w' := fun v' w' hO hg => by
    have hf : ∃ o' c', v' = .slice o' (us ++ vs).length c' := by
      obtain ⟨_, ⟨e, h2⟩ | ⟨g, c, cur, e, _⟩⟩ := hO
      · exact ⟨none, 0, by rw [e, h2]⟩
      · exact ⟨_, _, e⟩
    obtain ⟨o', c', rfl⟩ := hf
    exact h o' c' w' hO (grew_of hown hg hbase)
  obtain ⟨i0, hi1, hz0, hz1, hz2⟩ := info_parts hi
  obtain ⟨ao, cap, rfl, g1, g2, g4⟩ := hr
  cases ao with
  | none =>
    have e := hnil _ _ rfl
    simp only [Value.slice.injEq, true_and] at e
    have hvs : vs = [] := List.length_eq_zero_iff.1 e.1
    subst hvs
    obtain rfl : cap = 0 := e.2
    have hrun := run_append_owned_none (P := P) (w := w) base t o.type 22 i0 1 ht hi1 v us.length _ hown
    have hK := h' v w (by simpa using hown) (World.grownBy.refl _ _)
    unfold Oper.wp
    simp only [List.length_nil] at hx
    simp [execOp, ho, resolve, invoke, builtin, hs, hx, hrun, Result.andThen]
    exact hK
  | some ad =>
    refine wp_append_own w s x t ho base 22 i0 (.slice none 0 0) 1 24 ht hi1 hz0 hz1 hz2 rfl (by decide) v us.length _ hs hown ad vs.length cap vs hx (by simp) ?_ h1 (by unfold maxLen; omega) (by omega) hbase ?_
    · intro j y hy
      have hj : j < vs.length := (List.getElem?_eq_some_iff.1 hy).1
      obtain ⟨b, off, e, hc⟩ := g4 (by omega)
      simp only [Option.some.injEq] at e
      subst e
      rw [add_at, hc j hj]
      simp [List.getD_eq_getElem?_getD, hy]
    · intro v' w' hown' hgrow _
      refine h' v' w' ?_ hgrow
      rw [List.length_append]
      exact hown'

theorem info22w : (Try.prog.info? 22).map (fun i => (i.zero, i.size, i.bytes)) = some (some (.slice none 0 0), 1, 24) := by kernel_rfl
theorem lit0 (w : World) {base t K : Nat} (h : base ≤ w.heap.size) (hK : w.heap.size = K) : (w.alloc (.cells #[] t)).ownsRow base t 1 (.slice (some ⟨K, 0, none⟩) 0 0) 0 [] := by
  subst hK
  exact World.ownsRow_lit _ #[] 0 h (by simp [maxLen]) (by simp)
theorem lit1 (w : World) {base t K : Nat} {v : Value} (h : base ≤ w.heap.size) (hK : w.heap.size = K) : (w.alloc (.cells #[v] t)).ownsRow base t 1 (.slice (some ⟨K, 0, none⟩) 1 1) 1 [v] := by
  subst hK
  exact World.ownsRow_lit _ #[v] 1 h (by simp [maxLen]) (by simp)
theorem row_rdS' {w : World} {base : Nat} {a : Value} {n : Nat} {us : List Value} (h : w.ownsRow base 22 1 a n us) (hn : us.length = n) : RdS w a us := by
  subst hn
  exact row_rdS h
theorem texts_one {w : World} {us : List Value} {cs : List (List Int)} (h : Texts w us cs) : ∀ y ∈ us, y.oneCell' = true := by
  intro y hy
  obtain ⟨i, hi, rfl⟩ := List.getElem_of_mem hy
  obtain ⟨⟨ao, c, e, _⟩, _⟩ := h.2 i hi
  have e2 : us.getD i (.slice none 0 0) = us[i] := by simp [List.getD_eq_getElem?_getD, hi]
  rw [e2] at e
  rw [e]
  rfl

set_option maxRecDepth 20000 in
set_option maxHeartbeats 4000000 in
theorem act_over (w : World) (s p : Value) (xs : List Int) (us : List Value) (cs : List (List Int)) (h : DiskRd w s p xs us cs) (keep torn : Int) (ys : List Int) (u : Value) (hu : RdA w u ys) (hb : xs.length + cs.flatten.length ≤ 8192) (hc : us.length ≤ 200) (hf1 : ys.length ≤ 1099511627776) (hm0 : 8192 < xs.length + cs.flatten.length + ys.length) :
    Calls Try.prog 49 #[.agg #[s, p], .agg #[.int .i64 1, .int .i64 keep, .int .i64 torn, u]] w fun e w' => ActE w (stepD xs cs ⟨1, keep, torn, ys⟩) e w' := by
  have HD : Hid (DiskRd w s p xs us cs) := h
  have HU : Hid (RdA w u ys) := hu
  obtain ⟨⟨⟨so, sc, rfl, _⟩, _⟩, ⟨po, pc, rfl, _⟩, _, _⟩ := h
  obtain ⟨⟨uo, uc, rfl, hu1, hu2, _⟩, _⟩ := hu
  unfold maxLen at hu2
  obtain ⟨T, hT⟩ : ∃ T, T = cs.flatten.length := ⟨_, rfl⟩
  have HTT : Hid (T = cs.flatten.length) := hT
  rw [← hT] at hb
  have hm : 8192 < xs.length + T + ys.length := by rw [hT]; exact hm0
  clear hT hm0
  have HV0 : Hid (Vars w (.slice so xs.length sc) (.slice po us.length pc) 1 keep torn (.slice uo ys.length uc) (((w.alloc (.cells #[.slice so xs.length sc, .slice po us.length pc] 40)).alloc (.cells #[.int .i64 1, .int .i64 keep, .int .i64 torn, .slice uo ys.length uc] 76)).alloc (.cells #[.slice none 0 0, .slice none 0 0] 40))) := vars0 w _ _ 1 keep torn _
  generalize hW0 : ((w.alloc (.cells #[.slice so xs.length sc, .slice po us.length pc] 40)).alloc (.cells #[.int .i64 1, .int .i64 keep, .int .i64 torn, .slice uo ys.length uc] 76)).alloc (.cells #[.slice none 0 0, .slice none 0 0] 40) = W0 at HV0
  obtain ⟨⟨x0, x1⟩, ⟨y0, y1, y2, y3⟩, _⟩ := HV0.out.cells
  have HSz : Hid (∀ n, Calls Try.prog 67 #[.agg #[.slice so xs.length sc, .slice po us.length pc]] (W0.drewN n) fun e w' => e = .returned (.int .i64 ((xs.length : Int) + (T : Int))) ∧ Hid (Vars w (.slice so xs.length sc) (.slice po us.length pc) 1 keep torn (.slice uo ys.length uc) w') ∧ w'.cell? ⟨w.heap.size + 1, 3, none⟩ = some (.slice uo ys.length uc)) := fun n => by
    have hB : Below w.heap.size w (W0.drewN n) := below_drew' HV0.out.bel n
    rw [HTT.out]
    refine (size_any (W0.drewN n) _ _ xs us cs (HD.out.synced.below hB (Nat.le_refl _)) (HD.out.writes.below hB (Nat.le_refl _)) (HD.out.texts.below hB (Nat.le_refl _)) (by rw [← HTT.out]; omega)).mono ?_
    rintro e w' ⟨rfl, hb'⟩
    have hV := HV0.out.below (wy := w') ⟨hb'.os, hb'.tape, hb'.output, hb'.size, hb'.block⟩
    exact ⟨rfl, hV, hV.cells.2.1.2.2.2⟩
  have HE : Hid (stepD xs cs ⟨1, keep, torn, ys⟩ = (xs, cs, 7)) := by unfold Hid stepD; rw [if_pos rfl, if_pos (by rw [← HTT.out]; exact hm)]
  have hmi : (8192 : Int) - ((xs.length : Int) + (T : Int)) < (ys.length : Int) := by omega
  have hwr : IntKind.i64.wrap (8192 - ((xs.length : Int) + (T : Int))) = 8192 - ((xs.length : Int) + (T : Int)) := by rw [IntKind.wrap_i64]; omega
  go_enter Try.func49, Try.ntmps49
  go_wp2
  go_region_law (first | (go_simp; go_at_call 67; refine (HSz.out _).mono ?_; rintro e w1 ⟨rfl, HV1, c13⟩))
  all_goals
    obtain ⟨⟨v0, v1⟩, ⟨t0, t1, t2, t3⟩, z0, z1, z2, z3⟩ := HV1.out.cells
    have kf := set2 HV1.out.res (.slice so xs.length sc) (.slice po us.length pc)
    have g0 := cell_of kf (i := 0) rfl
    have g1 := cell_of kf (i := 1) rfl
    have hB := below_set2 HV1.out.bel (b := w.heap.size + 2) (by omega) (.slice so xs.length sc) (.slice po us.length pc)
    have HF : Hid (ActE w (xs, cs, 7) (.returned (.tuple #[.agg #[.slice so xs.length sc, .slice po us.length pc], .int .i64 7])) ((w1.setCell ⟨w.heap.size + 2, 0, none⟩ (.slice so xs.length sc)).setCell ⟨w.heap.size + 2, 1, none⟩ (.slice po us.length pc))) := ⟨so, xs.length, sc, po, pc, us, rfl, HD.out.below hB (Nat.le_refl _), hB⟩
    clear kf hB
    go_wp2
    exact bodyPost_ret (v := .tuple #[.agg #[.slice so xs.length sc, .slice po us.length pc], .int .i64 7]) (by simp [results, Try.results49, go_sem, g0, g1]) rfl (by rw [HE.out]; exact HF.out)
end Go.Proofs.Ytipcdioolafkpaa.specwrite

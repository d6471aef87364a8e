/- A layer that keeps what it was asked. -/
import Derived.Test.YtfpeajbfimodfaaGreatDoorAsk
namespace Go.Proofs.YtfpeajbfimodfaaGreatDoor.kn
open Go.ChangeShapes Go.WideShapes Go.ChangeAt Go.RowKit
open Go.Proofs.YtfpeajbfimodfaaGreatDoor.bytes Go.Proofs.YtfpeajbfimodfaaGreatDoor.letters Go.Proofs.YtfpeajbfimodfaaGreatDoor.read Go.Proofs.YtfpeajbfimodfaaGreatDoor.places Go.Proofs.YtfpeajbfimodfaaGreatDoor.sets Go.Proofs.YtfpeajbfimodfaaGreatDoor.leaf Go.Proofs.YtfpeajbfimodfaaGreatDoor.tz Go.Proofs.YtfpeajbfimodfaaGreatDoor.net Go.Proofs.YtfpeajbfimodfaaGreatDoor.thr Go.Proofs.YtfpeajbfimodfaaGreatDoor.ask
set_option linter.unusedVariables false

theorem info87 : (Tryz.prog.info? 87).map (fun i => (i.zero, i.size, i.bytes)) = some (some (.agg #[.int .u64 0, .int .u64 0]), 2, 16) := by kernel_rfl
theorem info4 : (Tryz.prog.info? 4).map (fun i => (i.zero, i.size, i.bytes)) = some (some (.bool false), 1, 1) := by kernel_rfl
theorem make139 (M : Nat) (hM : M ≤ 1000) (W : World) : (Instr.makeSlice 139 (.int .i64 (M : Int)) (.int .i64 (M : Int))).run Tryz.prog W = .ok (.slice (some ⟨W.heap.size, 0, none⟩) M M) (W.alloc (.cells (madeCells #[.int .u64 0, .int .u64 0] (M * 2)) 87)) := by
  obtain ⟨i0, hi, hz0, hz1, hz2⟩ := info_parts info87
  have h := run_make (P := Tryz.prog) W 139 87 i0 _ Tryz.underlying139 hi hz0 .i64 .i64 M M (by omega) (Int.le_refl _) (by rw [hz2]; omega) (by omega)
  rw [hz1, Int.toNat_natCast] at h
  exact h
theorem make140 (M : Nat) (hM : M ≤ 1000) (W : World) : (Instr.makeSlice 140 (.int .i64 (M : Int)) (.int .i64 (M : Int))).run Tryz.prog W = .ok (.slice (some ⟨W.heap.size, 0, none⟩) M M) (W.alloc (.cells (madeCells #[.bool false] (M * 1)) 4)) := by
  obtain ⟨i0, hi, hz0, hz1, hz2⟩ := info_parts info4
  have h := run_make (P := Tryz.prog) W 140 4 i0 _ Tryz.underlying140 hi hz0 .i64 .i64 M M (by omega) (Int.le_refl _) (by rw [hz2]; omega) (by omega)
  rw [hz1, Int.toNat_natCast] at h
  exact h
theorem made_at (z : Array Value) (n i : Nat) (h : i < n) : (madeCells z n)[i]? = some (z[i % z.size]!) := by simp [madeCells, h]
/-- New rows: nothing has been asked. -/
theorem row_new (g : Gr) (j : Nat) (W : World) (a d : Nat) (ha : W.heap[a]? = some (.cells (madeCells #[.int .u64 0, .int .u64 0] ((g.ts.length + 1) * 2)) 87 (0, 0))) (hd : W.heap[d]? = some (.cells (madeCells #[.bool false] ((g.ts.length + 1) * 1)) 4 (0, 0))) : Row g j W a d (fun _ => 0) (fun _ => false) where
  lo := fun p hp => by
    have h := made_at #[Value.int .u64 0, .int .u64 0] ((g.ts.length + 1) * 2) (p * 2) (by omega)
    rw [show p * 2 % (#[Value.int .u64 0, .int .u64 0] : Array Value).size = 0 by simp] at h
    simp [World.cell?, ha, h]
  hi := fun p hp => by
    have h := made_at #[Value.int .u64 0, .int .u64 0] ((g.ts.length + 1) * 2) (p * 2 + 1) (by omega)
    rw [show (p * 2 + 1) % (#[Value.int .u64 0, .int .u64 0] : Array Value).size = 1 by simp] at h
    simp [World.cell?, ha, h]
  was := fun p hp => by
    have h := made_at #[Value.bool false] ((g.ts.length + 1) * 1) p (by omega)
    rw [show p % (#[Value.bool false] : Array Value).size = 0 by simp; omega] at h
    rw [Nat.mul_one] at h
    simp [World.cell?, hd, h]
  fa := fun i => by simp [World.frozen?, ha]
  fd := fun i => by simp [World.frozen?, hd]
  right := fun p hp h => by cases h
/-- Within a call of layer k whose rows are made. -/
structure KL (g : Gr) (k : Nat) (R0 : Rws) (w : World) (a d : Nat) (X : Nat → Nat) (q : Nat → Bool) (W : World) : Prop where
  st : ∃ R, Net g R W ∧ Via g k R0 R w (w.heap.size + 1) W ∧ R k = some (a, d)
  b4 : C1 W (g.c k + 4) (.slice (some ⟨a, 0, none⟩) (g.ts.length + 1) (g.ts.length + 1)) 139
  b5 : C1 W (g.c k + 5) (.slice (some ⟨d, 0, none⟩) (g.ts.length + 1) (g.ts.length + 1)) 140
  row : Row g k W a d X q
  out : C2 W w.heap.size 0
theorem KL.drew {g : Gr} (hg : Geo g) {k : Nat} {R0 : Rws} {w W : World} {a d : Nat} {X : Nat → Nat} {q : Nat → Bool} (hN : Net g R0 w) (h : KL g k R0 w a d X q W) : KL g k R0 w a d X q W.drew := by
  obtain ⟨R, h1, h2, h3⟩ := h.st
  refine ⟨⟨R, h1.below hg (Below.refl _ W).drew, h2.trans hg hN (Nat.le_refl k) ⟨rfl, rfl, rfl, Nat.le_refl _, Nat.le_refl _, fun _ _ _ => rfl, fun j => .inl rfl⟩, h3⟩, h.b4, h.b5, h.row.same rfl rfl, h.out⟩
/-- The rows are there. -/
theorem KL.old {g : Gr} (hg : Geo g) {k : Nat} (hk : k + 1 < g.ys.length) {R0 : Rws} {w : World} (hN : Net g R0 w) {a d : Nat} (hR : R0 k = some (a, d)) : ∃ X q, KL g k R0 w a d X q (w.alloc (.cells #[.int .u64 0, .int .u64 0] 87)) := by
  have hb := (Below.refl w.heap.size w).alloc (Nat.le_refl _) (.cells #[.int .u64 0, .int .u64 0] 87)
  have hN' := hN.below hg hb
  rcases hN'.memo k hk with ⟨h0, _⟩ | ⟨a', d', h0, h1, h2, X, q, h3⟩
  · rw [h0] at hR; cases hR
  · rw [h0] at hR
    simp only [Option.some.injEq, Prod.mk.injEq] at hR
    obtain ⟨rfl, rfl⟩ := hR
    refine ⟨X, q, ⟨⟨R0, hN', ⟨rfl, rfl, rfl, by omega, by simp, fun b hb' _ => hb.block b hb', fun j => .inl rfl⟩, h0⟩, h1, h2, h3, heap_alloc_new w _⟩⟩
/-- The rows are made. -/
theorem KL.made {g : Gr} (hg : Geo g) {k : Nat} (hk : k + 1 < g.ys.length) {R0 : Rws} {w : World} (hN : Net g R0 w) (hR : R0 k = none) (W' : World) (a d : Nat)
    (hos : W'.os = w.os ∧ W'.tape = w.tape ∧ W'.output = w.output) (hz : W'.heap.size = w.heap.size + 3) (hs : ∀ b, b < w.heap.size → b ≠ g.c k + 4 → b ≠ g.c k + 5 → W'.heap[b]? = w.heap[b]?)
    (h4 : C1 W' (g.c k + 4) (.slice (some ⟨a, 0, none⟩) (g.ts.length + 1) (g.ts.length + 1)) 139) (h5 : C1 W' (g.c k + 5) (.slice (some ⟨d, 0, none⟩) (g.ts.length + 1) (g.ts.length + 1)) 140)
    (had : (a = w.heap.size + 1 ∧ d = w.heap.size + 2) ∨ (a = w.heap.size + 2 ∧ d = w.heap.size + 1)) (hr : Row g k W' a d (fun _ => 0) (fun _ => false)) (ho : C2 W' w.heap.size 0) :
    KL g k R0 w a d (fun _ => 0) (fun _ => false) W' := by
  have hn1 := hN.n1
  have hlk := hg.lay k hk
  refine ⟨⟨fun j => if j = k then some (a, d) else R0 j, ⟨?_, ?_, ?_, ?_, ?_⟩, ⟨hos.1, hos.2.1, hos.2.2, by omega, by omega, ?_, ?_⟩, by simp⟩, h4, h5, hr, ho⟩
  · exact hN.fix.same hg (fun b hb => hs b (by have := hb.1; omega) (hb.2 k hk).1 (hb.2 k hk).2)
  · omega
  · intro j hj
    by_cases e : j = k
    · subst e
      exact .inr ⟨a, d, by simp, h4, h5, _, _, hr⟩
    · have hlj := hg.lay j hj
      have hap := hg.apart j k hj hk e
      have h := (hN.memo j hj).same (w' := W') (hs _ (by omega) (by omega) (by omega)) (hs _ (by omega) (by omega) (by omega)) (fun x y hxy => by
        have := hN.rows j x y hxy
        exact ⟨hs _ (by omega) (by omega) (by omega), hs _ (by omega) (by omega) (by omega)⟩)
      rcases h with ⟨h0, h1⟩ | ⟨x, y, h0, h1⟩
      · exact .inl ⟨by simp [e, h0], h1⟩
      · exact .inr ⟨x, y, by simp [e, h0], h1⟩
  · intro j x y hj
    by_cases e : j = k
    · subst e
      simp only [if_true, Option.some.injEq, Prod.mk.injEq] at hj
      omega
    · rw [if_neg e] at hj
      have := hN.rows j x y hj
      omega
  · intro i j x y x' y' hij hi hj
    by_cases e : i = k
    · subst e
      rw [if_pos rfl] at hi
      rw [if_neg (fun e' => hij e'.symm)] at hj
      simp only [Option.some.injEq, Prod.mk.injEq] at hi
      have := hN.rows j x' y' hj
      omega
    · rw [if_neg e] at hi
      have h1 := hN.rows i x y hi
      by_cases e2 : j = k
      · subst e2
        rw [if_pos rfl] at hj
        simp only [Option.some.injEq, Prod.mk.injEq] at hj
        omega
      · rw [if_neg e2] at hj
        exact hN.apart i j x y x' y' hij hi hj
  · intro b hb hm
    exact hs b hb (fun e => hm ⟨k, Nat.le_refl _, hk, .inl e⟩) (fun e => hm ⟨k, Nat.le_refl _, hk, .inr (.inl e)⟩)
  · intro j
    by_cases e : j = k
    · subst e
      exact .inr ⟨Nat.le_refl _, hR, a, d, by simp, by omega, by omega⟩
    · exact .inl (by simp [e])
/-- A call of the layers behind. -/
theorem KL.use {g : Gr} (hg : Geo g) {k f E : Nat} (hk : k + 1 < g.ys.length) {args : Array Value} (h : Asks g (k + 1) f args E) {R0 : Rws} {w : World} (hN : Net g R0 w) {a d : Nat} {X : Nat → Nat} {q : Nat → Bool} (W : World) (hS : KL g k R0 w a d X q W) :
    Calls Tryz.prog f args W fun e w' => e = .returned (psV E) ∧ KL g k R0 w a d X q w' := by
  obtain ⟨R, hn, hv, hR⟩ := hS.st
  refine (h R W hn).mono ?_
  rintro e w' ⟨he, R2, hn2, hv2⟩
  have hrow := hn.rows k a d hR
  have hlk := hg.lay k hk
  have hW := hn.n1
  have keep : ∀ b, b = g.c k + 4 ∨ b = g.c k + 5 ∨ b = a ∨ b = d → w'.heap[b]? = W.heap[b]? := by
    intro b hb
    refine hv2.same b (by omega) ?_
    rintro ⟨j, hj1, hj2, hm⟩
    have hap := hg.apart j k hj2 hk (by omega)
    have hlj := hg.lay j hj2
    rcases hm with hm | hm | ⟨x, y, hxy, hm⟩
    · omega
    · omega
    · have h1 := hn.apart j k x y a d (by omega) hxy hR
      have h2 := hn.rows j x y hxy
      omega
  refine ⟨he, ⟨R2, hn2, hv.trans hg hN (by omega) hv2, ?_⟩, (keep _ (.inl rfl)).trans hS.b4, (keep _ (.inr (.inl rfl))).trans hS.b5, hS.row.same (keep _ (.inr (.inr (.inl rfl)))) (keep _ (.inr (.inr (.inr rfl)))), ?_⟩
  · rcases hv2.ext k with e | ⟨e1, _⟩
    · exact e.trans hR
    · omega
  · have := hv.lo
    have := hv.size
    exact (hv2.same _ (by omega) (hN.far hg hv (Nat.le_refl _) (by omega) _)).trans hS.out
def upd {α : Type} (X : Nat → α) (p : Nat) (x : α) : Nat → α := fun i => if i = p then x else X i
/-- What was asked is kept. -/
theorem KL.put {g : Gr} (hg : Geo g) {k p E : Nat} (hk : k + 1 < g.ys.length) (hp : p ≤ g.ts.length) (hE : E = restE g.ts (g.ys.drop k) p) {R0 : Rws} {w W : World} (hN : Net g R0 w) {a d : Nat} {X : Nat → Nat} {q : Nat → Bool} (hS : KL g k R0 w a d X q W) :
    KL g k R0 w a d (upd X p E) (upd q p true) (((W.setCell ⟨a, p * 2, none⟩ (.int .u64 (E : Nat))).setCell ⟨a, p * 2 + 1, none⟩ (.int .u64 0)).setCell ⟨d, p, none⟩ (.bool true)) := by
  obtain ⟨R, hn, hv, hR⟩ := hS.st
  have hrow := hn.rows k a d hR
  have hlk := hg.lay k hk
  have hW := hn.n1
  have hs : ∀ b, b ≠ a → b ≠ d → (((W.setCell ⟨a, p * 2, none⟩ (.int .u64 (E : Nat))).setCell ⟨a, p * 2 + 1, none⟩ (.int .u64 0)).setCell ⟨d, p, none⟩ (.bool true)).heap[b]? = W.heap[b]? := by
    intro b h1 h2
    rw [Below.heap_setCell _ _ _ _ (by simpa using h2), Below.heap_setCell _ _ _ _ (by simpa using h1), Below.heap_setCell _ _ _ _ (by simpa using h1)]
  have hRow : Row g k (((W.setCell ⟨a, p * 2, none⟩ (.int .u64 (E : Nat))).setCell ⟨a, p * 2 + 1, none⟩ (.int .u64 0)).setCell ⟨d, p, none⟩ (.bool true)) a d (upd X p E) (upd q p true) := by
    have r := hS.row
    refine ⟨?_, ?_, ?_, ?_, ?_, ?_⟩
    · intro i hi
      rw [World.cell?_setCell_other _ _ _ _ (by intro e; simp at e <;> omega), World.cell?_setCell_other _ _ _ _ (by intro e; simp at e <;> omega)]
      by_cases e : i = p
      · subst e
        rw [World.cell?_setCell_same' _ _ _ (by rw [r.lo i hi]; rfl)]
        simp [upd]
      · rw [World.cell?_setCell_other _ _ _ _ (by intro e'; simp at e' <;> omega), r.lo i hi]
        simp [upd, e]
    · intro i hi
      rw [World.cell?_setCell_other _ _ _ _ (by intro e; simp at e <;> omega)]
      by_cases e : i = p
      · subst e
        rw [World.cell?_setCell_same' _ _ _ (by rw [World.cell?_setCell_other _ _ _ _ (by intro e; simp at e), r.hi i hi]; rfl)]
      · rw [World.cell?_setCell_other _ _ _ _ (by intro e'; simp at e' <;> omega), World.cell?_setCell_other _ _ _ _ (by intro e'; simp at e' <;> omega), r.hi i hi]
    · intro i hi
      by_cases e : i = p
      · subst e
        rw [World.cell?_setCell_same' _ _ _ (by rw [World.cell?_setCell_other _ _ _ _ (by intro e; simp at e <;> omega), World.cell?_setCell_other _ _ _ _ (by intro e; simp at e <;> omega), r.was i hi]; rfl)]
        simp [upd]
      · rw [World.cell?_setCell_other _ _ _ _ (by intro e'; simp at e' <;> omega), World.cell?_setCell_other _ _ _ _ (by intro e; simp at e <;> omega), World.cell?_setCell_other _ _ _ _ (by intro e; simp at e <;> omega), r.was i hi]
        simp [upd, e]
    · intro i
      simp [r.fa]
    · intro i
      simp [r.fd]
    · intro i hi hq
      by_cases e : i = p
      · subst e
        simp [upd, hE]
      · simp [upd, e] at hq ⊢
        exact r.right i hi hq
  have h4 : C1 (((W.setCell ⟨a, p * 2, none⟩ (.int .u64 (E : Nat))).setCell ⟨a, p * 2 + 1, none⟩ (.int .u64 0)).setCell ⟨d, p, none⟩ (.bool true)) (g.c k + 4) (.slice (some ⟨a, 0, none⟩) (g.ts.length + 1) (g.ts.length + 1)) 139 := (hs _ (by omega) (by omega)).trans hS.b4
  have h5 : C1 (((W.setCell ⟨a, p * 2, none⟩ (.int .u64 (E : Nat))).setCell ⟨a, p * 2 + 1, none⟩ (.int .u64 0)).setCell ⟨d, p, none⟩ (.bool true)) (g.c k + 5) (.slice (some ⟨d, 0, none⟩) (g.ts.length + 1) (g.ts.length + 1)) 140 := (hs _ (by omega) (by omega)).trans hS.b5
  have hz : (((W.setCell ⟨a, p * 2, none⟩ (.int .u64 (E : Nat))).setCell ⟨a, p * 2 + 1, none⟩ (.int .u64 0)).setCell ⟨d, p, none⟩ (.bool true)).heap.size = W.heap.size := by simp
  have hB := ((Below.setCell (Below.setCell (Below.setCell (Below.refl 0 W) (p := ⟨a, p * 2, none⟩) (Nat.zero_le _) (.int .u64 (E : Nat))) (p := ⟨a, p * 2 + 1, none⟩) (Nat.zero_le _) (.int .u64 0)) (p := ⟨d, p, none⟩) (Nat.zero_le _) (.bool true)))
  generalize ((W.setCell ⟨a, p * 2, none⟩ (.int .u64 (E : Nat))).setCell ⟨a, p * 2 + 1, none⟩ (.int .u64 0)).setCell ⟨d, p, none⟩ (.bool true) = W' at *
  have hloc : w.heap.size ≠ a ∧ w.heap.size ≠ d := by
    rcases hv.ext k with e | ⟨_, _, a', d', e, e4, e5⟩
    · rw [e] at hR
      have := hN.rows k a d hR
      omega
    · rw [e] at hR
      simp only [Option.some.injEq, Prod.mk.injEq] at hR
      omega
  refine ⟨⟨R, ⟨hn.fix.same hg (fun b hb => hs b (by have := hb.1; omega) (by have := hb.1; omega)), by omega, ?_, fun j x y hj => by have := hn.rows j x y hj; omega, hn.apart⟩, ⟨hB.os.trans hv.os, hB.tape.trans hv.tape, hB.output.trans hv.output, hv.lo, by have := hv.size; omega, ?_, hv.ext⟩, hR⟩, h4, h5, hRow, (hs _ hloc.1 hloc.2).trans hS.out⟩
  · intro j hj
    by_cases e : j = k
    · subst e
      exact .inr ⟨a, d, hR, h4, h5, _, _, hRow⟩
    · have hlj := hg.lay j hj
      refine (hn.memo j hj).same (hs _ (by omega) (by omega)) (hs _ (by omega) (by omega)) (fun x y hxy => ?_)
      have := hn.apart j k x y a d e hxy hR
      exact ⟨hs _ (by omega) (by omega), hs _ (by omega) (by omega)⟩
  · intro b hb hm
    refine (hs b ?_ ?_).trans (hv.same b hb hm)
    · intro e
      rcases hv.ext k with f | ⟨_, _, a', d', f, f4, f5⟩
      · rw [f] at hR
        exact hm ⟨k, Nat.le_refl _, hk, .inr (.inr ⟨a, d, hR, .inl e⟩)⟩
      · rw [f] at hR
        simp only [Option.some.injEq, Prod.mk.injEq] at hR
        omega
    · intro e
      rcases hv.ext k with f | ⟨_, _, a', d', f, f4, f5⟩
      · rw [f] at hR
        exact hm ⟨k, Nat.le_refl _, hk, .inr (.inr ⟨a, d, hR, .inr e⟩)⟩
      · rw [f] at hR
        simp only [Option.some.injEq, Prod.mk.injEq] at hR
        omega
/-- The answer is laid into the result's variable. -/
theorem KL.done {g : Gr} (hg : Geo g) {k : Nat} {R0 : Rws} {w W : World} (hN : Net g R0 w) {a d : Nat} {X : Nat → Nat} {q : Nat → Bool} (hS : KL g k R0 w a d X q W) (E : Nat) :
    C2 ((W.setCell ⟨w.heap.size, 0, none⟩ (.int .u64 (E : Nat))).setCell ⟨w.heap.size, 1, none⟩ (.int .u64 0)) w.heap.size E ∧ St g k R0 w w.heap.size ((W.setCell ⟨w.heap.size, 0, none⟩ (.int .u64 (E : Nat))).setCell ⟨w.heap.size, 1, none⟩ (.int .u64 0)) := by
  obtain ⟨R, hn, hv, hR⟩ := hS.st
  have h : St g k R0 w (w.heap.size + 1) W := ⟨R, hn, hv⟩
  exact ⟨two_end hS.out E, St.out (St.store hg hN (St.store hg hN h _ (by simp) (by simp) _) _ (by simp) (by simp) _)⟩
end Go.Proofs.YtfpeajbfimodfaaGreatDoor.kn

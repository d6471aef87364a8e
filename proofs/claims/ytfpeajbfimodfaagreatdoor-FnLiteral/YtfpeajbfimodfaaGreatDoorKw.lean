/- A layer that keeps what it was asked: its calls. -/
import Derived.Test.YtfpeajbfimodfaaGreatDoorKn
import Derived.Deep.CutRange
import Derived.Deep.CutBlock
import Derived.Deep.DeepCutAuto
namespace Go.Proofs.YtfpeajbfimodfaaGreatDoor.kw
open Go.ChangeShapes Go.WideShapes Go.ChangeAt Go.RowKit
open Go.Proofs.YtfpeajbfimodfaaGreatDoor.bytes Go.Proofs.YtfpeajbfimodfaaGreatDoor.letters Go.Proofs.YtfpeajbfimodfaaGreatDoor.read Go.Proofs.YtfpeajbfimodfaaGreatDoor.places Go.Proofs.YtfpeajbfimodfaaGreatDoor.sets Go.Proofs.YtfpeajbfimodfaaGreatDoor.leaf Go.Proofs.YtfpeajbfimodfaaGreatDoor.tz Go.Proofs.YtfpeajbfimodfaaGreatDoor.net Go.Proofs.YtfpeajbfimodfaaGreatDoor.thr Go.Proofs.YtfpeajbfimodfaaGreatDoor.ask Go.Proofs.YtfpeajbfimodfaaGreatDoor.kn
set_option linter.unusedVariables false

theorem nil139 (W : World) : Sem.run Tryz.prog (binOp .eql 139 (.slice none 0 0) (.slice none 0 0)) W = .ok (.bool true) W := by kernel_rfl
theorem some139 (a n c : Nat) (W : World) : Sem.run Tryz.prog (binOp .eql 139 (.slice (some ⟨a, 0, none⟩) n c) (.slice none 0 0)) W = .ok (.bool false) W := by kernel_rfl
theorem madeS1 {g : Gr} (hg : Geo g) {k : Nat} (hk : k + 1 < g.ys.length) {R0 : Rws} {w : World} (hN : Net g R0 w) (hR : R0 k = none) (W1 : World) (hW1 : W1 = w.alloc (.cells #[.int .u64 0, .int .u64 0] 87)) (l : Nat) (hl : l = g.ts.length) (A D : Array Value) (hA : A = madeCells #[.int .u64 0, .int .u64 0] ((l + 1) * 2)) (hD : D = madeCells #[.bool false] ((l + 1) * 1))
    (h4 : C1 W1 (g.c k + 4) (.slice none 0 0) 139) (h5 : C1 W1 (g.c k + 5) (.slice none 0 0) 140) : KL g k R0 w W1.heap.size (W1.heap.size + 1) (fun _ => 0) (fun _ => false) (((((W1.alloc (.cells A 87)).alloc (.cells D 4)).setCell ⟨g.c k + 4, 0, none⟩ (.slice (some ⟨W1.heap.size, 0, none⟩) (l + 1) (l + 1))).setCell ⟨g.c k + 5, 0, none⟩ (.slice (some ⟨W1.heap.size + 1, 0, none⟩) (l + 1) (l + 1))).drew) := by
  have hlk := (hg.lay k hk).2.2.2.2
  have hn1 := hN.n1
  have hz : W1.heap.size = w.heap.size + 1 := by rw [hW1]; simp
  have e0 : ∀ b, b < W1.heap.size → ((W1.alloc (.cells A 87)).alloc (.cells D 4)).heap[b]? = W1.heap[b]? := fun b hb => (Below.heap_alloc _ _ _ (by simp; omega)).trans (Below.heap_alloc _ _ _ hb)
  subst hl
  have n4 : C1 ((W1.alloc (.cells A 87)).alloc (.cells D 4)) (g.c k + 4) (.slice none 0 0) 139 := (e0 _ (by omega)).trans h4
  have n5 : C1 ((W1.alloc (.cells A 87)).alloc (.cells D 4)) (g.c k + 5) (.slice none 0 0) 140 := (e0 _ (by omega)).trans h5
  have x1 : ((W1.alloc (.cells A 87)).alloc (.cells D 4)).heap[W1.heap.size]? = some (.cells A 87 (0, 0)) := (Below.heap_alloc _ _ _ (by simp)).trans (heap_alloc_new W1 _)
  have x2 : ((W1.alloc (.cells A 87)).alloc (.cells D 4)).heap[W1.heap.size + 1]? = some (.cells D 4 (0, 0)) := by
    have h := heap_alloc_new (W1.alloc (.cells A 87)) (.cells D 4)
    rw [show (W1.alloc (.cells A 87)).heap.size = W1.heap.size + 1 by simp] at h
    exact h
  have hB : Below 0 w ((W1.alloc (.cells A 87)).alloc (.cells D 4)) := (((Below.refl 0 w).trans (by rw [hW1]; exact (Below.refl 0 w).alloc (Nat.zero_le _) _)).alloc (Nat.zero_le _) _).alloc (Nat.zero_le _) _
  have hz2 : ((W1.alloc (.cells A 87)).alloc (.cells D 4)).heap.size = w.heap.size + 3 := by simp; omega
  generalize (W1.alloc (.cells A 87)).alloc (.cells D 4) = B at *
  have o5 := Below.heap_setCell (B.setCell ⟨g.c k + 4, 0, none⟩ (.slice (some ⟨W1.heap.size, 0, none⟩) (g.ts.length + 1) (g.ts.length + 1))) ⟨g.c k + 5, 0, none⟩ (.slice (some ⟨(W1.heap.size + 1), 0, none⟩) (g.ts.length + 1) (g.ts.length + 1))
  have o4 := Below.heap_setCell B ⟨g.c k + 4, 0, none⟩ (.slice (some ⟨W1.heap.size, 0, none⟩) (g.ts.length + 1) (g.ts.length + 1))
  have hB2 := ((hB.setCell (p := ⟨g.c k + 4, 0, none⟩) (Nat.zero_le _) (.slice (some ⟨W1.heap.size, 0, none⟩) (g.ts.length + 1) (g.ts.length + 1))).setCell (p := ⟨g.c k + 5, 0, none⟩) (Nat.zero_le _) (.slice (some ⟨(W1.heap.size + 1), 0, none⟩) (g.ts.length + 1) (g.ts.length + 1))).drew
  have y4 := (o5 (g.c k + 4) (by simp)).trans (n4.set (.slice (some ⟨W1.heap.size, 0, none⟩) (g.ts.length + 1) (g.ts.length + 1)))
  have y5 : C1 (B.setCell ⟨g.c k + 4, 0, none⟩ (.slice (some ⟨W1.heap.size, 0, none⟩) (g.ts.length + 1) (g.ts.length + 1))) (g.c k + 5) (.slice none 0 0) 140 := (o4 _ (by simp)).trans n5
  refine KL.made hg hk hN hR _ _ _ ⟨hB2.os, hB2.tape, hB2.output⟩ (by simp [hz2]) (fun b hb h1 h2 => ?_) y4 (y5.set _) (by omega) (row_new g k _ _ _ ?_ ?_) ?_
  · refine (o5 b h2).trans ((o4 b h1).trans ((e0 b (by omega)).trans ?_))
    rw [hW1]
    exact Below.heap_alloc _ _ _ hb
  · rw [← hA]
    exact (o5 _ (by simp; omega)).trans ((o4 _ (by simp; omega)).trans x1)
  · rw [← hD]
    exact (o5 _ (by simp; omega)).trans ((o4 _ (by simp; omega)).trans x2)
  · refine (o5 _ (by simp; omega)).trans ((o4 _ (by simp; omega)).trans ((e0 _ (by omega)).trans ?_))
    rw [hW1]
    exact heap_alloc_new w _
theorem madeS2 {g : Gr} (hg : Geo g) {k : Nat} (hk : k + 1 < g.ys.length) {R0 : Rws} {w : World} (hN : Net g R0 w) (hR : R0 k = none) (W1 : World) (hW1 : W1 = w.alloc (.cells #[.int .u64 0, .int .u64 0] 87)) (l : Nat) (hl : l = g.ts.length) (A D : Array Value) (hA : A = madeCells #[.int .u64 0, .int .u64 0] ((l + 1) * 2)) (hD : D = madeCells #[.bool false] ((l + 1) * 1))
    (h4 : C1 W1 (g.c k + 4) (.slice none 0 0) 139) (h5 : C1 W1 (g.c k + 5) (.slice none 0 0) 140) : KL g k R0 w W1.heap.size (W1.heap.size + 1) (fun _ => 0) (fun _ => false) (((((W1.alloc (.cells A 87)).setCell ⟨g.c k + 4, 0, none⟩ (.slice (some ⟨W1.heap.size, 0, none⟩) (l + 1) (l + 1))).alloc (.cells D 4)).setCell ⟨g.c k + 5, 0, none⟩ (.slice (some ⟨W1.heap.size + 1, 0, none⟩) (l + 1) (l + 1))).drew) := by
  have hlk := (hg.lay k hk).2.2.2.2
  have hn1 := hN.n1
  have hz : W1.heap.size = w.heap.size + 1 := by rw [hW1]; simp
  have e0 : ∀ b, b < W1.heap.size → (W1.alloc (.cells A 87)).heap[b]? = W1.heap[b]? := fun b hb => Below.heap_alloc _ _ _ hb
  subst hl
  have n4 : C1 (W1.alloc (.cells A 87)) (g.c k + 4) (.slice none 0 0) 139 := (e0 _ (by omega)).trans h4
  have n5 : C1 (W1.alloc (.cells A 87)) (g.c k + 5) (.slice none 0 0) 140 := (e0 _ (by omega)).trans h5
  have x1 : (W1.alloc (.cells A 87)).heap[W1.heap.size]? = some (.cells A 87 (0, 0)) := heap_alloc_new W1 _
  have hB : Below 0 w (W1.alloc (.cells A 87)) := ((Below.refl 0 w).trans (by rw [hW1]; exact (Below.refl 0 w).alloc (Nat.zero_le _) _)).alloc (Nat.zero_le _) _
  have hz2 : (W1.alloc (.cells A 87)).heap.size = w.heap.size + 2 := by simp; omega
  generalize W1.alloc (.cells A 87) = B at *
  obtain ⟨B1, hB1⟩ : ∃ B1, B1 = B.setCell ⟨g.c k + 4, 0, none⟩ (.slice (some ⟨W1.heap.size, 0, none⟩) (g.ts.length + 1) (g.ts.length + 1)) := ⟨_, rfl⟩
  have o4 : ∀ b, b ≠ g.c k + 4 → B1.heap[b]? = B.heap[b]? := by
    intro b hb
    rw [hB1]
    exact Below.heap_setCell B ⟨g.c k + 4, 0, none⟩ _ b hb
  have hz3 : B1.heap.size = w.heap.size + 2 := by rw [hB1]; simp [hz2]
  have hBB : Below 0 w B1 := by rw [hB1]; exact hB.setCell (p := ⟨g.c k + 4, 0, none⟩) (Nat.zero_le _) _
  have n4' : C1 B1 (g.c k + 4) (.slice (some ⟨W1.heap.size, 0, none⟩) (g.ts.length + 1) (g.ts.length + 1)) 139 := by rw [hB1]; exact n4.set _
  rw [← hB1]
  have al : ∀ b, b < w.heap.size + 2 → (B1.alloc (.cells D 4)).heap[b]? = B1.heap[b]? := fun b hb => Below.heap_alloc _ _ _ (by omega)
  have o5 := Below.heap_setCell (B1.alloc (.cells D 4)) ⟨g.c k + 5, 0, none⟩ (.slice (some ⟨W1.heap.size + 1, 0, none⟩) (g.ts.length + 1) (g.ts.length + 1))
  have hB2 := ((hBB.alloc (Nat.zero_le _) (.cells D 4)).setCell (p := ⟨g.c k + 5, 0, none⟩) (Nat.zero_le _) (.slice (some ⟨W1.heap.size + 1, 0, none⟩) (g.ts.length + 1) (g.ts.length + 1))).drew
  have y4 := (o5 (g.c k + 4) (by simp)).trans ((al _ (by omega)).trans n4')
  have y5 : C1 (B1.alloc (.cells D 4)) (g.c k + 5) (.slice none 0 0) 140 := (al _ (by omega)).trans ((o4 _ (by omega)).trans n5)
  have xd : (B1.alloc (.cells D 4)).heap[W1.heap.size + 1]? = some (.cells D 4 (0, 0)) := by
    have h := heap_alloc_new B1 (.cells D 4)
    rw [show B1.heap.size = W1.heap.size + 1 by omega] at h
    exact h
  refine KL.made hg hk hN hR _ _ _ ⟨hB2.os, hB2.tape, hB2.output⟩ (by simp [hz3]) (fun b hb h1 h2 => ?_) y4 (y5.set _) (by omega) (row_new g k _ _ _ ?_ ?_) ?_
  · refine (o5 b h2).trans ((al b (by omega)).trans ((o4 b h1).trans ((e0 b (by omega)).trans ?_)))
    rw [hW1]
    exact Below.heap_alloc _ _ _ hb
  · rw [← hA]
    exact (o5 _ (by simp; omega)).trans ((al _ (by omega)).trans ((o4 _ (by omega)).trans x1))
  · rw [← hD]
    exact (o5 _ (by simp; omega)).trans xd
  · refine (o5 _ (by simp; omega)).trans ((al _ (by omega)).trans ((o4 _ (by omega)).trans ((e0 _ (by omega)).trans ?_)))
    rw [hW1]
    exact heap_alloc_new w _
theorem madeS3 {g : Gr} (hg : Geo g) {k : Nat} (hk : k + 1 < g.ys.length) {R0 : Rws} {w : World} (hN : Net g R0 w) (hR : R0 k = none) (W1 : World) (hW1 : W1 = w.alloc (.cells #[.int .u64 0, .int .u64 0] 87)) (l : Nat) (hl : l = g.ts.length) (A D : Array Value) (hA : A = madeCells #[.int .u64 0, .int .u64 0] ((l + 1) * 2)) (hD : D = madeCells #[.bool false] ((l + 1) * 1))
    (h4 : C1 W1 (g.c k + 4) (.slice none 0 0) 139) (h5 : C1 W1 (g.c k + 5) (.slice none 0 0) 140) : KL g k R0 w (W1.heap.size + 1) W1.heap.size (fun _ => 0) (fun _ => false) (((((W1.alloc (.cells D 4)).alloc (.cells A 87)).setCell ⟨g.c k + 4, 0, none⟩ (.slice (some ⟨W1.heap.size + 1, 0, none⟩) (l + 1) (l + 1))).setCell ⟨g.c k + 5, 0, none⟩ (.slice (some ⟨W1.heap.size, 0, none⟩) (l + 1) (l + 1))).drew) := by
  have hlk := (hg.lay k hk).2.2.2.2
  have hn1 := hN.n1
  have hz : W1.heap.size = w.heap.size + 1 := by rw [hW1]; simp
  have e0 : ∀ b, b < W1.heap.size → ((W1.alloc (.cells D 4)).alloc (.cells A 87)).heap[b]? = W1.heap[b]? := fun b hb => (Below.heap_alloc _ _ _ (by simp; omega)).trans (Below.heap_alloc _ _ _ hb)
  subst hl
  have n4 : C1 ((W1.alloc (.cells D 4)).alloc (.cells A 87)) (g.c k + 4) (.slice none 0 0) 139 := (e0 _ (by omega)).trans h4
  have n5 : C1 ((W1.alloc (.cells D 4)).alloc (.cells A 87)) (g.c k + 5) (.slice none 0 0) 140 := (e0 _ (by omega)).trans h5
  have x1 : ((W1.alloc (.cells D 4)).alloc (.cells A 87)).heap[W1.heap.size]? = some (.cells D 4 (0, 0)) := (Below.heap_alloc _ _ _ (by simp)).trans (heap_alloc_new W1 _)
  have x2 : ((W1.alloc (.cells D 4)).alloc (.cells A 87)).heap[W1.heap.size + 1]? = some (.cells A 87 (0, 0)) := by
    have h := heap_alloc_new (W1.alloc (.cells D 4)) (.cells A 87)
    rw [show (W1.alloc (.cells D 4)).heap.size = W1.heap.size + 1 by simp] at h
    exact h
  have hB : Below 0 w ((W1.alloc (.cells D 4)).alloc (.cells A 87)) := (((Below.refl 0 w).trans (by rw [hW1]; exact (Below.refl 0 w).alloc (Nat.zero_le _) _)).alloc (Nat.zero_le _) _).alloc (Nat.zero_le _) _
  have hz2 : ((W1.alloc (.cells D 4)).alloc (.cells A 87)).heap.size = w.heap.size + 3 := by simp; omega
  generalize (W1.alloc (.cells D 4)).alloc (.cells A 87) = B at *
  have o5 := Below.heap_setCell (B.setCell ⟨g.c k + 4, 0, none⟩ (.slice (some ⟨(W1.heap.size + 1), 0, none⟩) (g.ts.length + 1) (g.ts.length + 1))) ⟨g.c k + 5, 0, none⟩ (.slice (some ⟨W1.heap.size, 0, none⟩) (g.ts.length + 1) (g.ts.length + 1))
  have o4 := Below.heap_setCell B ⟨g.c k + 4, 0, none⟩ (.slice (some ⟨(W1.heap.size + 1), 0, none⟩) (g.ts.length + 1) (g.ts.length + 1))
  have hB2 := ((hB.setCell (p := ⟨g.c k + 4, 0, none⟩) (Nat.zero_le _) (.slice (some ⟨(W1.heap.size + 1), 0, none⟩) (g.ts.length + 1) (g.ts.length + 1))).setCell (p := ⟨g.c k + 5, 0, none⟩) (Nat.zero_le _) (.slice (some ⟨W1.heap.size, 0, none⟩) (g.ts.length + 1) (g.ts.length + 1))).drew
  have y4 := (o5 (g.c k + 4) (by simp)).trans (n4.set (.slice (some ⟨(W1.heap.size + 1), 0, none⟩) (g.ts.length + 1) (g.ts.length + 1)))
  have y5 : C1 (B.setCell ⟨g.c k + 4, 0, none⟩ (.slice (some ⟨(W1.heap.size + 1), 0, none⟩) (g.ts.length + 1) (g.ts.length + 1))) (g.c k + 5) (.slice none 0 0) 140 := (o4 _ (by simp)).trans n5
  refine KL.made hg hk hN hR _ _ _ ⟨hB2.os, hB2.tape, hB2.output⟩ (by simp [hz2]) (fun b hb h1 h2 => ?_) y4 (y5.set _) (by omega) (row_new g k _ _ _ ?_ ?_) ?_
  · refine (o5 b h2).trans ((o4 b h1).trans ((e0 b (by omega)).trans ?_))
    rw [hW1]
    exact Below.heap_alloc _ _ _ hb
  · rw [← hA]
    exact (o5 _ (by simp; omega)).trans ((o4 _ (by simp; omega)).trans x2)
  · rw [← hD]
    exact (o5 _ (by simp; omega)).trans ((o4 _ (by simp; omega)).trans x1)
  · refine (o5 _ (by simp; omega)).trans ((o4 _ (by simp; omega)).trans ((e0 _ (by omega)).trans ?_))
    rw [hW1]
    exact heap_alloc_new w _
set_option maxRecDepth 20000 in
set_option maxHeartbeats 4000000 in
theorem known_call (g : Gr) (hg : Geo g) (k p : Nat) (hk : k + 1 < g.ys.length) (hp : p ≤ g.ts.length)
    (hA : Asks g (k + 1) 59 #[.int .i64 (p : Nat), .pointer (some ⟨g.x k + 1, 0, none⟩), .pointer (some ⟨g.rB, 0, none⟩), .pointer (some ⟨g.x k, 0, none⟩)] (restE g.ts (g.ys.drop k) p)) :
    Asks g k 78 #[.int .i64 (p : Nat), .pointer (some ⟨g.c k + 4, 0, none⟩), .pointer (some ⟨g.c k + 2, 0, none⟩), .pointer (some ⟨g.c k + 5, 0, none⟩), .pointer (some ⟨g.c k + 3, 0, none⟩)] (restE g.ts (g.ys.drop k) p) := by
  intro R w hN
  have hlen := hg.len
  have hn1 := hN.n1
  have hlk := hg.lay k hk
  obtain ⟨E, hE⟩ : ∃ E, E = restE g.ts (g.ys.drop k) p := ⟨_, rfl⟩
  rw [← hE] at hA ⊢
  obtain ⟨M, hM⟩ : ∃ M, M = g.ts.length + 1 := ⟨_, rfl⟩
  have hpM : (p : Int) < (M : Int) := by omega
  have HA : Hid (∀ a d X q W, KL g k R w a d X q W → Calls Tryz.prog 59 #[.int .i64 (p : Nat), .pointer (some ⟨g.x k + 1, 0, none⟩), .pointer (some ⟨g.rB, 0, none⟩), .pointer (some ⟨g.x k, 0, none⟩)] W fun e w' => e = .returned (.agg #[.int .u64 (E : Nat), .int .u64 0]) ∧ KL g k R w a d X q w') := hide (fun a d X q W h => KL.use hg hk hA hN W h)
  have HP : Hid (∀ a d X q W, KL g k R w a d X q W → KL g k R w a d (upd X p E) (upd q p true) (((W.setCell ⟨a, p * 2, none⟩ (.int .u64 (E : Nat))).setCell ⟨a, p * 2 + 1, none⟩ (.int .u64 0)).setCell ⟨d, p, none⟩ (.bool true))) := hide (fun a d X q W h => KL.put hg hk hp hE hN h)
  have HE : Hid (∀ a d X q W, KL g k R w a d X q W → C2 ((W.setCell ⟨w.heap.size, 0, none⟩ (.int .u64 (E : Nat))).setCell ⟨w.heap.size, 1, none⟩ (.int .u64 0)) w.heap.size E ∧ St g k R w w.heap.size ((W.setCell ⟨w.heap.size, 0, none⟩ (.int .u64 (E : Nat))).setCell ⟨w.heap.size, 1, none⟩ (.int .u64 0))) := hide (fun a d X q W h => KL.done hg hN h E)
  have HD : Hid (∀ a d X q W, KL g k R w a d X q W → KL g k R w a d X q W.drew) := hide (fun a d X q W h => h.drew hg hN)
  have HX : Hid (∀ a d X q W, KL g k R w a d X q W → q p = true → X p = E) := hide (fun a d X q W h hq => (h.row.right p hp hq).trans hE.symm)
  have HF : Hid (∀ a d X q W, KL g k R w a d X q W → (¬ a = d ∧ ¬ d = a ∧ ¬ a = g.c k + 5 ∧ ¬ g.c k + 5 = a) ∧ (W.cell? ⟨g.c k + 4, 0, none⟩ = some (.slice (some ⟨a, 0, none⟩) M M) ∧ W.cell? ⟨g.c k + 5, 0, none⟩ = some (.slice (some ⟨d, 0, none⟩) M M) ∧ W.cell? ⟨g.c k + 3, 0, none⟩ = some (.func (.func 59) #[] #[.pointer (some ⟨g.x k + 1, 0, none⟩), .pointer (some ⟨g.rB, 0, none⟩), .pointer (some ⟨g.x k, 0, none⟩)])) ∧ (W.cell? ⟨a, p * 2, none⟩ = some (.int .u64 (X p : Nat)) ∧ W.cell? ⟨a, p * 2 + 1, none⟩ = some (.int .u64 0) ∧ W.cell? ⟨d, p, none⟩ = some (.bool (q p))) ∧ (W.frozen? ⟨a, p * 2, none⟩ = false ∧ W.frozen? ⟨a, p * 2 + 1, none⟩ = false ∧ W.frozen? ⟨d, p, none⟩ = false) ∧ W.cell? ⟨w.heap.size, 0, none⟩ = some (.int .u64 ((0 : Nat) : Int)) ∧ W.cell? ⟨w.heap.size, 1, none⟩ = some (.int .u64 0) ∧ W.frozen? ⟨w.heap.size, 0, none⟩ = false ∧ W.frozen? ⟨w.heap.size, 1, none⟩ = false) := by
    refine hide (fun a d X q W h => ?_)
    obtain ⟨R', hn, _, hr9⟩ := h.st
    rw [hM]
    have hne := (hn.rows k a d hr9).2.2.2.2
    have hge := (hn.rows k a d hr9).1
    exact ⟨⟨hne, fun e => hne e.symm, by omega, by omega⟩, ⟨h.b4.c, h.b5.c, (hn.fix.lay k hk).2.2.2⟩, ⟨h.row.lo p hp, h.row.hi p hp, h.row.was p hp⟩, ⟨h.row.fa _, h.row.fa _, h.row.fd _⟩, h.out.c0, h.out.c1, h.out.fz 0, h.out.fz 1⟩
  clear hA
  cases hR : R k with
  | none =>
    obtain ⟨W1, hW1⟩ : ∃ W1, W1 = w.alloc (.cells #[.int .u64 0, .int .u64 0] 87) := ⟨_, rfl⟩
    have hb := (Below.refl w.heap.size w).alloc (Nat.le_refl _) (.cells #[.int .u64 0, .int .u64 0] 87)
    have hN' := hN.below hg hb
    have hm : C1 (w.alloc (.cells #[.int .u64 0, .int .u64 0] 87)) (g.c k + 4) (.slice none 0 0) 139 ∧ C1 (w.alloc (.cells #[.int .u64 0, .int .u64 0] 87)) (g.c k + 5) (.slice none 0 0) 140 := by
      rcases hN'.memo k hk with ⟨_, h1, h2⟩ | ⟨a, d, h0, _⟩
      · exact ⟨h1, h2⟩
      · rw [h0] at hR; cases hR
    have hW1z : (w.alloc (.cells #[.int .u64 0, .int .u64 0] 87)).heap.size = w.heap.size + 1 := by simp
    have m4 := hm.1.c
    have m5 := hm.2.c
    have f4 := hm.1.fz 0
    have f5 := hm.2.fz 0
    have m2 := (hN'.fix.lay k hk).2.2.1
    have hsz : (strOfNums g.ts).size = g.ts.length := strOfNums_size _
    generalize strOfNums g.ts = S at m2 hsz
    have hnil := nil139
    obtain ⟨l, hl⟩ : ∃ l, l = g.ts.length := ⟨_, rfl⟩
    rw [← hl] at hsz
    have k139 : ∀ W : World, (Instr.makeSlice 139 (.int .i64 ((l : Int) + 1)) (.int .i64 ((l : Int) + 1))).run Tryz.prog W = .ok (.slice (some ⟨W.heap.size, 0, none⟩) (l + 1) (l + 1)) (W.alloc (.cells (madeCells #[.int .u64 0, .int .u64 0] ((l + 1) * 2)) 87)) := fun W => make139 (l + 1) (by omega) W
    have k140 : ∀ W : World, (Instr.makeSlice 140 (.int .i64 ((l : Int) + 1)) (.int .i64 ((l : Int) + 1))).run Tryz.prog W = .ok (.slice (some ⟨W.heap.size, 0, none⟩) (l + 1) (l + 1)) (W.alloc (.cells (madeCells #[.bool false] ((l + 1) * 1)) 4)) := fun W => make140 (l + 1) (by omega) W
    obtain ⟨A, hA9⟩ : ∃ A, A = madeCells #[.int .u64 0, .int .u64 0] ((l + 1) * 2) := ⟨_, rfl⟩
    obtain ⟨D, hD9⟩ : ∃ D, D = madeCells #[.bool false] ((l + 1) * 1) := ⟨_, rfl⟩
    rw [← hA9] at k139
    rw [← hD9] at k140
    have hm9 := hm
    rw [← hW1] at hm9
    have HQ1 := hide (madeS1 hg hk hN hR W1 hW1 l hl A D hA9 hD9 hm9.1 hm9.2)
    have HQ2 := hide (madeS2 hg hk hN hR W1 hW1 l hl A D hA9 hD9 hm9.1 hm9.2)
    have HQ3 := hide (madeS3 hg hk hN hR W1 hW1 l hl A D hA9 hD9 hm9.1 hm9.2)
    clear hA9 hD9 hm9
    have hl22 : l ≤ 22 := by omega
    have hwl : IntKind.i64.wrap ((l : Int) + 1) = (l : Int) + 1 := by rw [IntKind.wrap_i64]; omega
    clear hl
    unfold psV
    clear hM hE
    go_enter Tryz.func78, Tryz.ntmps78
    go_upto_region 2 with fail
    rw [← hW1]
    rw [← hW1] at m2 m4 m5 f4 f5 hW1z hb hN' hm
    have hz1 := hW1z
    have al1 : ∀ (b : Nat) (o : Obj), b < w.heap.size → (W1.alloc o).heap[b]? = W1.heap[b]? := fun b o hb => Below.heap_alloc _ _ _ (by omega)
    have al2 : ∀ (b : Nat) (o o' : Obj), b < w.heap.size → ((W1.alloc o).alloc o').heap[b]? = W1.heap[b]? := fun b o o' hb => (Below.heap_alloc _ _ _ (by simp; omega)).trans (al1 b o hb)
    have a2 : ∀ o, (W1.alloc o).cell? ⟨g.c k + 2, 0, none⟩ = some (.string S) := fun o => (World.cell?_of_block (al1 (g.c k + 2) o (by omega))).trans m2
    have b2 : ∀ o o', ((W1.alloc o).alloc o').cell? ⟨g.c k + 2, 0, none⟩ = some (.string S) := fun o o' => (World.cell?_of_block (al2 (g.c k + 2) o o' (by omega))).trans m2
    have b4 : ∀ o o', ((W1.alloc o).alloc o').cell? ⟨g.c k + 4, 0, none⟩ = some (.slice none 0 0) := fun o o' => (World.cell?_of_block (al2 (g.c k + 4) o o' (by omega))).trans m4
    have b5 : ∀ o o', ((W1.alloc o).alloc o').cell? ⟨g.c k + 5, 0, none⟩ = some (.slice none 0 0) := fun o o' => (World.cell?_of_block (al2 (g.c k + 5) o o' (by omega))).trans m5
    have c4 : ∀ o o', ((W1.alloc o).alloc o').frozen? ⟨g.c k + 4, 0, none⟩ = false := fun o o' => (World.frozen?_of_block (al2 (g.c k + 4) o o' (by omega))).trans f4
    have c5 : ∀ o o', ((W1.alloc o).alloc o').frozen? ⟨g.c k + 5, 0, none⟩ = false := fun o o' => (World.frozen?_of_block (al2 (g.c k + 5) o o' (by omega))).trans f5
    have a4 : ∀ o, (W1.alloc o).cell? ⟨g.c k + 4, 0, none⟩ = some (.slice none 0 0) := fun o => (World.cell?_of_block (al1 (g.c k + 4) o (by omega))).trans m4
    have a5 : ∀ o, (W1.alloc o).cell? ⟨g.c k + 5, 0, none⟩ = some (.slice none 0 0) := fun o => (World.cell?_of_block (al1 (g.c k + 5) o (by omega))).trans m5
    have d4 : ∀ o, (W1.alloc o).frozen? ⟨g.c k + 4, 0, none⟩ = false := fun o => (World.frozen?_of_block (al1 (g.c k + 4) o (by omega))).trans f4
    have d5 : ∀ o, (W1.alloc o).frozen? ⟨g.c k + 5, 0, none⟩ = false := fun o => (World.frozen?_of_block (al1 (g.c k + 5) o (by omega))).trans f5
    have al3 : ∀ (b : Nat) (o : Obj) (v : Value) (o' : Obj), b < w.heap.size → b ≠ g.c k + 4 → (((W1.alloc o).setCell ⟨g.c k + 4, 0, none⟩ v).alloc o').heap[b]? = W1.heap[b]? := fun b o v o' hb hn => (Below.heap_alloc _ _ _ (by simp; omega)).trans ((Below.heap_setCell _ _ _ _ hn).trans (al1 b o hb))
    have g2 : ∀ o v o', (((W1.alloc o).setCell ⟨g.c k + 4, 0, none⟩ v).alloc o').cell? ⟨g.c k + 2, 0, none⟩ = some (.string S) := fun o v o' => (World.cell?_of_block (al3 (g.c k + 2) o v o' (by omega) (by omega))).trans m2
    have g5 : ∀ o v o', (((W1.alloc o).setCell ⟨g.c k + 4, 0, none⟩ v).alloc o').cell? ⟨g.c k + 5, 0, none⟩ = some (.slice none 0 0) := fun o v o' => (World.cell?_of_block (al3 (g.c k + 5) o v o' (by omega) (by omega))).trans m5
    have h5 : ∀ o v o', (((W1.alloc o).setCell ⟨g.c k + 4, 0, none⟩ v).alloc o').frozen? ⟨g.c k + 5, 0, none⟩ = false := fun o v o' => (World.frozen?_of_block (al3 (g.c k + 5) o v o' (by omega) (by omega))).trans f5
    clear hz1
    have HW1e := hide hW1
    clear hW1
    have HW1 := hide hW1z
    clear hW1z
    go_cut [] from 9 to 16 (fun wx => ∃ a d, Hid (KL g k R w a d (fun _ => 0) (fun _ => false) wx))
    case first =>
      go_region_law (fail)
      all_goals (go_wp2_with fail; go_meet)
      all_goals first | exact ⟨_, _, HQ1⟩ | exact ⟨_, _, HQ2⟩ | exact ⟨_, _, HQ3⟩
    case rest =>
      obtain ⟨a, d, HK⟩ := hcut
      obtain ⟨X, hX9⟩ : ∃ X : Nat → Nat, X = fun _ => 0 := ⟨_, rfl⟩
      obtain ⟨q, hq8⟩ : ∃ q : Nat → Bool, q = fun _ => false := ⟨_, rfl⟩
      rw [← hX9, ← hq8] at HK
      clear hX9 hq8
      have HK2 := HK
      obtain ⟨⟨had, hda, hac, hca⟩, ⟨r4, r5, r3⟩, ⟨s1, s2, s3⟩, ⟨z1, z2, z3⟩, o1, o2, o3, o4⟩ := HF.out _ _ _ _ _ HK.out
      obtain ⟨qp, hqp⟩ : ∃ b, b = q p := ⟨_, rfl⟩
      rw [← hqp] at s3
      have HXX := hide (fun h => HX.out _ _ _ _ _ HK.out h)
      rw [← hqp] at HXX
      have hq9 := hide hqp
      clear hqp
      cases qp with
      | true =>
        rw [HXX.out rfl] at s1
        have HQ := hide (HE.out _ _ _ _ _ HK.out)
        clear HXX HA HP HE HD HX HF HK HK2 hq9
        go_wp2
        exact bodyPost_ret (results_cell_row rfl _ _ w.heap.size 87 _ (0, 0) _ rfl HQ.out.1 Tryz.underlying87 rfl (size87.trans (by simp))) rfl ⟨rfl, HQ.out.2⟩
      | false =>
        have hK0 := HK.out
        clear HXX HK HK2 HX
        go_upto_region 4 with fail
        go_cut [] from 22 to 30 (fun wx => Hid (KL g k R w a d (upd X p E) (upd q p true) wx))
        case first =>
          go_region_law (first | (go_simp; go_at_call 59; with_reducible (refine (HA.out a d X q _ ?_).mono ?_); (first | exact hK0 | exact HD.out _ _ _ _ _ hK0); rintro r w2 ⟨rfl, hK2⟩; obtain ⟨_, ⟨r4b, r5b, r3b⟩, ⟨s1b, s2b, s3b⟩, ⟨z1b, z2b, z3b⟩, o1b, o2b, o3b, o4b⟩ := HF.out _ _ _ _ _ hK2))
          all_goals
            have hK3 := hide (HP.out _ _ _ _ _ hK2)
            clear HA HP HE HD HF
            go_wp2_with fail
            go_meet
            exact hK3
        case rest =>
          clear r4 r5 r3 s1 s2 s3 z1 z2 z3 o1 o2 o3 o4 hK0
          obtain ⟨_, ⟨r4, r5, r3⟩, ⟨s1, s2, s3⟩, ⟨z1, z2, z3⟩, o1, o2, o3, o4⟩ := HF.out _ _ _ _ _ hcut.out
          have HQ := hide (HE.out _ _ _ _ _ hcut.out)
          have hup : upd X p E p = E := by simp [upd]
          rw [hup] at s1
          clear HA HP HE HD HF hup hcut
          go_wp2
          exact bodyPost_ret (results_cell_row rfl _ _ w.heap.size 87 _ (0, 0) _ rfl HQ.out.1 Tryz.underlying87 rfl (size87.trans (by simp))) rfl ⟨rfl, HQ.out.2⟩
  | some ad =>
    obtain ⟨a, d⟩ := ad
    obtain ⟨X, q, hK⟩ := KL.old hg hk hN hR
    have hsome := some139
    obtain ⟨_, ⟨r4, _, _⟩, _⟩ := HF.out _ _ _ _ _ hK
    have HK := hide hK
    clear hK hM hE
    obtain ⟨W1, hW1⟩ : ∃ W1, W1 = w.alloc (.cells #[.int .u64 0, .int .u64 0] 87) := ⟨_, rfl⟩
    rw [← hW1] at HK
    unfold psV
    go_enter Tryz.func78, Tryz.ntmps78
    go_upto_region 3 with fail
    rw [← hW1]
    clear r4 hW1
    have HK2 := HK
    obtain ⟨⟨had, hda, hac, hca⟩, ⟨r4, r5, r3⟩, ⟨s1, s2, s3⟩, ⟨z1, z2, z3⟩, o1, o2, o3, o4⟩ := HF.out _ _ _ _ _ HK.out
    obtain ⟨qp, hqp⟩ : ∃ b, b = q p := ⟨_, rfl⟩
    rw [← hqp] at s3
    have HXX := hide (fun h => HX.out _ _ _ _ _ HK.out h)
    rw [← hqp] at HXX
    have hq9 := hide hqp
    clear hqp
    cases qp with
    | true =>
      rw [HXX.out rfl] at s1
      have HQ := hide (HE.out _ _ _ _ _ HK.out)
      clear HXX HA HP HE HD HX HF HK HK2 hq9
      go_wp2
      exact bodyPost_ret (results_cell_row rfl _ _ w.heap.size 87 _ (0, 0) _ rfl HQ.out.1 Tryz.underlying87 rfl (size87.trans (by simp))) rfl ⟨rfl, HQ.out.2⟩
    | false =>
      have hK0 := HK.out
      clear HXX HK HK2 HX
      go_upto_region 4 with fail
      go_cut [] from 22 to 30 (fun wx => Hid (KL g k R w a d (upd X p E) (upd q p true) wx))
      case first =>
        go_region_law (first | (go_simp; go_at_call 59; with_reducible (refine (HA.out a d X q _ ?_).mono ?_); (first | exact hK0 | exact HD.out _ _ _ _ _ hK0); rintro r w2 ⟨rfl, hK2⟩; obtain ⟨_, ⟨r4b, r5b, r3b⟩, ⟨s1b, s2b, s3b⟩, ⟨z1b, z2b, z3b⟩, o1b, o2b, o3b, o4b⟩ := HF.out _ _ _ _ _ hK2))
        all_goals
          have hK3 := hide (HP.out _ _ _ _ _ hK2)
          clear HA HP HE HD HF
          go_wp2_with fail
          go_meet
          exact hK3
      case rest =>
        clear r4 r5 r3 s1 s2 s3 z1 z2 z3 o1 o2 o3 o4 hK0
        obtain ⟨_, ⟨r4, r5, r3⟩, ⟨s1, s2, s3⟩, ⟨z1, z2, z3⟩, o1, o2, o3, o4⟩ := HF.out _ _ _ _ _ hcut.out
        have HQ := hide (HE.out _ _ _ _ _ hcut.out)
        have hup : upd X p E p = E := by simp [upd]
        rw [hup] at s1
        clear HA HP HE HD HF hup hcut
        go_wp2
        exact bodyPost_ret (results_cell_row rfl _ _ w.heap.size 87 _ (0, 0) _ rfl HQ.out.1 Tryz.underlying87 rfl (size87.trans (by simp))) rfl ⟨rfl, HQ.out.2⟩
end Go.Proofs.YtfpeajbfimodfaaGreatDoor.kw

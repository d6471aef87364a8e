/- What a layer asks: the letter, and through it the rest behind it. -/
import Derived.Test.YtfpeajbfimodfaaGreatDoorThr
namespace Go.Proofs.YtfpeajbfimodfaaGreatDoor.ask
open Go.ChangeShapes Go.WideShapes Go.ChangeAt Go.RowKit
open Go.Proofs.YtfpeajbfimodfaaGreatDoor.bytes Go.Proofs.YtfpeajbfimodfaaGreatDoor.letters Go.Proofs.YtfpeajbfimodfaaGreatDoor.read Go.Proofs.YtfpeajbfimodfaaGreatDoor.places Go.Proofs.YtfpeajbfimodfaaGreatDoor.sets Go.Proofs.YtfpeajbfimodfaaGreatDoor.leaf Go.Proofs.YtfpeajbfimodfaaGreatDoor.tz Go.Proofs.YtfpeajbfimodfaaGreatDoor.net Go.Proofs.YtfpeajbfimodfaaGreatDoor.thr
set_option linter.unusedVariables false

/-- Within a call with one variable of its own. -/
structure AL (g : Gr) (k : Nat) (R : Rws) (w : World) (x : Nat) (W : World) : Prop where
  st : St g k R w (w.heap.size + 1) W
  out : C2 W w.heap.size x
theorem AL.drew {g : Gr} (hg : Geo g) {k : Nat} {R : Rws} {w W : World} {x : Nat} (hN : Net g R w) (h : AL g k R w x W) : AL g k R w x W.drew := ⟨h.st.drew hg hN, h.out⟩
theorem AL.below {g : Gr} (hg : Geo g) {k : Nat} {R : Rws} {w W W' : World} {x : Nat} (hN : Net g R w) (h : AL g k R w x W) (hb : Below W.heap.size W W') : AL g k R w x W' := by
  have := h.st.hi
  exact ⟨h.st.below hg hN hb, (hb.block _ (by omega)).trans h.out⟩
theorem AL.put {g : Gr} (hg : Geo g) {k : Nat} {R : Rws} {w W : World} {x : Nat} (hN : Net g R w) (h : AL g k R w x W) (X : Nat) : AL g k R w X ((W.setCell ⟨w.heap.size, 0, none⟩ (.int .u64 (X : Nat))).setCell ⟨w.heap.size, 1, none⟩ (.int .u64 0)) :=
  ⟨St.store hg hN (St.store hg hN h.st _ (by simp) (by simp) _) _ (by simp) (by simp) _, two_end h.out X⟩
theorem AL.new {g : Gr} (hg : Geo g) {k : Nat} {R : Rws} {w : World} (hN : Net g R w) : AL g k R w 0 (w.alloc (.cells #[.int .u64 0, .int .u64 0] 87)) := by
  have h := hN.st hg k ((Below.refl w.heap.size w).alloc (Nat.le_refl _) (.cells #[.int .u64 0, .int .u64 0] 87))
  rw [show (w.alloc (.cells #[.int .u64 0, .int .u64 0] 87)).heap.size = w.heap.size + 1 by simp] at h
  exact ⟨h, heap_alloc_new w _⟩
theorem AL.use {g : Gr} (hg : Geo g) {k k' f X x : Nat} {args : Array Value} (h : Asks g k' f args X) (hk : k ≤ k') {R0 : Rws} {w : World} (hN : Net g R0 w) (W : World) (hS : AL g k R0 w x W) :
    Calls Tryz.prog f args W fun e w' => e = .returned (psV X) ∧ AL g k R0 w x w' := by
  refine (h.use hg hk hN W hS.st).mono ?_
  rintro r w' ⟨h1, h2, h3, h4⟩
  exact ⟨h1, h2, (h3 _ (Nat.le_refl _) (by omega)).trans hS.out⟩
theorem drop_cons (ys : List Int) (k : Nat) (h : k < ys.length) : ys.drop k = ys.getD k 0 :: ys.drop (k + 1) := by
  rw [List.drop_eq_getElem_cons h, List.getD_eq_getElem?_getD, List.getElem?_eq_getElem h]
  rfl
theorem restE_drop (ts ys : List Int) (k p : Nat) (h : k < ys.length) : restE ts (ys.drop k) p = if p < ts.length ∧ ts.getD p 0 = ys.getD k 0 then restE ts (ys.drop (k + 1)) (p + 1) else 0 := by
  rw [drop_cons ys k h]
  rfl

theorem thr83 (g : Gr) (hg : Geo g) (k p : Nat) (p0 p1 : Nat) (hk : k < g.ys.length) (hp : p ≤ g.ts.length) (hA : ∀ p, p ≤ g.ts.length → Asks g (k + 1) 83 #[.int .i64 (p : Nat), .pointer (some ⟨p0, 0, none⟩), .pointer (some ⟨p1, 0, none⟩)] (restE g.ts (g.ys.drop (k + 1)) p)) :
    Asks g (k + 1) 60 #[psV (endsC g.ts (g.ys.getD k 0) p), .func (.func 83) #[] #[.pointer (some ⟨p0, 0, none⟩), .pointer (some ⟨p1, 0, none⟩)]] (restE g.ts (g.ys.drop k) p) := by
  rw [restE_drop _ _ _ _ hk]
  unfold endsC
  by_cases h : p < g.ts.length ∧ g.ts.getD p 0 = g.ys.getD k 0
  · rw [if_pos h, if_pos h]
    have := hg.len
    exact through83 g hg (k + 1) (p + 1) _ p0 p1 (by omega) (restE_lt _ _ _ hg.len h.1) (hA (p + 1) h.1)
  · rw [if_neg h, if_neg h]
    intro R w hN
    refine (through_none w _ rfl).mono ?_
    rintro e w' ⟨h1, h2⟩
    exact ⟨h1, hN.st0 hg (k + 1) h2⟩
set_option maxRecDepth 20000 in
set_option maxHeartbeats 4000000 in
theorem ask83 (g : Gr) (hg : Geo g) (k p : Nat) (p0 p1 : Nat) (hk : k + 1 < g.ys.length) (hp : p ≤ g.ts.length) (hv : restV g (k + 1) = .func (.func 83) #[] #[.pointer (some ⟨p0, 0, none⟩), .pointer (some ⟨p1, 0, none⟩)]) (hA : ∀ p, p ≤ g.ts.length → Asks g (k + 1) 83 #[.int .i64 (p : Nat), .pointer (some ⟨p0, 0, none⟩), .pointer (some ⟨p1, 0, none⟩)] (restE g.ts (g.ys.drop (k + 1)) p)) :
    Asks g (k + 1) 59 #[.int .i64 (p : Nat), .pointer (some ⟨g.x k + 1, 0, none⟩), .pointer (some ⟨g.rB, 0, none⟩), .pointer (some ⟨g.x k, 0, none⟩)] (restE g.ts (g.ys.drop k) p) := by
  intro R w hN
  have hlen := hg.len
  have hfew := hg.few
  have HS := hide (AL.new (k := k + 1) hg hN)
  have HL : Hid (∀ W, AL g (k + 1) R w 0 W → Calls Tryz.prog 83 #[.int .i64 (p : Nat), .pointer (some ⟨g.tb k, 0, none⟩), .pointer (some ⟨g.fb k, 0, none⟩)] W fun e w' => e = .returned (psV (endsC g.ts (g.ys.getD k 0) p)) ∧ AL g (k + 1) R w 0 w') := by
    refine hide (fun W h => (leaf_any W _ _ (g.rb k) g.ts (g.ys.getD k 0) p hlen hp hg.bytes (h.st.net.leaf k (by omega))).mono ?_)
    rintro e w' ⟨h1, h2⟩
    exact ⟨h1, h.below hg hN h2⟩
  have HT : Hid (∀ W, AL g (k + 1) R w 0 W → Calls Tryz.prog 60 #[psV (endsC g.ts (g.ys.getD k 0) p), .func (.func 83) #[] #[.pointer (some ⟨p0, 0, none⟩), .pointer (some ⟨p1, 0, none⟩)]] W fun e w' => e = .returned (psV (restE g.ts (g.ys.drop k) p)) ∧ AL g (k + 1) R w 0 w') := hide (fun W h => AL.use hg (thr83 g hg k p p0 p1 (by omega) hp hA) (Nat.le_refl _) hN W h)
  have HF : Hid (∀ W, AL g (k + 1) R w 0 W → W.cell? ⟨g.x k, 0, none⟩ = some (.int .i64 k) ∧ W.cell? ⟨g.x k + 1, 0, none⟩ = some (.func (.func 83) #[] #[.pointer (some ⟨g.tb k, 0, none⟩), .pointer (some ⟨g.fb k, 0, none⟩)]) ∧ W.cell? ⟨g.rB, 0, none⟩ = some (.slice (some ⟨g.rR, 0, none⟩) (g.ys.length + 1) (g.ys.length + 1)) ∧ W.cell? ⟨g.rR, k + 1, none⟩ = some (.func (.func 83) #[] #[.pointer (some ⟨p0, 0, none⟩), .pointer (some ⟨p1, 0, none⟩)]) ∧ W.cell? ⟨w.heap.size, 0, none⟩ = some (.int .u64 ((0 : Nat) : Int)) ∧ W.cell? ⟨w.heap.size, 1, none⟩ = some (.int .u64 0) ∧ W.frozen? ⟨w.heap.size, 0, none⟩ = false ∧ W.frozen? ⟨w.heap.size, 1, none⟩ = false) := by
    refine hide (fun W h => ?_)
    have hF := h.st.net
    have hL := hF.lay k hk
    have hR := hF.restRow (k + 1) (by omega)
    rw [hv] at hR
    exact ⟨hL.1, hL.2.1, hF.rest, hR, h.out.c0, h.out.c1, h.out.fz 0, h.out.fz 1⟩
  have HP : Hid (∀ X : Nat, ∀ W, AL g (k + 1) R w 0 W → C2 ((W.setCell ⟨w.heap.size, 0, none⟩ (.int .u64 (X : Nat))).setCell ⟨w.heap.size, 1, none⟩ (.int .u64 0)) w.heap.size X ∧ St g (k + 1) R w w.heap.size ((W.setCell ⟨w.heap.size, 0, none⟩ (.int .u64 (X : Nat))).setCell ⟨w.heap.size, 1, none⟩ (.int .u64 0))) := hide (fun X W h => ⟨(h.put hg hN X).out, (h.put hg hN X).st.out⟩)
  have HD : Hid (∀ W, AL g (k + 1) R w 0 W → AL g (k + 1) R w 0 W.drew) := hide (fun W h => h.drew hg hN)
  generalize restE g.ts (g.ys.drop k) p = X at HT ⊢
  generalize endsC g.ts (g.ys.getD k 0) p = E at HL HT
  obtain ⟨A, hAdef⟩ : ∃ A, A = AL g (k + 1) R w 0 := ⟨_, rfl⟩
  obtain ⟨Z, hZdef⟩ : ∃ Z, Z = St g (k + 1) R w w.heap.size := ⟨_, rfl⟩
  rw [← hAdef] at HS HL HT HF HP HD
  rw [← hZdef] at HP ⊢
  clear hAdef hZdef hA hv
  obtain ⟨K, hK⟩ : ∃ K, K = k + 1 := ⟨_, rfl⟩
  have hwK : IntKind.i64.wrap ((k : Int) + 1) = (K : Int) := by rw [IntKind.wrap_i64]; omega
  rw [← hK] at HF hk
  have hk2 : (K : Int) < ((g.ys.length + 1 : Nat) : Int) := by omega
  generalize g.ys.length + 1 = M at HF hk2
  clear hK hk hfew hlen hp
  generalize g.x k = C at HF ⊢
  generalize g.rB = rB at HF ⊢
  generalize g.rR = rR at HF
  generalize g.tb k = tb at HL HF
  generalize g.fb k = fb at HL HF
  unfold psV at HL HT ⊢
  obtain ⟨r1, r2, r3, r4, r5, r6, r7, r8⟩ := HF.out _ HS.out
  have hS0 := HS.out
  clear HS hN
  go_enter Tryz.func59, Tryz.ntmps59
  go_wp2
  go_region_law (first | (go_simp; go_at_call 83; with_reducible (refine (HL.out _ ?_).mono ?_); (first | exact hS0 | exact HD.out _ hS0); rintro r w1 ⟨rfl, hS1⟩; obtain ⟨s1, s2, s3, s4, s5, s6, s7, s8⟩ := HF.out _ hS1) | (go_simp; go_at_call 60; with_reducible (refine (HT.out _ ?_).mono ?_); (first | exact hS1 | exact HD.out _ hS1); rintro r w2 ⟨rfl, hS2⟩; obtain ⟨t1, t2, t3, t4, t5, t6, t7, t8⟩ := HF.out _ hS2))
  all_goals
    have HE := hide (HP.out X w2 hS2)
    clear HL HT HF HD HP
    go_wp2
    exact bodyPost_ret (results_cell_row rfl _ _ w.heap.size 87 _ (0, 0) _ rfl HE.out.1 Tryz.underlying87 rfl (size87.trans (by simp))) rfl ⟨rfl, HE.out.2⟩

theorem thr78 (g : Gr) (hg : Geo g) (k p : Nat) (p0 p1 p2 p3 : Nat) (hk : k < g.ys.length) (hp : p ≤ g.ts.length) (hA : ∀ p, p ≤ g.ts.length → Asks g (k + 1) 78 #[.int .i64 (p : Nat), .pointer (some ⟨p0, 0, none⟩), .pointer (some ⟨p1, 0, none⟩), .pointer (some ⟨p2, 0, none⟩), .pointer (some ⟨p3, 0, none⟩)] (restE g.ts (g.ys.drop (k + 1)) p)) :
    Asks g (k + 1) 60 #[psV (endsC g.ts (g.ys.getD k 0) p), .func (.func 78) #[] #[.pointer (some ⟨p0, 0, none⟩), .pointer (some ⟨p1, 0, none⟩), .pointer (some ⟨p2, 0, none⟩), .pointer (some ⟨p3, 0, none⟩)]] (restE g.ts (g.ys.drop k) p) := by
  rw [restE_drop _ _ _ _ hk]
  unfold endsC
  by_cases h : p < g.ts.length ∧ g.ts.getD p 0 = g.ys.getD k 0
  · rw [if_pos h, if_pos h]
    have := hg.len
    exact through78 g hg (k + 1) (p + 1) _ p0 p1 p2 p3 (by omega) (restE_lt _ _ _ hg.len h.1) (hA (p + 1) h.1)
  · rw [if_neg h, if_neg h]
    intro R w hN
    refine (through_none w _ rfl).mono ?_
    rintro e w' ⟨h1, h2⟩
    exact ⟨h1, hN.st0 hg (k + 1) h2⟩
set_option maxRecDepth 20000 in
set_option maxHeartbeats 4000000 in
theorem ask78 (g : Gr) (hg : Geo g) (k p : Nat) (p0 p1 p2 p3 : Nat) (hk : k + 1 < g.ys.length) (hp : p ≤ g.ts.length) (hv : restV g (k + 1) = .func (.func 78) #[] #[.pointer (some ⟨p0, 0, none⟩), .pointer (some ⟨p1, 0, none⟩), .pointer (some ⟨p2, 0, none⟩), .pointer (some ⟨p3, 0, none⟩)]) (hA : ∀ p, p ≤ g.ts.length → Asks g (k + 1) 78 #[.int .i64 (p : Nat), .pointer (some ⟨p0, 0, none⟩), .pointer (some ⟨p1, 0, none⟩), .pointer (some ⟨p2, 0, none⟩), .pointer (some ⟨p3, 0, none⟩)] (restE g.ts (g.ys.drop (k + 1)) p)) :
    Asks g (k + 1) 59 #[.int .i64 (p : Nat), .pointer (some ⟨g.x k + 1, 0, none⟩), .pointer (some ⟨g.rB, 0, none⟩), .pointer (some ⟨g.x k, 0, none⟩)] (restE g.ts (g.ys.drop k) p) := by
  intro R w hN
  have hlen := hg.len
  have hfew := hg.few
  have HS := hide (AL.new (k := k + 1) hg hN)
  have HL : Hid (∀ W, AL g (k + 1) R w 0 W → Calls Tryz.prog 83 #[.int .i64 (p : Nat), .pointer (some ⟨g.tb k, 0, none⟩), .pointer (some ⟨g.fb k, 0, none⟩)] W fun e w' => e = .returned (psV (endsC g.ts (g.ys.getD k 0) p)) ∧ AL g (k + 1) R w 0 w') := by
    refine hide (fun W h => (leaf_any W _ _ (g.rb k) g.ts (g.ys.getD k 0) p hlen hp hg.bytes (h.st.net.leaf k (by omega))).mono ?_)
    rintro e w' ⟨h1, h2⟩
    exact ⟨h1, h.below hg hN h2⟩
  have HT : Hid (∀ W, AL g (k + 1) R w 0 W → Calls Tryz.prog 60 #[psV (endsC g.ts (g.ys.getD k 0) p), .func (.func 78) #[] #[.pointer (some ⟨p0, 0, none⟩), .pointer (some ⟨p1, 0, none⟩), .pointer (some ⟨p2, 0, none⟩), .pointer (some ⟨p3, 0, none⟩)]] W fun e w' => e = .returned (psV (restE g.ts (g.ys.drop k) p)) ∧ AL g (k + 1) R w 0 w') := hide (fun W h => AL.use hg (thr78 g hg k p p0 p1 p2 p3 (by omega) hp hA) (Nat.le_refl _) hN W h)
  have HF : Hid (∀ W, AL g (k + 1) R w 0 W → W.cell? ⟨g.x k, 0, none⟩ = some (.int .i64 k) ∧ W.cell? ⟨g.x k + 1, 0, none⟩ = some (.func (.func 83) #[] #[.pointer (some ⟨g.tb k, 0, none⟩), .pointer (some ⟨g.fb k, 0, none⟩)]) ∧ W.cell? ⟨g.rB, 0, none⟩ = some (.slice (some ⟨g.rR, 0, none⟩) (g.ys.length + 1) (g.ys.length + 1)) ∧ W.cell? ⟨g.rR, k + 1, none⟩ = some (.func (.func 78) #[] #[.pointer (some ⟨p0, 0, none⟩), .pointer (some ⟨p1, 0, none⟩), .pointer (some ⟨p2, 0, none⟩), .pointer (some ⟨p3, 0, none⟩)]) ∧ W.cell? ⟨w.heap.size, 0, none⟩ = some (.int .u64 ((0 : Nat) : Int)) ∧ W.cell? ⟨w.heap.size, 1, none⟩ = some (.int .u64 0) ∧ W.frozen? ⟨w.heap.size, 0, none⟩ = false ∧ W.frozen? ⟨w.heap.size, 1, none⟩ = false) := by
    refine hide (fun W h => ?_)
    have hF := h.st.net
    have hL := hF.lay k hk
    have hR := hF.restRow (k + 1) (by omega)
    rw [hv] at hR
    exact ⟨hL.1, hL.2.1, hF.rest, hR, h.out.c0, h.out.c1, h.out.fz 0, h.out.fz 1⟩
  have HP : Hid (∀ X : Nat, ∀ W, AL g (k + 1) R w 0 W → C2 ((W.setCell ⟨w.heap.size, 0, none⟩ (.int .u64 (X : Nat))).setCell ⟨w.heap.size, 1, none⟩ (.int .u64 0)) w.heap.size X ∧ St g (k + 1) R w w.heap.size ((W.setCell ⟨w.heap.size, 0, none⟩ (.int .u64 (X : Nat))).setCell ⟨w.heap.size, 1, none⟩ (.int .u64 0))) := hide (fun X W h => ⟨(h.put hg hN X).out, (h.put hg hN X).st.out⟩)
  have HD : Hid (∀ W, AL g (k + 1) R w 0 W → AL g (k + 1) R w 0 W.drew) := hide (fun W h => h.drew hg hN)
  generalize restE g.ts (g.ys.drop k) p = X at HT ⊢
  generalize endsC g.ts (g.ys.getD k 0) p = E at HL HT
  obtain ⟨A, hAdef⟩ : ∃ A, A = AL g (k + 1) R w 0 := ⟨_, rfl⟩
  obtain ⟨Z, hZdef⟩ : ∃ Z, Z = St g (k + 1) R w w.heap.size := ⟨_, rfl⟩
  rw [← hAdef] at HS HL HT HF HP HD
  rw [← hZdef] at HP ⊢
  clear hAdef hZdef hA hv
  obtain ⟨K, hK⟩ : ∃ K, K = k + 1 := ⟨_, rfl⟩
  have hwK : IntKind.i64.wrap ((k : Int) + 1) = (K : Int) := by rw [IntKind.wrap_i64]; omega
  rw [← hK] at HF hk
  have hk2 : (K : Int) < ((g.ys.length + 1 : Nat) : Int) := by omega
  generalize g.ys.length + 1 = M at HF hk2
  clear hK hk hfew hlen hp
  generalize g.x k = C at HF ⊢
  generalize g.rB = rB at HF ⊢
  generalize g.rR = rR at HF
  generalize g.tb k = tb at HL HF
  generalize g.fb k = fb at HL HF
  unfold psV at HL HT ⊢
  obtain ⟨r1, r2, r3, r4, r5, r6, r7, r8⟩ := HF.out _ HS.out
  have hS0 := HS.out
  clear HS hN
  go_enter Tryz.func59, Tryz.ntmps59
  go_wp2
  go_region_law (first | (go_simp; go_at_call 83; with_reducible (refine (HL.out _ ?_).mono ?_); (first | exact hS0 | exact HD.out _ hS0); rintro r w1 ⟨rfl, hS1⟩; obtain ⟨s1, s2, s3, s4, s5, s6, s7, s8⟩ := HF.out _ hS1) | (go_simp; go_at_call 60; with_reducible (refine (HT.out _ ?_).mono ?_); (first | exact hS1 | exact HD.out _ hS1); rintro r w2 ⟨rfl, hS2⟩; obtain ⟨t1, t2, t3, t4, t5, t6, t7, t8⟩ := HF.out _ hS2))
  all_goals
    have HE := hide (HP.out X w2 hS2)
    clear HL HT HF HD HP
    go_wp2
    exact bodyPost_ret (results_cell_row rfl _ _ w.heap.size 87 _ (0, 0) _ rfl HE.out.1 Tryz.underlying87 rfl (size87.trans (by simp))) rfl ⟨rfl, HE.out.2⟩

end Go.Proofs.YtfpeajbfimodfaaGreatDoor.ask

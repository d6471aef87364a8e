/- A text of letters is compiled: reading it. -/
import Derived.Test.YtfpeajbfimodfaaGreatDoorPat
import Derived.Defers
import Derived.Recover
namespace Go.Proofs.YtfpeajbfimodfaaGreatDoor.comp
open Go.ChangeShapes Go.WideShapes Go.ChangeAt Go.RowKit
open Go.Proofs.YtfpeajbfimodfaaGreatDoor.bytes Go.Proofs.YtfpeajbfimodfaaGreatDoor.pile Go.Proofs.YtfpeajbfimodfaaGreatDoor.src Go.Proofs.YtfpeajbfimodfaaGreatDoor.letters Go.Proofs.YtfpeajbfimodfaaGreatDoor.read Go.Proofs.YtfpeajbfimodfaaGreatDoor.atom Go.Proofs.YtfpeajbfimodfaaGreatDoor.pat
set_option linter.unusedVariables false

theorem size63 : (Tryz.prog.info? 63).map (·.size) = some 5 := by kernel_rfl
theorem five63 {W : World} {H : Nat} {a0 a1 a2 a3 a4 : Value} (h : W.heap[H]? = some (.cells #[a0, a1, a2, a3, a4] 63 (0, 0))) (v0 v1 v2 v3 v4 : Value) :
    (((((W.setCell ⟨H, 0, none⟩ v0).setCell ⟨H, 1, none⟩ v1).setCell ⟨H, 2, none⟩ v2).setCell ⟨H, 3, none⟩ v3).setCell ⟨H, 4, none⟩ v4).heap[H]? = some (.cells #[v0, v1, v2, v3, v4] 63 (0, 0)) := by
  have h0 := heap_setCell_same W H 0 _ 63 v0 h
  have h1 := heap_setCell_same _ H 1 _ 63 v1 h0
  have h2 := heap_setCell_same _ H 2 _ 63 v2 h1
  have h3 := heap_setCell_same _ H 3 _ 63 v3 h2
  have h4 := heap_setCell_same _ H 4 _ 63 v4 h3
  simpa using h4
set_option maxHeartbeats 2000000 in
theorem readerOf_any (w : World) (S : ByteArray) (ere : Bool) :
    Calls Tryz.prog 19 #[.string S, .bool ere] w fun e w' => e = .returned (.agg #[.string S, .bool ere, .string (strOfNums (leadOf ere)), .int .i64 0, .int .i64 0]) ∧ Below w.heap.size w w' := by
  cases ere with
  | false =>
    have HE := hide (heap_alloc_new w (.cells #[.string S, .bool false, .string ⟨#[92]⟩, .int .i64 0, .int .i64 0] 63))
    go_enter Tryz.func19, Tryz.ntmps19
    go_wp2
    exact bodyPost_ret (results_cell_row rfl _ _ w.heap.size 63 _ (0, 0) _ rfl HE.out Tryz.underlying63 rfl (size63.trans (by simp))) rfl ⟨rfl, (Below.refl _ _).alloc (Nat.le_refl _) _⟩
  | true =>
    have HE := hide (heap_alloc_new w (.cells #[.string S, .bool true, .string ⟨#[]⟩, .int .i64 0, .int .i64 0] 63))
    go_enter Tryz.func19, Tryz.ntmps19
    go_wp2
    exact bodyPost_ret (results_cell_row rfl _ _ w.heap.size 63 _ (0, 0) _ rfl HE.out Tryz.underlying63 rfl (size63.trans (by simp))) rfl ⟨rfl, (Below.refl _ _).alloc (Nat.le_refl _) _⟩

set_option maxRecDepth 20000 in
set_option maxHeartbeats 2000000 in
theorem idle18 (p q : Addr) (w : World) :
    CallsD Tryz.prog 18 #[.pointer (some p), .pointer (some q)] .returning w fun e u' w' => e = .returned (.tuple #[]) ∧ u' = .returning ∧ w' = w := by
  have hta : ∀ W : World, (Instr.typeAssert .nilIface 20 40 true).run Tryz.prog W = .ok (.tuple #[.nilIface, .bool false]) W := fun W => by kernel_rfl
  refine callsD_of_wpS Tryz.func18 rfl fun c₀ cs hu => ?_
  apply wpS_seq
  apply wpS_region
  simp [wpOpsS, go_sem, recoverD, hu, Tryz.ntmps18, Exit.thenS, hta]
  apply wpS_seq
  apply wpS_region
  simp [wpOpsS, go_sem, Exit.thenS, Array.replicate]
  refine wpS_cond (t := false) (by simp [Act.eval]) ?_
  simp only [Bool.false_eq_true, if_false]
  refine wpS_of_wp (wp_skip ?_)
  cases c₀
  simp_all [bodyPostS, results, Tryz.results18]

set_option maxHeartbeats 2000000 in
theorem read_end {w w2 : World} {g cap n B : Nat} {cs : List Value} (hrow : w2.ownsRow B 26 5 (.slice (some ⟨g, 0, none⟩) n cap) n cs) (hB : Below w.heap.size w w2) (hT : w2.heap[w.heap.size]? = some (.cells #[.int .i64 0, .int .i64 0, .int .i64 0, .string ⟨#[]⟩, .slice none 0 0] 26 (0, 0))) (hE : w2.heap[w.heap.size + 1]? = some (.cells #[.nilIface] 40 (0, 0))) (hg : w.heap.size + 2 ≤ B) :
    ((((((((w2.setCell ⟨w.heap.size, 0, none⟩ (.int .i64 7)).setCell ⟨w.heap.size, 1, none⟩ (.int .i64 0)).setCell ⟨w.heap.size, 2, none⟩ (.int .i64 0)).setCell ⟨w.heap.size, 3, none⟩ (.string ⟨#[]⟩)).setCell ⟨w.heap.size, 4, none⟩ (.slice (some ⟨g, 0, none⟩) n cap)).setCell ⟨w.heap.size + 1, 0, none⟩ .nilIface).cell? ⟨w.heap.size, 0, none⟩ = some (.int .i64 7) ∧ ((((((w2.setCell ⟨w.heap.size, 0, none⟩ (.int .i64 7)).setCell ⟨w.heap.size, 1, none⟩ (.int .i64 0)).setCell ⟨w.heap.size, 2, none⟩ (.int .i64 0)).setCell ⟨w.heap.size, 3, none⟩ (.string ⟨#[]⟩)).setCell ⟨w.heap.size, 4, none⟩ (.slice (some ⟨g, 0, none⟩) n cap)).setCell ⟨w.heap.size + 1, 0, none⟩ .nilIface).cell? ⟨w.heap.size, 1, none⟩ = some (.int .i64 0) ∧ ((((((w2.setCell ⟨w.heap.size, 0, none⟩ (.int .i64 7)).setCell ⟨w.heap.size, 1, none⟩ (.int .i64 0)).setCell ⟨w.heap.size, 2, none⟩ (.int .i64 0)).setCell ⟨w.heap.size, 3, none⟩ (.string ⟨#[]⟩)).setCell ⟨w.heap.size, 4, none⟩ (.slice (some ⟨g, 0, none⟩) n cap)).setCell ⟨w.heap.size + 1, 0, none⟩ .nilIface).cell? ⟨w.heap.size, 2, none⟩ = some (.int .i64 0) ∧ ((((((w2.setCell ⟨w.heap.size, 0, none⟩ (.int .i64 7)).setCell ⟨w.heap.size, 1, none⟩ (.int .i64 0)).setCell ⟨w.heap.size, 2, none⟩ (.int .i64 0)).setCell ⟨w.heap.size, 3, none⟩ (.string ⟨#[]⟩)).setCell ⟨w.heap.size, 4, none⟩ (.slice (some ⟨g, 0, none⟩) n cap)).setCell ⟨w.heap.size + 1, 0, none⟩ .nilIface).cell? ⟨w.heap.size, 3, none⟩ = some (.string ⟨#[]⟩) ∧ ((((((w2.setCell ⟨w.heap.size, 0, none⟩ (.int .i64 7)).setCell ⟨w.heap.size, 1, none⟩ (.int .i64 0)).setCell ⟨w.heap.size, 2, none⟩ (.int .i64 0)).setCell ⟨w.heap.size, 3, none⟩ (.string ⟨#[]⟩)).setCell ⟨w.heap.size, 4, none⟩ (.slice (some ⟨g, 0, none⟩) n cap)).setCell ⟨w.heap.size + 1, 0, none⟩ .nilIface).cell? ⟨w.heap.size, 4, none⟩ = some (.slice (some ⟨g, 0, none⟩) n cap) ∧ ((((((w2.setCell ⟨w.heap.size, 0, none⟩ (.int .i64 7)).setCell ⟨w.heap.size, 1, none⟩ (.int .i64 0)).setCell ⟨w.heap.size, 2, none⟩ (.int .i64 0)).setCell ⟨w.heap.size, 3, none⟩ (.string ⟨#[]⟩)).setCell ⟨w.heap.size, 4, none⟩ (.slice (some ⟨g, 0, none⟩) n cap)).setCell ⟨w.heap.size + 1, 0, none⟩ .nilIface).cell? ⟨w.heap.size + 1, 0, none⟩ = some .nilIface)) ∧ ((((((w2.setCell ⟨w.heap.size, 0, none⟩ (.int .i64 7)).setCell ⟨w.heap.size, 1, none⟩ (.int .i64 0)).setCell ⟨w.heap.size, 2, none⟩ (.int .i64 0)).setCell ⟨w.heap.size, 3, none⟩ (.string ⟨#[]⟩)).setCell ⟨w.heap.size, 4, none⟩ (.slice (some ⟨g, 0, none⟩) n cap)).setCell ⟨w.heap.size + 1, 0, none⟩ .nilIface).ownsRow w.heap.size 26 5 (.slice (some ⟨g, 0, none⟩) n cap) n cs ∧ Below w.heap.size w ((((((w2.setCell ⟨w.heap.size, 0, none⟩ (.int .i64 7)).setCell ⟨w.heap.size, 1, none⟩ (.int .i64 0)).setCell ⟨w.heap.size, 2, none⟩ (.int .i64 0)).setCell ⟨w.heap.size, 3, none⟩ (.string ⟨#[]⟩)).setCell ⟨w.heap.size, 4, none⟩ (.slice (some ⟨g, 0, none⟩) n cap)).setCell ⟨w.heap.size + 1, 0, none⟩ .nilIface) := by
  have k1 : ((((((w2.setCell ⟨w.heap.size, 0, none⟩ (.int .i64 7)).setCell ⟨w.heap.size, 1, none⟩ (.int .i64 0)).setCell ⟨w.heap.size, 2, none⟩ (.int .i64 0)).setCell ⟨w.heap.size, 3, none⟩ (.string ⟨#[]⟩)).setCell ⟨w.heap.size, 4, none⟩ (.slice (some ⟨g, 0, none⟩) n cap)).setCell ⟨w.heap.size + 1, 0, none⟩ .nilIface).heap[w.heap.size]? = some (.cells #[.int .i64 7, .int .i64 0, .int .i64 0, .string ⟨#[]⟩, .slice (some ⟨g, 0, none⟩) n cap] 26 (0, 0)) := by
    rw [heap_setCell_other _ ⟨w.heap.size + 1, 0, none⟩ w.heap.size _ (by simp)]
    exact five hT _ _ _ _ _
  have k2 : ((((((w2.setCell ⟨w.heap.size, 0, none⟩ (.int .i64 7)).setCell ⟨w.heap.size, 1, none⟩ (.int .i64 0)).setCell ⟨w.heap.size, 2, none⟩ (.int .i64 0)).setCell ⟨w.heap.size, 3, none⟩ (.string ⟨#[]⟩)).setCell ⟨w.heap.size, 4, none⟩ (.slice (some ⟨g, 0, none⟩) n cap)).setCell ⟨w.heap.size + 1, 0, none⟩ .nilIface).heap[w.heap.size + 1]? = some (.cells #[.nilIface] 40 (0, 0)) := by
    have h := heap_setCell_same (resW w2 w.heap.size (.slice (some ⟨g, 0, none⟩) n cap)) (w.heap.size + 1) 0 _ 40 .nilIface ((five_other w2 w.heap.size (w.heap.size + 1) (by omega) _ _ _ _ _).trans hE)
    simpa [resW] using h
  refine ⟨by simp only [World.cell?, k1, k2]; simp, ?_, ?_⟩
  · obtain ⟨h1, ⟨h2, h3⟩ | ⟨g', cap', cur, e, hb, hg', r⟩⟩ := hrow
    · simp at h2
    · simp only [Value.slice.injEq, Option.some.injEq, Addr.mk.injEq] at e
      obtain ⟨⟨rfl, _⟩, _, rfl⟩ := e
      refine ⟨h1, .inr ⟨g, cap, cur, rfl, by omega, ?_, r⟩⟩
      rw [heap_setCell_other _ ⟨w.heap.size + 1, 0, none⟩ g _ (by simp; omega), five_other _ _ _ (by omega)]
      exact hg'
  · exact ((((((hB.setCell (p := ⟨w.heap.size, 0, none⟩) (Nat.le_refl _) _).setCell (p := ⟨w.heap.size, 1, none⟩) (Nat.le_refl _) _).setCell (p := ⟨w.heap.size, 2, none⟩) (Nat.le_refl _) _).setCell (p := ⟨w.heap.size, 3, none⟩) (Nat.le_refl _) _).setCell (p := ⟨w.heap.size, 4, none⟩) (Nat.le_refl _) _).setCell (p := ⟨w.heap.size + 1, 0, none⟩) (by simp) _)

set_option maxRecDepth 20000 in
set_option maxHeartbeats 4000000 in
theorem readPattern_any (w : World) (ys : List Int) (ere : Bool) (hl : ys.length ≤ 8) (h1 : 1 ≤ ys.length) (hy : ∀ y ∈ ys, Letter y) :
    Calls Tryz.prog 12 #[.string (strOfNums ys), .bool ere] w fun e w' => ∃ g cap, e = .returned (.tuple #[.agg #[.int .i64 7, .int .i64 0, .int .i64 0, .string ⟨#[]⟩, .slice (some ⟨g, 0, none⟩) ys.length cap], .nilIface]) ∧ w'.ownsRow w.heap.size 26 5 (.slice (some ⟨g, 0, none⟩) ys.length cap) ys.length (nodes ys) ∧ Below w.heap.size w w' := by
  have hmf : ∀ (fn : Fn) (first cap : Array Value) (w : World), (Instr.makeFunc fn first cap).run Tryz.prog w = .ok (.func fn first cap) w := fun _ _ _ _ => rfl
  go_enter_defers Tryz.func12, Tryz.ntmps12
  go_wp2_with fail
  refine (readerOf_any _ _ ere).mono ?_
  rintro e w1 ⟨rfl, B1⟩
  have HPt : Hid (∀ W d, PR W d ys ere (leadOf ere) 0 → Calls Tryz.prog 20 #[.pointer (some ⟨d, 0, none⟩), .bool false] W fun e w' => ∃ g cap, e = .returned (.agg #[.int .i64 7, .int .i64 0, .int .i64 0, .string ⟨#[]⟩, .slice (some ⟨g, 0, none⟩) ys.length cap]) ∧ w'.ownsRow (W.heap.size + 1) 26 5 (.slice (some ⟨g, 0, none⟩) ys.length cap) ys.length (nodes ys) ∧ W.grownBy w' (some d)) := hide (fun W d hP => pattern_any W d ys ere hP hl h1 hy)
  go_wp2_with fail
  refine (HPt.out _ _ ⟨heap_alloc_new w1 _⟩).mono ?_
  rintro e w2 ⟨g, cap, rfl, hrow, hgr⟩
  have hs1 := B1.size
  simp at hs1
  have hs2 := hgr.size
  simp at hs2
  have hT : w2.heap[w.heap.size]? = some (.cells #[.int .i64 0, .int .i64 0, .int .i64 0, .string ⟨#[]⟩, .slice none 0 0] 26 (0, 0)) := by
    rw [hgr.block _ (by simp; omega) (by simp; omega), Below.heap_alloc w1 _ _ (by omega), B1.block _ (by simp; omega), Below.heap_alloc _ _ _ (by simp)]
    exact heap_alloc_new w _
  have hE : w2.heap[w.heap.size + 1]? = some (.cells #[.nilIface] 40 (0, 0)) := by
    rw [hgr.block _ (by simp; omega) (by simp; omega), Below.heap_alloc w1 _ _ (by omega), B1.block _ (by simp)]
    have h := heap_alloc_new (w.alloc (.cells #[.int .i64 0, .int .i64 0, .int .i64 0, .string ⟨#[]⟩, .slice none 0 0] 26)) (.cells #[.nilIface] 40)
    simpa using h
  have hB : Below w.heap.size w w2 := by
    have b0 : Below w.heap.size w ((w.alloc (.cells #[.int .i64 0, .int .i64 0, .int .i64 0, .string ⟨#[]⟩, .slice none 0 0] 26)).alloc (.cells #[.nilIface] 40)) := ((Below.refl _ _).alloc (Nat.le_refl _) _).alloc (by simp) _
    have b1 := b0.trans (B1.mono (by simp; omega))
    exact (b1.alloc b1.size _).grown hgr (by simp; omega) (fun k hk => by simp at hk; omega)
  obtain ⟨r0, r1, r2, r3, r4⟩ := res_cells hT
  have q0 := res_fz hT 0
  have q1 := res_fz hT 1
  have q2 := res_fz hT 2
  have q3 := res_fz hT 3
  have q4 := res_fz hT 4
  have e0 : w2.cell? ⟨w.heap.size + 1, 0, none⟩ = some .nilIface := by simp [World.cell?, hE]
  have f0 : w2.frozen? ⟨w.heap.size + 1, 0, none⟩ = false := by simp [World.frozen?, hE]
  have HF := hide (And.intro hrow (And.intro hB (And.intro hT hE)))
  clear hrow hB hT hE B1 hgr hy
  have HX := hide (read_end HF.out.1 HF.out.2.1 HF.out.2.2.1 HF.out.2.2.2 (by simp; omega))
  clear HF
  go_wp2
  generalize ((((((w2.setCell ⟨w.heap.size, 0, none⟩ (.int .i64 7)).setCell ⟨w.heap.size, 1, none⟩ (.int .i64 0)).setCell ⟨w.heap.size, 2, none⟩ (.int .i64 0)).setCell ⟨w.heap.size, 3, none⟩ (.string ⟨#[]⟩)).setCell ⟨w.heap.size, 4, none⟩ (.slice (some ⟨g, 0, none⟩) ys.length cap)).setCell ⟨w.heap.size + 1, 0, none⟩ .nilIface) = Wf at HX ⊢
  obtain ⟨t0, t1, t2, t3, t4, te⟩ := HX.out.1
  have HY := hide HX.out.2
  clear HX
  refine leaves_cons (f := 18) (args := #[.pointer (some ⟨w.heap.size, 0, none⟩), .pointer (some ⟨w.heap.size + 1, 0, none⟩)]) (by simp) (by simp [go_sem]) ?_
  refine (idle18 ⟨w.heap.size, 0, none⟩ ⟨w.heap.size + 1, 0, none⟩ _).mono ?_
  rintro e u' w'' ⟨rfl, rfl, hw9⟩
  replace hw9 := hw9.symm
  subst hw9
  simp [Leaves, settle, results, Tryz.results12, go_sem, t0, t1, t2, t3, t4, te]
  exact ⟨g, cap, ⟨rfl, rfl⟩, HY.out.1, HY.out.2⟩
end Go.Proofs.YtfpeajbfimodfaaGreatDoor.comp

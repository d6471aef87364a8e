/- A text of letters is compiled. -/
import Derived.Test.YtfpeajbfimodfaaGreatDoorWeigh
namespace Go.Proofs.YtfpeajbfimodfaaGreatDoor.compile
open Go.ChangeShapes Go.WideShapes Go.ChangeAt Go.RowKit
open Go.Proofs.YtfpeajbfimodfaaGreatDoor.bytes Go.Proofs.YtfpeajbfimodfaaGreatDoor.pile Go.Proofs.YtfpeajbfimodfaaGreatDoor.src Go.Proofs.YtfpeajbfimodfaaGreatDoor.letters Go.Proofs.YtfpeajbfimodfaaGreatDoor.read Go.Proofs.YtfpeajbfimodfaaGreatDoor.atom Go.Proofs.YtfpeajbfimodfaaGreatDoor.pat Go.Proofs.YtfpeajbfimodfaaGreatDoor.comp Go.Proofs.YtfpeajbfimodfaaGreatDoor.weigh
set_option linter.unusedVariables false

/-- The tree of a text of letters: a value and what it reads as. -/
def TreeV (g n cap : Nat) : Value := .agg #[.int .i64 7, .int .i64 0, .int .i64 0, .string ⟨#[]⟩, .slice (some ⟨g, 0, none⟩) n cap]
set_option maxHeartbeats 4000000 in
theorem rxok_cat (w : World) (g cap base : Nat) (ys : List Int) (hl : ys.length ≤ 8) (h1 : 1 ≤ ys.length) (hy : ∀ y ∈ ys, Letter y) (hrow : w.ownsRow base 26 5 (.slice (some ⟨g, 0, none⟩) ys.length cap) ys.length (nodes ys)) :
    Calls Tryz.prog 14 #[.agg #[.int .i64 7, .int .i64 0, .int .i64 0, .string ⟨#[]⟩, .slice (some ⟨g, 0, none⟩) ys.length cap]] w fun e w' => e = .returned (.bool true) ∧ Below w.heap.size w w' := by
  have hg := (World.ownsRow.lt hrow g rfl).2
  have HW : Hid (∀ W : World, Below w.heap.size w W → ∀ c, w.heap.size ≤ c → CK W c 0 → Calls Tryz.prog 25 #[.pointer (some ⟨c, 0, none⟩), .agg #[.int .i64 7, .int .i64 0, .int .i64 0, .string ⟨#[]⟩, .slice (some ⟨g, 0, none⟩) ys.length cap]] W fun e w' => e = .returned (.int .i64 (1 + (ys.length : Int))) ∧ CK w' c (0 + 1 + ys.length) ∧ W.grownBy w' (some c)) := by
    refine hide (fun W hW c hc hK => weigh_cat W c 0 g cap base ys hl hy hK (by omega) ?_ (by omega))
    have hlt := World.ownsRow.lt hrow
    obtain ⟨h1, h2 | ⟨g', cap', cur, e, hb, hgg, r⟩⟩ := hrow
    · exact ⟨h1, .inl h2⟩
    · simp only [Value.slice.injEq, Option.some.injEq, Addr.mk.injEq] at e
      obtain ⟨⟨rfl, _⟩, _, rfl⟩ := e
      exact ⟨h1, .inr ⟨g, cap, cur, rfl, hb, (hW.block g hg).trans hgg, r⟩⟩
  clear hrow hy
  have HB0 : Hid (Below w.heap.size w ((w.alloc (.cells #[.int .i64 7, .int .i64 0, .int .i64 0, .string ⟨#[]⟩, .slice (some ⟨g, 0, none⟩) ys.length cap] 26)).alloc (.cells #[.int .i64 0, .int .i64 0] 80))) := hide (((Below.refl _ _).alloc (Nat.le_refl _) _).alloc (by simp) _)
  have HK0 : Hid (CK ((w.alloc (.cells #[.int .i64 7, .int .i64 0, .int .i64 0, .string ⟨#[]⟩, .slice (some ⟨g, 0, none⟩) ys.length cap] 26)).alloc (.cells #[.int .i64 0, .int .i64 0] 80)) (w.heap.size + 1) 0) := by
    have h := heap_alloc_new (w.alloc (.cells #[.int .i64 7, .int .i64 0, .int .i64 0, .string ⟨#[]⟩, .slice (some ⟨g, 0, none⟩) ys.length cap] 26)) (.cells #[.int .i64 0, .int .i64 0] 80)
    rw [show (w.alloc (.cells #[.int .i64 7, .int .i64 0, .int .i64 0, .string ⟨#[]⟩, .slice (some ⟨g, 0, none⟩) ys.length cap] 26)).heap.size = w.heap.size + 1 by simp] at h
    exact hide ⟨h⟩
  have hdp : decide ((0 : Int) < 1 + (ys.length : Int)) = true := by simp; omega
  go_enter Tryz.func14, Tryz.ntmps14
  go_wp2_with fail
  refine (HW.out _ HB0.out (w.heap.size + 1) (by omega) HK0.out).mono ?_
  rintro e w1 ⟨rfl, hK, hG⟩
  have HB1 := hide (HB0.out.grown hG (by simp; omega) (fun k hk => by simp at hk; omega))
  clear hK hG HW HB0 HK0
  go_wp2
  go_ret
  exact ⟨rfl, HB1.out⟩
set_option maxHeartbeats 4000000 in
theorem groups_cat (w : World) (g cap base : Nat) (ys : List Int) (hl : ys.length ≤ 8) (h1 : 1 ≤ ys.length) (hy : ∀ y ∈ ys, Letter y) (hrow : w.ownsRow base 26 5 (.slice (some ⟨g, 0, none⟩) ys.length cap) ys.length (nodes ys)) :
    Calls Tryz.prog 26 #[.agg #[.int .i64 7, .int .i64 0, .int .i64 0, .string ⟨#[]⟩, .slice (some ⟨g, 0, none⟩) ys.length cap]] w fun e w' => e = .returned (.tuple #[.int .i64 0, .int .i64 0]) ∧ Below w.heap.size w w' := by
  have hg := (World.ownsRow.lt hrow g rfl).2
  have HW : Hid (∀ W : World, Below w.heap.size w W → ∀ c, w.heap.size ≤ c → CK W c 0 → Calls Tryz.prog 25 #[.pointer (some ⟨c, 0, none⟩), .agg #[.int .i64 7, .int .i64 0, .int .i64 0, .string ⟨#[]⟩, .slice (some ⟨g, 0, none⟩) ys.length cap]] W fun e w' => e = .returned (.int .i64 (1 + (ys.length : Int))) ∧ CK w' c (0 + 1 + ys.length) ∧ W.grownBy w' (some c)) := by
    refine hide (fun W hW c hc hK => weigh_cat W c 0 g cap base ys hl hy hK (by omega) ?_ (by omega))
    have hlt := World.ownsRow.lt hrow
    obtain ⟨h1, h2 | ⟨g', cap', cur, e, hb, hgg, r⟩⟩ := hrow
    · exact ⟨h1, .inl h2⟩
    · simp only [Value.slice.injEq, Option.some.injEq, Addr.mk.injEq] at e
      obtain ⟨⟨rfl, _⟩, _, rfl⟩ := e
      exact ⟨h1, .inr ⟨g, cap, cur, rfl, hb, (hW.block g hg).trans hgg, r⟩⟩
  clear hrow hy
  have HB0 : Hid (Below w.heap.size w ((w.alloc (.cells #[.int .i64 7, .int .i64 0, .int .i64 0, .string ⟨#[]⟩, .slice (some ⟨g, 0, none⟩) ys.length cap] 26)).alloc (.cells #[.int .i64 0, .int .i64 0] 80))) := hide (((Below.refl _ _).alloc (Nat.le_refl _) _).alloc (by simp) _)
  have HK0 : Hid (CK ((w.alloc (.cells #[.int .i64 7, .int .i64 0, .int .i64 0, .string ⟨#[]⟩, .slice (some ⟨g, 0, none⟩) ys.length cap] 26)).alloc (.cells #[.int .i64 0, .int .i64 0] 80)) (w.heap.size + 1) 0) := by
    have h := heap_alloc_new (w.alloc (.cells #[.int .i64 7, .int .i64 0, .int .i64 0, .string ⟨#[]⟩, .slice (some ⟨g, 0, none⟩) ys.length cap] 26)) (.cells #[.int .i64 0, .int .i64 0] 80)
    rw [show (w.alloc (.cells #[.int .i64 7, .int .i64 0, .int .i64 0, .string ⟨#[]⟩, .slice (some ⟨g, 0, none⟩) ys.length cap] 26)).heap.size = w.heap.size + 1 by simp] at h
    exact hide ⟨h⟩
  go_enter Tryz.func26, Tryz.ntmps26
  go_wp2_with fail
  refine (HW.out _ HB0.out (w.heap.size + 1) (by omega) HK0.out).mono ?_
  rintro e w1 ⟨rfl, hK, hG⟩
  have c1 : w1.cell? ⟨w.heap.size + 1, 1, none⟩ = some (.int .i64 0) := by simp [World.cell?, hK.blk]
  have HB1 := hide (HB0.out.grown hG (by simp; omega) (fun k hk => by simp at hk; omega))
  clear hK hG HW HB0 HK0
  go_wp2
  go_ret2
  exact ⟨rfl, HB1.out⟩
set_option maxHeartbeats 2000000 in
theorem as_nil (w : World) (v : Value) :
    Calls Tryz.prog 13 #[.nilIface, v] w fun e w' => e = .returned (.bool false) ∧ w' = w := by
  go_enter Tryz.func13, Tryz.ntmps13
  go_wp2
  go_ret
  exact ⟨rfl, rfl⟩
theorem comp_row {w w' : World} {base g cap n : Nat} {cs : List Value} (h : w.ownsRow base 26 5 (.slice (some ⟨g, 0, none⟩) n cap) n cs) (hb : Below w.heap.size w w') : w'.ownsRow base 26 5 (.slice (some ⟨g, 0, none⟩) n cap) n cs := row_keep h (r := none) ⟨hb.os, hb.tape, hb.output, hb.size, fun k hk _ => hb.block k hk⟩ (fun b _ => by simp)
set_option maxHeartbeats 2000000 in
theorem comp_end {w w3 : World} {g cap n B : Nat} {cs : List Value} (hrow : w3.ownsRow B 26 5 (.slice (some ⟨g, 0, none⟩) n cap) n cs) (hB : Below w.heap.size w w3) (hR : w3.heap[w.heap.size]? = some (.cells #[.int .i64 0, .int .i64 0, .int .i64 0, .string ⟨#[]⟩, .slice none 0 0] 26 (0, 0))) (hb : w.heap.size + 1 ≤ B) :
    (((((w3.setCell ⟨w.heap.size, 0, none⟩ (.int .i64 7)).setCell ⟨w.heap.size, 1, none⟩ (.int .i64 0)).setCell ⟨w.heap.size, 2, none⟩ (.int .i64 0)).setCell ⟨w.heap.size, 3, none⟩ (.string ⟨#[]⟩)).setCell ⟨w.heap.size, 4, none⟩ (.slice (some ⟨g, 0, none⟩) n cap)).heap[w.heap.size]? = some (.cells #[.int .i64 7, .int .i64 0, .int .i64 0, .string ⟨#[]⟩, .slice (some ⟨g, 0, none⟩) n cap] 26 (0, 0)) ∧ (((((w3.setCell ⟨w.heap.size, 0, none⟩ (.int .i64 7)).setCell ⟨w.heap.size, 1, none⟩ (.int .i64 0)).setCell ⟨w.heap.size, 2, none⟩ (.int .i64 0)).setCell ⟨w.heap.size, 3, none⟩ (.string ⟨#[]⟩)).setCell ⟨w.heap.size, 4, none⟩ (.slice (some ⟨g, 0, none⟩) n cap)).ownsRow w.heap.size 26 5 (.slice (some ⟨g, 0, none⟩) n cap) n cs ∧ Below w.heap.size w (((((w3.setCell ⟨w.heap.size, 0, none⟩ (.int .i64 7)).setCell ⟨w.heap.size, 1, none⟩ (.int .i64 0)).setCell ⟨w.heap.size, 2, none⟩ (.int .i64 0)).setCell ⟨w.heap.size, 3, none⟩ (.string ⟨#[]⟩)).setCell ⟨w.heap.size, 4, none⟩ (.slice (some ⟨g, 0, none⟩) n cap)) := by
  refine ⟨five hR _ _ _ _ _, ?_, ?_⟩
  · obtain ⟨h1, ⟨h2, h3⟩ | ⟨g', cap', cur, e, hb', hg', r⟩⟩ := hrow
    · simp at h2
    · simp only [Value.slice.injEq, Option.some.injEq, Addr.mk.injEq] at e
      obtain ⟨⟨rfl, _⟩, _, rfl⟩ := e
      refine ⟨h1, .inr ⟨g, cap, cur, rfl, by omega, ?_, r⟩⟩
      rw [five_other _ _ _ (by omega)]
      exact hg'
  · exact (((((hB.setCell (p := ⟨w.heap.size, 0, none⟩) (Nat.le_refl _) _).setCell (p := ⟨w.heap.size, 1, none⟩) (Nat.le_refl _) _).setCell (p := ⟨w.heap.size, 2, none⟩) (Nat.le_refl _) _).setCell (p := ⟨w.heap.size, 3, none⟩) (Nat.le_refl _) _).setCell (p := ⟨w.heap.size, 4, none⟩) (Nat.le_refl _) _)
set_option maxRecDepth 20000 in
set_option maxHeartbeats 4000000 in
theorem compile_any (w : World) (ys : List Int) (ere : Bool) (hl : ys.length ≤ 8) (h1 : 1 ≤ ys.length) (hy : ∀ y ∈ ys, Letter y) :
    Calls Tryz.prog 6 #[.string (strOfNums ys), .bool ere] w fun e w' => ∃ g cap, e = .returned (.tuple #[.agg #[.int .i64 7, .int .i64 0, .int .i64 0, .string ⟨#[]⟩, .slice (some ⟨g, 0, none⟩) ys.length cap], .int .i64 0, .int .i64 0]) ∧ w'.ownsRow w.heap.size 26 5 (.slice (some ⟨g, 0, none⟩) ys.length cap) ys.length (nodes ys) ∧ Below w.heap.size w w' := by
  have hs : (strOfNums ys).size = ys.length := strOfNums_size _
  have hne : ((strOfNums ys).toList == []) = false := by
    rw [Lib.strOfNums_toList]
    cases ys with
    | nil => simp at h1
    | cons y ys => rfl
  have HRp : Hid (∀ W, Calls Tryz.prog 12 #[.string (strOfNums ys), .bool ere] W fun e w' => ∃ g cap, e = .returned (.tuple #[.agg #[.int .i64 7, .int .i64 0, .int .i64 0, .string ⟨#[]⟩, .slice (some ⟨g, 0, none⟩) ys.length cap], .nilIface]) ∧ w'.ownsRow W.heap.size 26 5 (.slice (some ⟨g, 0, none⟩) ys.length cap) ys.length (nodes ys) ∧ Below W.heap.size W w') := hide (fun W => readPattern_any W ys ere hl h1 hy)
  have HOk := hide (fun W g cap base hr => rxok_cat W g cap base ys hl h1 hy hr)
  obtain ⟨S, hS⟩ : ∃ S, S = strOfNums ys := ⟨_, rfl⟩
  rw [← hS] at HRp hs hne ⊢
  clear hS hy
  go_enter Tryz.func6, Tryz.ntmps6
  go_wp2_with fail
  refine (HRp.out _).mono ?_
  rintro e w1 ⟨g, cap, rfl, hrow, hB⟩
  have hs1 := hB.size
  simp at hs1
  have HRow : Hid (((w1.alloc (.cells #[.int .i64 7, .int .i64 0, .int .i64 0, .string ⟨#[]⟩, .slice (some ⟨g, 0, none⟩) ys.length cap] 26)).alloc (.cells #[.int .i64 0, .int .i64 0] 44)).ownsRow (w.alloc (.cells #[.int .i64 0, .int .i64 0, .int .i64 0, .string ⟨#[]⟩, .slice none 0 0] 26)).heap.size 26 5 (.slice (some ⟨g, 0, none⟩) ys.length cap) ys.length (nodes ys)) := hide (World.ownsRow.alloc (World.ownsRow.alloc hrow _) _)
  have HT : Hid (((w1.alloc (.cells #[.int .i64 7, .int .i64 0, .int .i64 0, .string ⟨#[]⟩, .slice (some ⟨g, 0, none⟩) ys.length cap] 26)).alloc (.cells #[.int .i64 0, .int .i64 0] 44)).heap[w1.heap.size]? = some (.cells #[.int .i64 7, .int .i64 0, .int .i64 0, .string ⟨#[]⟩, .slice (some ⟨g, 0, none⟩) ys.length cap] 26 (0, 0)) ∧ ((w1.alloc (.cells #[.int .i64 7, .int .i64 0, .int .i64 0, .string ⟨#[]⟩, .slice (some ⟨g, 0, none⟩) ys.length cap] 26)).alloc (.cells #[.int .i64 0, .int .i64 0] 44)).heap[w.heap.size]? = some (.cells #[.int .i64 0, .int .i64 0, .int .i64 0, .string ⟨#[]⟩, .slice none 0 0] 26 (0, 0)) ∧ Below w.heap.size w ((w1.alloc (.cells #[.int .i64 7, .int .i64 0, .int .i64 0, .string ⟨#[]⟩, .slice (some ⟨g, 0, none⟩) ys.length cap] 26)).alloc (.cells #[.int .i64 0, .int .i64 0] 44))) := by
    refine hide ⟨?_, ?_, ?_⟩
    · rw [Below.heap_alloc _ _ _ (by simp)]
      exact heap_alloc_new w1 _
    · rw [Below.heap_alloc _ _ _ (by simp; omega), Below.heap_alloc _ _ _ (by omega), hB.block _ (by simp)]
      exact heap_alloc_new w _
    · have b0 := ((Below.refl w.heap.size w).alloc (Nat.le_refl _) (.cells #[.int .i64 0, .int .i64 0, .int .i64 0, .string ⟨#[]⟩, .slice none 0 0] 26)).trans (hB.mono (by simp))
      exact (b0.alloc b0.size _).alloc (by have := b0.size; simp; omega) _
  have hne2 : ¬ w1.heap.size = w.heap.size := by omega
  clear hrow hB HRp
  go_wp2_with fail
  refine (as_nil _ _).mono ?_
  rintro e w2 ⟨rfl, hw2⟩
  replace hw2 := hw2.symm
  subst hw2
  go_wp2_with fail
  refine (HOk.out _ g cap _ HRow.out).mono ?_
  rintro e w3 ⟨rfl, B3⟩
  have hs3 := B3.size
  simp at hs3
  have hT3 : w3.heap[w1.heap.size]? = some (.cells #[.int .i64 7, .int .i64 0, .int .i64 0, .string ⟨#[]⟩, .slice (some ⟨g, 0, none⟩) ys.length cap] 26 (0, 0)) := (B3.block _ (by simp; omega)).trans HT.out.1
  have hR3 : w3.heap[w.heap.size]? = some (.cells #[.int .i64 0, .int .i64 0, .int .i64 0, .string ⟨#[]⟩, .slice none 0 0] 26 (0, 0)) := (B3.block _ (by simp; omega)).trans HT.out.2.1
  have hB3 : Below w.heap.size w w3 := HT.out.2.2.trans (B3.mono (by simp; omega))
  have hrow3 := comp_row HRow.out B3
  have t0 : w3.cell? ⟨w1.heap.size, 0, none⟩ = some (.int .i64 7) := by simp [World.cell?, hT3]
  have t1 : w3.cell? ⟨w1.heap.size, 1, none⟩ = some (.int .i64 0) := by simp [World.cell?, hT3]
  have t2 : w3.cell? ⟨w1.heap.size, 2, none⟩ = some (.int .i64 0) := by simp [World.cell?, hT3]
  have t3 : w3.cell? ⟨w1.heap.size, 3, none⟩ = some (.string ⟨#[]⟩) := by simp [World.cell?, hT3]
  have t4 : w3.cell? ⟨w1.heap.size, 4, none⟩ = some (.slice (some ⟨g, 0, none⟩) ys.length cap) := by simp [World.cell?, hT3]
  obtain ⟨r0, r1, r2, r3, r4⟩ := res_cells hR3
  have q0 := res_fz hR3 0
  have q1 := res_fz hR3 1
  have q2 := res_fz hR3 2
  have q3 := res_fz hR3 3
  have q4 := res_fz hR3 4
  have HE := hide (comp_end hrow3 hB3 hR3 (by simp))
  clear HRow HT B3 hT3 hR3 hB3 hrow3 HOk
  go_wp2
  generalize (((((w3.setCell ⟨w.heap.size, 0, none⟩ (.int .i64 7)).setCell ⟨w.heap.size, 1, none⟩ (.int .i64 0)).setCell ⟨w.heap.size, 2, none⟩ (.int .i64 0)).setCell ⟨w.heap.size, 3, none⟩ (.string ⟨#[]⟩)).setCell ⟨w.heap.size, 4, none⟩ (.slice (some ⟨g, 0, none⟩) ys.length cap)) = Wf at HE ⊢
  have u0 : Wf.cell? ⟨w.heap.size, 0, none⟩ = some (.int .i64 7) := by simp [World.cell?, HE.out.1]
  have u1 : Wf.cell? ⟨w.heap.size, 1, none⟩ = some (.int .i64 0) := by simp [World.cell?, HE.out.1]
  have u2 : Wf.cell? ⟨w.heap.size, 2, none⟩ = some (.int .i64 0) := by simp [World.cell?, HE.out.1]
  have u3 : Wf.cell? ⟨w.heap.size, 3, none⟩ = some (.string ⟨#[]⟩) := by simp [World.cell?, HE.out.1]
  have u4 : Wf.cell? ⟨w.heap.size, 4, none⟩ = some (.slice (some ⟨g, 0, none⟩) ys.length cap) := by simp [World.cell?, HE.out.1]
  refine bodyPost_ret (v := .tuple #[.agg #[.int .i64 7, .int .i64 0, .int .i64 0, .string ⟨#[]⟩, .slice (some ⟨g, 0, none⟩) ys.length cap], .int .i64 0, .int .i64 0]) ?_ rfl ⟨g, cap, rfl, HE.out.2.1, HE.out.2.2⟩
  simp [results, Tryz.results6, go_sem, u0, u1, u2, u3, u4]
end Go.Proofs.YtfpeajbfimodfaaGreatDoor.compile

/- The specification's ReadLine. -/
import Derived.Test.YtolmngfjdcoapaaDoorSrl
namespace Go.Proofs.YtolmngfjdcoapaaDoor.srl
open Go.ChangeShapes Go.WideShapes Go.ChangeAt Go.RowKit
open Go.Proofs.YtolmngfjdcoapaaDoor.bytes Go.Proofs.YtolmngfjdcoapaaDoor.pile Go.Proofs.YtolmngfjdcoapaaDoor.jhelp Go.Proofs.YtolmngfjdcoapaaDoor.num Go.Proofs.YtolmngfjdcoapaaDoor.phr Go.Proofs.YtolmngfjdcoapaaDoor.swords Go.Proofs.YtolmngfjdcoapaaDoor.sljob Go.Proofs.YtolmngfjdcoapaaDoor.ew Go.Proofs.YtolmngfjdcoapaaDoor.rl Go.Proofs.YtolmngfjdcoapaaDoor.splace
set_option linter.unusedVariables false
set_option maxHeartbeats 1600000 in
theorem spec_short (w : World) (s : ByteArray) (hl : ¬ 65536 < s.size) (h : (wd 2 s).2.2 = false) :
    Calls Tryd.prog 4 #[.string s] w fun e w' => Ans w.heap.size s e w' ∧ Below w.heap.size w w' := by
  obtain ⟨W0, hW0⟩ : ∃ W0, w.alloc (.cells #[.int .i64 0, .int .i64 0, .slice none 0 0] 24) = W0 := ⟨_, rfl⟩
  have b0 : Below w.heap.size w W0 := by rw [← hW0]; exact more (Below.refl _ _) _
  have s0 : W0.heap.size = w.heap.size + 1 := by rw [← hW0]; exact World.size_alloc ..
  have x0 : W0.heap[w.heap.size]? = some (.cells #[.int .i64 0, .int .i64 0, .slice none 0 0] 24 (0, 0)) := by rw [← hW0]; exact heap_alloc_new w _
  have HE : Hid (Calls Tryd.prog 9 #[.string s, .int .i64 2] W0 fun e w1 => ∃ v r, e = .returned (.tuple #[v, .string r, .bool false]) ∧ ((w1.cell? ⟨w.heap.size, 0, none⟩ = some (.int .i64 0) ∧ w1.cell? ⟨w.heap.size, 1, none⟩ = some (.int .i64 0) ∧ w1.cell? ⟨w.heap.size, 2, none⟩ = some (.slice none 0 0)) ∧ (w1.frozen? ⟨w.heap.size, 0, none⟩ = false ∧ w1.frozen? ⟨w.heap.size, 1, none⟩ = false ∧ w1.frozen? ⟨w.heap.size, 2, none⟩ = false) ∧ ∃ WF, Hid (((w1.setCell ⟨w.heap.size, 0, none⟩ (.int .i64 0)).setCell ⟨w.heap.size, 1, none⟩ (.int .i64 0)).setCell ⟨w.heap.size, 2, none⟩ (.slice none 0 0) = WF) ∧ (WF.cell? ⟨w.heap.size, 0, none⟩ = some (.int .i64 0) ∧ WF.cell? ⟨w.heap.size, 1, none⟩ = some (.int .i64 0) ∧ WF.cell? ⟨w.heap.size, 2, none⟩ = some (.slice none 0 0)) ∧ Hid (Ans w.heap.size s (.returned (.tuple #[.agg #[.int .i64 0, .int .i64 0, .slice none 0 0], .int .i64 4])) WF ∧ Below w.heap.size w WF))) := by
    refine (words_any W0 s 2 (by omega) (by omega)).mono ?_
    rintro e w1 ⟨v, rfl, _, b1⟩
    exact ⟨v, _, by rw [h], post_no hl (short_no h) ((b1.block w.heap.size (by omega)).trans x0) (b0.trans (b1.mono (by omega)))⟩
  clear h b0 s0 x0
  go_enter Tryd.func4, Tryd.ntmps4
  go_wp2_with fail
  (try rw [hW0])
  refine HE.out.mono ?_
  rintro e w1 ⟨v, r, rfl, ⟨d0, d1, d2⟩, ⟨f0, f1, f2⟩, WF, hWF, ⟨k0, k1, k2⟩, HF⟩
  clear HE hW0
  go_wp2
  rw [hWF.out]
  refine bodyPost_ret (v := .tuple #[.agg #[.int .i64 0, .int .i64 0, .slice none 0 0], .int .i64 4]) ?_ rfl HF.out
  simp [results, Tryd.results4, go_sem, k0, k1, k2]
/-- Two words are there. -/
theorem two_words {s : ByteArray} (h : (wd 2 s).2.2 = true) : cutA s ≠ emp ∧ cutA (cutB s) ≠ emp ∧ wd 2 s = ([cutA s, cutA (cutB s)], cutB (cutB s), true) := by
  obtain ⟨n0, h0, e0⟩ := wd_true h
  obtain ⟨n1, h1, e1⟩ := wd_true h0
  exact ⟨n0, n1, by rw [e0, e1]; rfl⟩
theorem words2 (w : World) (W0 : World) (s : ByteArray) (hW0 : w.alloc (.cells #[.int .i64 0, .int .i64 0, .slice none 0 0] 24) = W0) (hl : ¬ 65536 < s.size) (h : (wd 2 s).2.2 = true) : Calls Tryd.prog 9 #[.string s, .int .i64 2] W0 fun e w1 => ∃ gw cw, e = .returned (.tuple #[.slice (some ⟨gw, 0, none⟩) 2 cw, .string (cutB (cutB s)), .bool true]) ∧ w.heap.size < w1.heap.size ∧ w1.cell? ⟨gw, 0, none⟩ = some (.string (cutA s)) ∧ w1.cell? ⟨gw, 1, none⟩ = some (.string (cutA (cutB s))) ∧ w1.heap[w.heap.size]? = some (.cells #[.int .i64 0, .int .i64 0, .slice none 0 0] 24 (0, 0)) ∧ Below w.heap.size w w1 := by
  have b0 : Below w.heap.size w W0 := by rw [← hW0]; exact more (Below.refl _ _) _
  have s0 : W0.heap.size = w.heap.size + 1 := by rw [← hW0]; exact World.size_alloc ..
  have x0 : W0.heap[w.heap.size]? = some (.cells #[.int .i64 0, .int .i64 0, .slice none 0 0] 24 (0, 0)) := by rw [← hW0]; exact heap_alloc_new w _
  obtain ⟨_, _, hwd⟩ := two_words h
  refine (words_any W0 s 2 (by omega) (by omega)).mono ?_
  rintro e w1 ⟨v, rfl, ho, b1⟩
  rw [hwd] at ho ⊢
  obtain ⟨gw, cw, rfl, _, hlt⟩ := ho.form (show 0 < 2 by omega)
  have z1 := b1.size
  exact ⟨gw, cw, rfl, by omega, ho.cellAt 0 (show 0 < 2 * 1 by omega), ho.cellAt 1 (show 1 < 2 * 1 by omega), (b1.block w.heap.size (by omega)).trans x0, b0.trans (b1.mono (by omega))⟩
set_option maxHeartbeats 1600000 in
theorem spec_job (w : World) (s : ByteArray) (hl : ¬ 65536 < s.size) (h : (wd 2 s).2.2 = true) (h7 : cutA s = N7) :
    Calls Tryd.prog 4 #[.string s] w fun e w' => Ans w.heap.size s e w' ∧ Below w.heap.size w w' := by
  obtain ⟨W0, hW0⟩ : ∃ W0, w.alloc (.cells #[.int .i64 0, .int .i64 0, .slice none 0 0] 24) = W0 := ⟨_, rfl⟩
  obtain ⟨n0, n1, _⟩ := two_words h
  have hk : kindOf (cutA s) = some (21, 7) := by rw [h7]; decide
  have hrl : rlS s = (jobP (cutB s)).map fun r => (7, r.1, r.2) := by
    unfold rlS
    rw [if_neg n0, hk]
    rfl
  have hjs : jobS s = jobP (cutB s) := by unfold jobS; rw [if_neg n0]
  have HE : Hid (Calls Tryd.prog 9 #[.string s, .int .i64 2] W0 fun e w1 => ∃ gw cw r, e = .returned (.tuple #[.slice (some ⟨gw, 0, none⟩) 2 cw, .string r, .bool true]) ∧ w1.cell? ⟨gw, 0, none⟩ = some (.string ⟨#[106, 111, 98]⟩) ∧
      Hid (Calls Tryd.prog 10 #[.string s] w1 fun e w2 => (e = .returned (.tuple #[.agg #[.int .i64 0, .int .i64 0, .slice none 0 0], .bool false]) ∧ (((w2.alloc (.cells #[.int .i64 0, .int .i64 0, .slice none 0 0] 24)).cell? ⟨w.heap.size, 0, none⟩ = some (.int .i64 0) ∧ (w2.alloc (.cells #[.int .i64 0, .int .i64 0, .slice none 0 0] 24)).cell? ⟨w.heap.size, 1, none⟩ = some (.int .i64 0) ∧ (w2.alloc (.cells #[.int .i64 0, .int .i64 0, .slice none 0 0] 24)).cell? ⟨w.heap.size, 2, none⟩ = some (.slice none 0 0)) ∧ ((w2.alloc (.cells #[.int .i64 0, .int .i64 0, .slice none 0 0] 24)).frozen? ⟨w.heap.size, 0, none⟩ = false ∧ (w2.alloc (.cells #[.int .i64 0, .int .i64 0, .slice none 0 0] 24)).frozen? ⟨w.heap.size, 1, none⟩ = false ∧ (w2.alloc (.cells #[.int .i64 0, .int .i64 0, .slice none 0 0] 24)).frozen? ⟨w.heap.size, 2, none⟩ = false) ∧ ∃ WF, Hid ((((w2.alloc (.cells #[.int .i64 0, .int .i64 0, .slice none 0 0] 24)).setCell ⟨w.heap.size, 0, none⟩ (.int .i64 0)).setCell ⟨w.heap.size, 1, none⟩ (.int .i64 0)).setCell ⟨w.heap.size, 2, none⟩ (.slice none 0 0) = WF) ∧ (WF.cell? ⟨w.heap.size, 0, none⟩ = some (.int .i64 0) ∧ WF.cell? ⟨w.heap.size, 1, none⟩ = some (.int .i64 0) ∧ WF.cell? ⟨w.heap.size, 2, none⟩ = some (.slice none 0 0)) ∧ Hid (Ans w.heap.size s (.returned (.tuple #[.agg #[.int .i64 0, .int .i64 0, .slice none 0 0], .int .i64 4])) WF ∧ Below w.heap.size w WF))) ∨ (∃ (n : Int) (o : Option Addr) (l c : Nat), e = .returned (.tuple #[.agg #[.int .i64 7, .int .i64 n, .slice o l c], .bool true]) ∧ (((w2.alloc (.cells #[.int .i64 7, .int .i64 n, .slice o l c] 24)).cell? ⟨w.heap.size, 0, none⟩ = some (.int .i64 0) ∧ (w2.alloc (.cells #[.int .i64 7, .int .i64 n, .slice o l c] 24)).cell? ⟨w.heap.size, 1, none⟩ = some (.int .i64 0) ∧ (w2.alloc (.cells #[.int .i64 7, .int .i64 n, .slice o l c] 24)).cell? ⟨w.heap.size, 2, none⟩ = some (.slice none 0 0)) ∧ ((w2.alloc (.cells #[.int .i64 7, .int .i64 n, .slice o l c] 24)).frozen? ⟨w.heap.size, 0, none⟩ = false ∧ (w2.alloc (.cells #[.int .i64 7, .int .i64 n, .slice o l c] 24)).frozen? ⟨w.heap.size, 1, none⟩ = false ∧ (w2.alloc (.cells #[.int .i64 7, .int .i64 n, .slice o l c] 24)).frozen? ⟨w.heap.size, 2, none⟩ = false) ∧ ∃ WF, Hid ((((w2.alloc (.cells #[.int .i64 7, .int .i64 n, .slice o l c] 24)).setCell ⟨w.heap.size, 0, none⟩ (.int .i64 7)).setCell ⟨w.heap.size, 1, none⟩ (.int .i64 n)).setCell ⟨w.heap.size, 2, none⟩ (.slice o l c) = WF) ∧ (WF.cell? ⟨w.heap.size, 0, none⟩ = some (.int .i64 7) ∧ WF.cell? ⟨w.heap.size, 1, none⟩ = some (.int .i64 n) ∧ WF.cell? ⟨w.heap.size, 2, none⟩ = some (.slice o l c)) ∧ Hid (Ans w.heap.size s (.returned (.tuple #[.agg #[.int .i64 7, .int .i64 n, .slice o l c], .int .i64 0])) WF ∧ Below w.heap.size w WF))))) := by
    refine (words2 w W0 s hW0 hl h).mono ?_
    rintro e w1 ⟨gw, cw, rfl, hlt, c0, _, y1, b1⟩
    refine ⟨gw, cw, _, rfl, by rw [c0, h7]; rfl, ?_⟩
    refine (ljob_any w1 s (by omega)).mono ?_
    rintro e w2 ⟨⟨n, xs, o, l, k, hj, rfl, hO⟩ | ⟨hj, rfl⟩, b2⟩
    · have z2 := b2.size
      refine .inr ⟨n, o, l, k, rfl, ?_⟩
      have bx : Below w2.heap.size w2 (w2.alloc (.cells #[.int .i64 7, .int .i64 n, .slice o l k] 24)) := more (Below.refl _ _) _
      exact post_yes hl (by rw [hrl, ← hjs, hj]; rfl) ((bx.block _ (by omega)).trans ((b2.block _ hlt).trans y1)) ((b1.trans (b2.mono (by omega))).trans (bx.mono (by omega))) (hO.below bx (Nat.le_refl _)) hlt
    · have z2 := b2.size
      refine .inl ⟨rfl, ?_⟩
      have bx : Below w2.heap.size w2 (w2.alloc (.cells #[.int .i64 0, .int .i64 0, .slice none 0 0] 24)) := more (Below.refl _ _) _
      exact post_no hl (by rw [hrl, ← hjs, hj]; rfl) ((bx.block _ (by omega)).trans ((b2.block _ hlt).trans y1)) ((b1.trans (b2.mono (by omega))).trans (bx.mono (by omega)))
  clear h n0 n1 hk hrl hjs h7
  go_enter Tryd.func4, Tryd.ntmps4
  go_wp2_with fail
  (try rw [hW0])
  refine HE.out.mono ?_
  rintro e w1 ⟨gw, cw, r, rfl, c0, HJ⟩
  clear HE hW0
  go_wp2_with fail
  refine HJ.out.mono ?_
  clear HJ
  rintro e w2 (⟨rfl, ⟨d0, d1, d2⟩, ⟨f0, f1, f2⟩, WF, hWF, ⟨k0, k1, k2⟩, HF⟩ | ⟨n, o, l, c, rfl, ⟨d0, d1, d2⟩, ⟨f0, f1, f2⟩, WF, hWF, ⟨k0, k1, k2⟩, HF⟩)
  · go_wp2
    rw [hWF.out]
    refine bodyPost_ret (v := .tuple #[.agg #[.int .i64 0, .int .i64 0, .slice none 0 0], .int .i64 4]) ?_ rfl HF.out
    simp [results, Tryd.results4, go_sem, k0, k1, k2]
  · go_wp2
    rw [hWF.out]
    refine bodyPost_ret (v := .tuple #[.agg #[.int .i64 7, .int .i64 n, .slice o l c], .int .i64 0]) ?_ rfl HF.out
    simp [results, Tryd.results4, go_sem, k0, k1, k2]
/-- What an event with a number comes to. -/
def Fine (s : ByteArray) (p : Int) (m : Int) (f : Bool) : Prop := 1 ≤ p ∧ f = true ∧ cutB (cutB s) = emp
set_option maxHeartbeats 3200000 in
theorem spec_ev (w : World) (s : ByteArray) (hl : ¬ 65536 < s.size) (h : (wd 2 s).2.2 = true) (h7 : cutA s ≠ N7) :
    Calls Tryd.prog 4 #[.string s] w fun e w' => Ans w.heap.size s e w' ∧ Below w.heap.size w w' := by
  obtain ⟨W0, hW0⟩ : ∃ W0, w.alloc (.cells #[.int .i64 0, .int .i64 0, .slice none 0 0] 24) = W0 := ⟨_, rfl⟩
  obtain ⟨n0, n1, _⟩ := two_words h
  obtain ⟨p, hp⟩ : ∃ p, place (cutA s) 0 names = p := ⟨_, rfl⟩
  obtain ⟨m, hm⟩ : ∃ m, (numS (cutA (cutB s)).data.toList).getD 0 = m := ⟨_, rfl⟩
  obtain ⟨f, hf⟩ : ∃ f, (numS (cutA (cutB s)).data.toList).isSome = f := ⟨_, rfl⟩
  have hbq : ((cutA s).toList == [106, 111, 98]) = false := by rw [beq_eq_false_iff_ne]; exact fun e => h7 (tolist_inj (e.trans (by rw [ByteArray.toList_eq]; rfl)))
  have q0 := (cut_size s).1
  have q1 := (cut_size s).2
  have q2 := (cut_size (cutB s)).1
  have hrl : rlS s = if 1 ≤ p ∧ f = true ∧ cutB (cutB s) = emp then some (p, m, []) else none := by
    unfold rlS
    rw [if_neg n0]
    rcases place_kind n0 h7 with ⟨hk, hpp⟩ | ⟨k, hk, hpp, h1⟩
    · rw [hk, if_neg]
      intro hh
      omega
    · rw [hk]
      dsimp only
      have hpk : p = k := by rw [← hp, hpp]
      subst hpk
      rw [if_neg (by decide)]
      by_cases hc : cutB (cutB s) = emp
      · rw [if_pos hc]
        cases hn : numS (cutA (cutB s)).data.toList with
        | none => rw [hn] at hf; rw [if_neg]; rfl; rintro ⟨_, hx, _⟩; rw [← hf] at hx; cases hx
        | some v =>
          rw [hn] at hf hm
          rw [if_pos ⟨h1, hf.symm, hc⟩, ← hm]
          rfl
      · rw [if_neg hc, if_neg (fun hh => hc hh.2.2)]
  have HE : Hid (Calls Tryd.prog 9 #[.string s, .int .i64 2] W0 fun e w1 => ∃ gw cw, e = .returned (.tuple #[.slice (some ⟨gw, 0, none⟩) 2 cw, .string (cutB (cutB s)), .bool true]) ∧ w1.cell? ⟨gw, 0, none⟩ = some (.string (cutA s)) ∧
      ∃ W2, Hid (w1.alloc (.cells #[.string ⟨#[]⟩, .string ⟨#[116, 105, 99, 107]⟩, .string ⟨#[100, 101, 108, 105, 118, 101, 114]⟩, .string ⟨#[100, 114, 111, 112]⟩, .string ⟨#[100, 111, 117, 98, 108, 101]⟩, .string ⟨#[99, 114, 97, 115, 104]⟩, .string ⟨#[115, 116, 97, 114, 116]⟩] 9) = W2) ∧ (W2.cell? ⟨gw, 0, none⟩ = some (.string (cutA s)) ∧ W2.cell? ⟨gw, 1, none⟩ = some (.string (cutA (cutB s)))) ∧
      Hid (Calls Tryd.prog 11 #[.slice (some ⟨w1.heap.size, 0, none⟩) 7 7, .string (cutA s)] W2 fun e w' => e = .returned (.int .i64 p) ∧ w' = W2) ∧
      Hid (Calls Tryd.prog 12 #[.string (cutA (cutB s))] W2 fun e w' => e = .returned (.tuple #[.int .i64 m, .bool f]) ∧ w' = W2) ∧
      Hid ((¬ (1 ≤ p ∧ f = true ∧ cutB (cutB s) = emp) → ((W2.cell? ⟨w.heap.size, 0, none⟩ = some (.int .i64 0) ∧ W2.cell? ⟨w.heap.size, 1, none⟩ = some (.int .i64 0) ∧ W2.cell? ⟨w.heap.size, 2, none⟩ = some (.slice none 0 0)) ∧ (W2.frozen? ⟨w.heap.size, 0, none⟩ = false ∧ W2.frozen? ⟨w.heap.size, 1, none⟩ = false ∧ W2.frozen? ⟨w.heap.size, 2, none⟩ = false) ∧ ∃ WF, Hid (((W2.setCell ⟨w.heap.size, 0, none⟩ (.int .i64 0)).setCell ⟨w.heap.size, 1, none⟩ (.int .i64 0)).setCell ⟨w.heap.size, 2, none⟩ (.slice none 0 0) = WF) ∧ (WF.cell? ⟨w.heap.size, 0, none⟩ = some (.int .i64 0) ∧ WF.cell? ⟨w.heap.size, 1, none⟩ = some (.int .i64 0) ∧ WF.cell? ⟨w.heap.size, 2, none⟩ = some (.slice none 0 0)) ∧ Hid (Ans w.heap.size s (.returned (.tuple #[.agg #[.int .i64 0, .int .i64 0, .slice none 0 0], .int .i64 4])) WF ∧ Below w.heap.size w WF))) ∧ (1 ≤ p ∧ f = true ∧ cutB (cutB s) = emp → ((W2.cell? ⟨w.heap.size, 0, none⟩ = some (.int .i64 0) ∧ W2.cell? ⟨w.heap.size, 1, none⟩ = some (.int .i64 0) ∧ W2.cell? ⟨w.heap.size, 2, none⟩ = some (.slice none 0 0)) ∧ (W2.frozen? ⟨w.heap.size, 0, none⟩ = false ∧ W2.frozen? ⟨w.heap.size, 1, none⟩ = false ∧ W2.frozen? ⟨w.heap.size, 2, none⟩ = false) ∧ ∃ WF, Hid (((W2.setCell ⟨w.heap.size, 0, none⟩ (.int .i64 p)).setCell ⟨w.heap.size, 1, none⟩ (.int .i64 m)).setCell ⟨w.heap.size, 2, none⟩ (.slice none 0 0) = WF) ∧ (WF.cell? ⟨w.heap.size, 0, none⟩ = some (.int .i64 p) ∧ WF.cell? ⟨w.heap.size, 1, none⟩ = some (.int .i64 m) ∧ WF.cell? ⟨w.heap.size, 2, none⟩ = some (.slice none 0 0)) ∧ Hid (Ans w.heap.size s (.returned (.tuple #[.agg #[.int .i64 p, .int .i64 m, .slice none 0 0], .int .i64 0])) WF ∧ Below w.heap.size w WF))))) := by
    refine (words2 w W0 s hW0 hl h).mono ?_
    rintro e w1 ⟨gw, cw, rfl, hlt, c0, c1, y1, b1⟩
    obtain ⟨W2, hW2⟩ : ∃ W2, w1.alloc (.cells #[.string ⟨#[]⟩, .string ⟨#[116, 105, 99, 107]⟩, .string ⟨#[100, 101, 108, 105, 118, 101, 114]⟩, .string ⟨#[100, 114, 111, 112]⟩, .string ⟨#[100, 111, 117, 98, 108, 101]⟩, .string ⟨#[99, 114, 97, 115, 104]⟩, .string ⟨#[115, 116, 97, 114, 116]⟩] 9) = W2 := ⟨_, rfl⟩
    have b2 : Below w1.heap.size w1 W2 := by rw [← hW2]; exact more (Below.refl _ _) _
    have x2 : W2.heap[w1.heap.size]? = some (.cells #[.string ⟨#[]⟩, .string ⟨#[116, 105, 99, 107]⟩, .string ⟨#[100, 101, 108, 105, 118, 101, 114]⟩, .string ⟨#[100, 114, 111, 112]⟩, .string ⟨#[100, 111, 117, 98, 108, 101]⟩, .string ⟨#[99, 114, 97, 115, 104]⟩, .string ⟨#[115, 116, 97, 114, 116]⟩] 9 (0, 0)) := by rw [← hW2]; exact heap_alloc_new w1 _
    have y2 := (b2.block _ hlt).trans y1
    have bb : Below w.heap.size w W2 := b1.trans (b2.mono (by omega))
    refine ⟨gw, cw, rfl, c0, W2, hW2, ⟨cell_at b2 c0 (Nat.le_refl _), cell_at b2 c1 (Nat.le_refl _)⟩, ?_, ?_, ?_⟩
    · have := place_any W2 (cutA s) names w1.heap.size 0 7 (by decide) (fun k a hk => by
        rw [Nat.zero_add]
        have hk7 : k < 7 := (List.getElem?_eq_some_iff.1 hk).1
        have c : k = 0 ∨ k = 1 ∨ k = 2 ∨ k = 3 ∨ k = 4 ∨ k = 5 ∨ k = 6 := by omega
        rcases c with rfl | rfl | rfl | rfl | rfl | rfl | rfl <;> (obtain rfl := Option.some.inj hk; exact cell_of x2 rfl))
      rw [hp] at this
      exact this
    · have := Go.Proofs.YtolmngfjdcoapaaDoor.snum.number_any W2 (cutA (cutB s)) (by omega)
      rw [hm, hf] at this
      exact this
    · refine ⟨fun hn => post_no hl (by rw [hrl, if_neg hn]) y2 bb, fun hy => ?_⟩
      exact post_yes hl (by rw [hrl, if_pos hy]) y2 bb (own_nil W2 w1.heap.size) hlt
  obtain ⟨A, hA⟩ : ∃ A, cutA s = A := ⟨_, rfl⟩
  obtain ⟨B, hB⟩ : ∃ B, cutA (cutB s) = B := ⟨_, rfl⟩
  obtain ⟨R, hR⟩ : ∃ R, cutB (cutB s) = R := ⟨_, rfl⟩
  rw [hA, hB, hR] at HE
  rw [hA] at hbq
  clear h n0 n1 hrl h7 hp hm hf q0 q1 q2 hA hB hR
  go_enter Tryd.func4, Tryd.ntmps4
  go_wp2_with fail
  (try rw [hW0])
  refine HE.out.mono ?_
  rintro e w1 ⟨gw, cw, rfl, c0, W2, hW2, ⟨e0, e1⟩, HP, HN, HX⟩
  clear HE hW0
  have hW3 := hW2.out
  by_cases hy : 1 ≤ p ∧ f = true ∧ R = emp
  · obtain ⟨⟨d0, d1, d2⟩, ⟨f0, f1, f2⟩, WF, hWF, ⟨k0, k1, k2⟩, HF⟩ := HX.out.2 hy
    clear HX
    obtain ⟨y1, rfl, hR⟩ := hy
    have hq1 : decide (p < 1) = false := by simp; omega
    have hq2 : R.toList.isEmpty = true := by rw [hR, ByteArray.toList_eq]; rfl
    clear hR
    go_wp2_with fail
    (try rw [hW3])
    refine HP.out.mono ?_
    rintro e w' ⟨rfl, hw⟩
    have hw := hw.symm
    subst hw
    clear HP
    go_wp2_with fail
    refine HN.out.mono ?_
    rintro e w' ⟨rfl, hw⟩
    have hw := hw.symm
    subst hw
    clear HN hW2 hW3
    go_wp2
    rw [hWF.out]
    refine bodyPost_ret (v := .tuple #[.agg #[.int .i64 p, .int .i64 m, .slice none 0 0], .int .i64 0]) ?_ rfl HF.out
    simp [results, Tryd.results4, go_sem, k0, k1, k2]
  · obtain ⟨⟨d0, d1, d2⟩, ⟨f0, f1, f2⟩, WF, hWF, ⟨k0, k1, k2⟩, HF⟩ := HX.out.1 hy
    clear HX
    go_wp2_with fail
    (try rw [hW3])
    refine HP.out.mono ?_
    rintro e w' ⟨rfl, hw⟩
    have hw := hw.symm
    subst hw
    clear HP
    go_wp2_with fail
    refine HN.out.mono ?_
    rintro e w' ⟨rfl, hw⟩
    have hw := hw.symm
    subst hw
    clear HN hW2 hW3
    by_cases hp1 : p < 1
    · have hq1 : decide (p < 1) = true := by simp; omega
      clear hy
      go_wp2
      rw [hWF.out]
      refine bodyPost_ret (v := .tuple #[.agg #[.int .i64 0, .int .i64 0, .slice none 0 0], .int .i64 4]) ?_ rfl HF.out
      simp [results, Tryd.results4, go_sem, k0, k1, k2]
    · have hq1 : decide (p < 1) = false := by simp; omega
      cases f with
      | false =>
        clear hy
        go_wp2
        rw [hWF.out]
        refine bodyPost_ret (v := .tuple #[.agg #[.int .i64 0, .int .i64 0, .slice none 0 0], .int .i64 4]) ?_ rfl HF.out
        simp [results, Tryd.results4, go_sem, k0, k1, k2]
      | true =>
        have hR : R ≠ emp := fun e => hy ⟨by omega, rfl, e⟩
        have hq2 : R.toList.isEmpty = false := by
          rw [Bool.eq_false_iff]
          intro e
          exact hR (tolist_inj ((List.isEmpty_iff.1 e).trans (by rw [ByteArray.toList_eq]; rfl)))
        clear hy hR
        go_wp2
        rw [hWF.out]
        refine bodyPost_ret (v := .tuple #[.agg #[.int .i64 0, .int .i64 0, .slice none 0 0], .int .i64 4]) ?_ rfl HF.out
        simp [results, Tryd.results4, go_sem, k0, k1, k2]
/-- The specification. -/
theorem spec_any (w : World) (s : ByteArray) (hs : s.size < 4294967281) : Calls Tryd.prog 4 #[.string s] w fun e w' => Ans w.heap.size s e w' ∧ Below w.heap.size w w' := by
  by_cases hl : 65536 < s.size
  · refine (long_spec w s hl hs).mono ?_
    rintro e w' ⟨rfl, b⟩
    exact ⟨ans_long hl, b⟩
  · cases h : (wd 2 s).2.2 with
    | false => exact spec_short w s hl h
    | true =>
      by_cases h7 : cutA s = N7
      · exact spec_job w s hl h h7
      · exact spec_ev w s hl h h7
end Go.Proofs.YtolmngfjdcoapaaDoor.srl

/- The law on ReadLine: its walk. -/
import Derived.Test.YtolmngfjdcoapaaDoorSrw
import Derived.Test.YtolmngfjdcoapaaDoorEvh
namespace Go.Proofs.YtolmngfjdcoapaaDoor.rlaw
open Go.ChangeShapes Go.WideShapes Go.ChangeAt Go.RowKit
open Go.Proofs.YtolmngfjdcoapaaDoor.bytes Go.Proofs.YtolmngfjdcoapaaDoor.pile Go.Proofs.YtolmngfjdcoapaaDoor.jhelp Go.Proofs.YtolmngfjdcoapaaDoor.num Go.Proofs.YtolmngfjdcoapaaDoor.phr Go.Proofs.YtolmngfjdcoapaaDoor.swords Go.Proofs.YtolmngfjdcoapaaDoor.sljob Go.Proofs.YtolmngfjdcoapaaDoor.srl Go.Proofs.YtolmngfjdcoapaaDoor.evh
set_option linter.unusedVariables false
theorem ans_form {B : Nat} {s : ByteArray} {e : Ending} {w : World} {K N C : Int} {xs : List Int} (h : Ans B s e w) (hr : rlA s = (K, N, xs, C)) : ∃ o c, e = .returned (.tuple #[.agg #[.int .i64 K, .int .i64 N, .slice o xs.length c], .int .i64 C]) ∧ Own w B (.slice o xs.length c) xs := by
  unfold Ans at h
  rw [hr] at h
  obtain ⟨o, l, c, he, hO⟩ := h
  obtain ⟨o', c', e', _⟩ := hO.rd
  simp only [Value.slice.injEq] at e'
  obtain ⟨rfl, rfl, rfl⟩ := e'
  exact ⟨o, c, he, hO⟩
theorem cells3 {w : World} {b : Nat} {x y z : Value} (h : w.heap[b]? = some (.cells #[x, y, z] 24 (0, 0))) : w.cell? ⟨b, 0, none⟩ = some x ∧ w.cell? ⟨b, 1, none⟩ = some y ∧ w.cell? ⟨b, 2, none⟩ = some z := ⟨cell_of h rfl, cell_of h rfl, cell_of h rfl⟩
theorem chain (w : World) (s : ByteArray) (hs : s.size < 4294967281) (hv : Vr w) (K N C : Int) (xs : List Int) (hr : rlA s = (K, N, xs, C)) (L : Nat) (hL : xs.length = L) (hL2 : L < 4294967296) : Hid (Calls Tryd.prog 4 #[.string s] w fun e w1 => ∃ o1 c1, e = .returned (.tuple #[.agg #[.int .i64 K, .int .i64 N, .slice o1 L c1], .int .i64 C]) ∧ ∃ W1, Hid (w1.alloc (.cells #[.int .i64 K, .int .i64 N, .slice o1 L c1] 24) = W1) ∧
    Hid (Calls Tryd.prog 5 #[.string s] W1 fun e w2 => ∃ o2 c2, e = .returned (.tuple #[.agg #[.int .i64 K, .int .i64 N, .slice o2 L c2], .int .i64 C]) ∧ ∃ W2, Hid (w2.alloc (.cells #[.int .i64 K, .int .i64 N, .slice o2 L c2] 24) = W2) ∧ (W2.cell? ⟨w2.heap.size, 0, none⟩ = some (.int .i64 K) ∧ W2.cell? ⟨w2.heap.size, 1, none⟩ = some (.int .i64 N) ∧ W2.cell? ⟨w2.heap.size, 2, none⟩ = some (.slice o2 L c2)) ∧ (W2.cell? ⟨w1.heap.size, 0, none⟩ = some (.int .i64 K) ∧ W2.cell? ⟨w1.heap.size, 1, none⟩ = some (.int .i64 N) ∧ W2.cell? ⟨w1.heap.size, 2, none⟩ = some (.slice o1 L c1)) ∧
    Hid (Calls Tryd.prog 6 #[.agg #[.int .i64 K, .int .i64 N, .slice o2 L c2], .agg #[.int .i64 K, .int .i64 N, .slice o1 L c1]] W2 fun e w3 => e = .returned (.bool true) ∧ (w3.cell? ⟨w2.heap.size, 0, none⟩ = some (.int .i64 K) ∧ w3.cell? ⟨w2.heap.size, 1, none⟩ = some (.int .i64 N) ∧ w3.cell? ⟨w2.heap.size, 2, none⟩ = some (.slice o2 L c2)) ∧
    Hid (Calls Tryd.prog 7 #[.agg #[.int .i64 K, .int .i64 N, .slice o2 L c2], .int .i64 1] w3 fun e w4 => e = .returned (.int .i64 (1 + (L : Int))) ∧ (w4.cell? ⟨w2.heap.size, 0, none⟩ = some (.int .i64 K) ∧ w4.cell? ⟨w2.heap.size, 1, none⟩ = some (.int .i64 N) ∧ w4.cell? ⟨w2.heap.size, 2, none⟩ = some (.slice o2 L c2)) ∧
    Hid (Calls Tryd.prog 8 #[.agg #[.int .i64 K, .int .i64 N, .slice o2 L c2], .int .i64 1] w4 fun e w5 => e = .returned (.int .i64 (1 + (L : Int))) ∧
    Hid (Calls Tryd.prog 5 #[.string s] w5 fun e w6 => ∃ o6 c6, e = .returned (.tuple #[.agg #[.int .i64 K, .int .i64 N, .slice o6 L c6], .int .i64 C]) ∧ ∃ W6, Hid (w6.alloc (.cells #[.int .i64 K, .int .i64 N, .slice o6 L c6] 24) = W6) ∧ (W6.cell? ⟨w6.heap.size, 0, none⟩ = some (.int .i64 K) ∧ W6.cell? ⟨w6.heap.size, 1, none⟩ = some (.int .i64 N) ∧ W6.cell? ⟨w6.heap.size, 2, none⟩ = some (.slice o6 L c6)) ∧ (W6.cell? ⟨w1.heap.size, 0, none⟩ = some (.int .i64 K) ∧ W6.cell? ⟨w1.heap.size, 1, none⟩ = some (.int .i64 N) ∧ W6.cell? ⟨w1.heap.size, 2, none⟩ = some (.slice o1 L c1)) ∧
    Hid (Calls Tryd.prog 6 #[.agg #[.int .i64 K, .int .i64 N, .slice o6 L c6], .agg #[.int .i64 K, .int .i64 N, .slice o1 L c1]] W6 fun e w7 => e = .returned (.bool true) ∧ (w7.cell? ⟨w2.heap.size, 0, none⟩ = some (.int .i64 K) ∧ w7.cell? ⟨w2.heap.size, 1, none⟩ = some (.int .i64 N) ∧ w7.cell? ⟨w2.heap.size, 2, none⟩ = some (.slice o2 L c2)) ∧
    Hid (Calls Tryd.prog 8 #[.agg #[.int .i64 K, .int .i64 N, .slice o2 L c2], .int .i64 1] w7 fun e w8 => e = .returned (.int .i64 (1 + (L : Int))) ∧ Hid (Below w.heap.size w w8))))))))) := by
  subst hL
  refine (spec_any w s hs).mono ?_
  rintro e w1 ⟨a1, b1⟩
  obtain ⟨o1, c1, rfl, O1⟩ := ans_form a1 hr
  have z1 := b1.size
  obtain ⟨W1, hW1⟩ : ∃ W1, w1.alloc (.cells #[.int .i64 K, .int .i64 N, .slice o1 xs.length c1] 24) = W1 := ⟨_, rfl⟩
  have B1 : Below w1.heap.size w1 W1 := by rw [← hW1]; exact more (Below.refl _ _) _
  have y1 : W1.heap[w1.heap.size]? = some (.cells #[.int .i64 K, .int .i64 N, .slice o1 xs.length c1] 24 (0, 0)) := by rw [← hW1]; exact heap_alloc_new w1 _
  have q1 : W1.heap.size = w1.heap.size + 1 := by rw [← hW1]; exact World.size_alloc ..
  have P1 := O1.below B1 (Nat.le_refl _)
  have bb1 : Below w.heap.size w W1 := b1.trans (B1.mono (by omega))
  refine ⟨o1, c1, rfl, W1, hW1, ?_⟩
  refine (impl_any W1 s hs (hv.below bb1)).mono ?_
  rintro e w2 ⟨a2, b2⟩
  obtain ⟨o2, c2, rfl, O2⟩ := ans_form a2 hr
  have z2 := b2.size
  obtain ⟨W2, hW2⟩ : ∃ W2, w2.alloc (.cells #[.int .i64 K, .int .i64 N, .slice o2 xs.length c2] 24) = W2 := ⟨_, rfl⟩
  have B2 : Below w2.heap.size w2 W2 := by rw [← hW2]; exact more (Below.refl _ _) _
  have y2 : W2.heap[w2.heap.size]? = some (.cells #[.int .i64 K, .int .i64 N, .slice o2 xs.length c2] 24 (0, 0)) := by rw [← hW2]; exact heap_alloc_new w2 _
  have q2 : W2.heap.size = w2.heap.size + 1 := by rw [← hW2]; exact World.size_alloc ..
  have P2 := O2.below B2 (Nat.le_refl _)
  have lt2 := O2.lt
  have BB2 : Below W1.heap.size W1 W2 := b2.trans (B2.mono (by omega))
  have R1 := P1.below BB2 (Nat.le_refl _)
  have y12 := (BB2.block _ (by omega)).trans y1
  refine ⟨o2, c2, rfl, W2, hW2, cells3 y2, cells3 y12, ?_⟩
  refine (eq_any W2 K N o2 o1 xs.length c2 c1 xs P2.rd R1.rd).mono ?_
  rintro e w3 ⟨rfl, b3⟩
  have z3 := b3.size
  have y3 := (b3.block _ (by omega)).trans y2
  refine ⟨rfl, cells3 y3, ?_⟩
  refine (mark_any w3 W1.heap.size K N o2 xs.length c2 xs 1 (by omega) (by omega) (P2.below b3 (Nat.le_refl _))).mono ?_
  rintro e w4 ⟨rfl, O4, g4⟩
  have z4 := g4.size
  have far : ∀ k, k < W1.heap.size ∨ w2.heap.size ≤ k → some k ≠ (Value.slice o2 xs.length c2).ownBlock := fun k hk e => by
    have := lt2 k e.symm
    omega
  have y4 := (g4.block _ (by omega) (far _ (.inr (Nat.le_refl _)))).trans y3
  refine ⟨rfl, cells3 y4, ?_⟩
  refine (held_any w4 K N o2 xs.length c2 1 (by omega) (by omega) O4.rd).mono ?_
  rintro e w5 ⟨rfl, b5⟩
  have z5 := b5.size
  have e5 : ∀ k, k < W1.heap.size → w5.heap[k]? = W1.heap[k]? := fun k hk => (b5.block _ (by omega)).trans ((g4.block _ (by omega) (far _ (.inl hk))).trans ((b3.block _ (by omega)).trans (BB2.block _ hk)))
  have BB5 : Below W1.heap.size W1 w5 := ⟨b5.os.trans (g4.os.trans (b3.os.trans BB2.os)), b5.tape.trans (g4.tape.trans (b3.tape.trans BB2.tape)), b5.output.trans (g4.output.trans (b3.output.trans BB2.output)), by omega, e5⟩
  have bb5 : Below w.heap.size w w5 := bb1.trans (BB5.mono (by omega))
  have O5 := O4.below b5 (Nat.le_refl _)
  have y5 := (b5.block _ (by omega)).trans y4
  refine ⟨rfl, ?_⟩
  refine (impl_any w5 s hs (hv.below bb5)).mono ?_
  rintro e w6 ⟨a6, b6⟩
  obtain ⟨o6, c6, rfl, O6⟩ := ans_form a6 hr
  have z6 := b6.size
  obtain ⟨W6, hW6⟩ : ∃ W6, w6.alloc (.cells #[.int .i64 K, .int .i64 N, .slice o6 xs.length c6] 24) = W6 := ⟨_, rfl⟩
  have B6 : Below w6.heap.size w6 W6 := by rw [← hW6]; exact more (Below.refl _ _) _
  have y6 : W6.heap[w6.heap.size]? = some (.cells #[.int .i64 K, .int .i64 N, .slice o6 xs.length c6] 24 (0, 0)) := by rw [← hW6]; exact heap_alloc_new w6 _
  have q6 : W6.heap.size = w6.heap.size + 1 := by rw [← hW6]; exact World.size_alloc ..
  have BB6 : Below w5.heap.size w5 W6 := b6.trans (B6.mono (by omega))
  have y16 := (BB6.block _ (by omega)).trans ((e5 _ (by omega)).trans y1)
  have R6 := (P1.below BB5 (Nat.le_refl _)).below BB6 (Nat.le_refl _)
  refine ⟨o6, c6, rfl, W6, hW6, cells3 y6, cells3 y16, ?_⟩
  refine (eq_any W6 K N o6 o1 xs.length c6 c1 xs (O6.below B6 (Nat.le_refl _)).rd R6.rd).mono ?_
  rintro e w7 ⟨rfl, b7⟩
  have z7 := b7.size
  have y7 := (b7.block _ (by omega)).trans ((BB6.block _ (by omega)).trans y5)
  refine ⟨rfl, cells3 y7, ?_⟩
  refine (held_any w7 K N o2 xs.length c2 1 (by omega) (by omega) ((O5.below BB6 (Nat.le_refl _)).below b7 (Nat.le_refl _)).rd).mono ?_
  rintro e w8 ⟨rfl, b8⟩
  exact ⟨rfl, ((bb5.trans (BB6.mono (by omega))).trans (b7.mono (by omega))).trans (b8.mono (by omega))⟩
theorem bytes_short (s : ByteArray) : (rlA s).2.2.1.length < 4294967296 := by
  have key : ∀ k n xs, rlS s = some (k, n, xs) → xs.length ≤ 6020 := by
    intro k n xs h
    unfold rlS at h
    split at h
    · cases h
    · split at h
      · cases h
      · split at h
        · cases hj : jobP (cutB s) with
          | none => rw [hj] at h; cases h
          | some r =>
            rw [hj] at h
            obtain ⟨rfl, rfl, rfl⟩ : 7 = k ∧ r.1 = n ∧ r.2 = xs := by simpa using h
            unfold jobP at hj
            simp only [Option.bind_eq_some_iff] at hj
            obtain ⟨a, _, b, _, c, _, hj⟩ := hj
            split at hj
            · cases hj
            · simp only [Option.bind_eq_some_iff] at hj
              obtain ⟨d, _, hj⟩ := hj
              split at hj
              · rename_i hb
                obtain rfl := Option.some.inj hj
                exact jobN_len hb
              · cases hj
        · split at h
          · cases hn : numS (cutA (cutB s)).data.toList with
            | none => rw [hn] at h; cases h
            | some v =>
              rw [hn] at h
              obtain ⟨_, _, rfl⟩ := Prod.mk.inj (Option.some.inj h) |>.elim fun a b => (⟨a, (Prod.mk.inj b).1, (Prod.mk.inj b).2⟩ : _ ∧ _ ∧ _)
              simp
          · cases h
  unfold rlA
  split
  · decide
  · cases h : rlS s with
    | none => decide
    | some r =>
      obtain ⟨k, n, xs⟩ := r
      have := key k n xs h
      show xs.length < _
      omega
set_option maxHeartbeats 3200000 in
theorem law_any (w : World) (s : ByteArray) (hm : s.size ≤ maxLen) (hv : Vr w) :
    Calls Tryd.prog 3 #[.string s] w fun e w' => e = .returned (.bool true) ∧ Below w.heap.size w w' := by
  unfold maxLen at hm
  by_cases hbig : 1048576 < s.size
  · have HB : Hid (Below w.heap.size w w) := Below.refl _ _
    clear hv
    go_enter Tryd.func3, Tryd.ntmps3
    go_wp2
    go_ret
    exact ⟨rfl, HB.out⟩
  · obtain ⟨⟨K, N, xs, C⟩, hr⟩ : ∃ r, rlA s = r := ⟨_, rfl⟩
    obtain ⟨L, hL⟩ : ∃ L, xs.length = L := ⟨_, rfl⟩
    have hL2 : L < 4294967296 := by have := bytes_short s; rw [hr] at this; rw [← hL]; exact this
    have HH := chain w s (by omega) hv K N C xs hr L hL hL2
    have hcc : (C != C) = false := by simp
    have hll : ((1 + (L : Int)) != (1 + (L : Int))) = false := by simp
    have hl0 : decide ((1 + (L : Int)) < 0) = false := by simp; omega
    clear hv hr hL
    go_enter Tryd.func3, Tryd.ntmps3
    go_wp2_with fail
    refine HH.out.mono ?_
    rintro e w1 ⟨o1, c1, rfl, W1, hW1, H1⟩
    clear HH
    go_wp2_with fail
    rw [hW1.out]
    refine H1.out.mono ?_
    rintro e w2 ⟨o2, c2, rfl, W2, hW2, ⟨x0, x1, x2⟩, ⟨y0, y1, y2⟩, H2⟩
    clear H1 hW1
    have hW2' := hW2.out
    go_wp2_with fail
    (try rw [hW2'])
    refine H2.out.mono ?_
    rintro e w3 ⟨rfl, ⟨z0, z1, z2⟩, H3⟩
    clear H2 hW2 hW2' x0 x1 x2 y0 y1 y2
    go_wp2_with fail
    refine H3.out.mono ?_
    rintro e w4 ⟨rfl, ⟨x0, x1, x2⟩, H4⟩
    clear H3 z0 z1 z2
    go_wp2_with fail
    refine H4.out.mono ?_
    rintro e w5 ⟨rfl, H5⟩
    clear H4 x0 x1 x2
    go_wp2_with fail
    refine H5.out.mono ?_
    rintro e w6 ⟨o6, c6, rfl, W6, hW6, ⟨x0, x1, x2⟩, ⟨y0, y1, y2⟩, H6⟩
    clear H5
    have hW6' := hW6.out
    go_wp2_with fail
    (try rw [hW6'])
    refine H6.out.mono ?_
    rintro e w7 ⟨rfl, ⟨z0, z1, z2⟩, H7⟩
    clear H6 hW6 hW6' x0 x1 x2 y0 y1 y2
    go_wp2_with fail
    refine H7.out.mono ?_
    rintro e w8 ⟨rfl, HF⟩
    clear H7
    go_wp2
    go_ret
    exact ⟨rfl, HF.out⟩
end Go.Proofs.YtolmngfjdcoapaaDoor.rlaw

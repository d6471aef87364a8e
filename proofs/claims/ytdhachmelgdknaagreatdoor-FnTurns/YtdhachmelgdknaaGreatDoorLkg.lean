/- A command is looked at. -/
import Derived.Test.YtdhachmelgdknaaGreatDoorChg
import Derived.Test.YtdhachmelgdknaaGreatDoorStn
namespace Go.Proofs.YtdhachmelgdknaaGreatDoor.run
open Go.ChangeShapes Go.WideShapes Go.ChangeAt Go.RowKit
open Go.Proofs.YtdhachmelgdknaaGreatDoor.bas Go.Proofs.YtdhachmelgdknaaGreatDoor.rdr Go.Proofs.YtdhachmelgdknaaGreatDoor.chk
set_option linter.unusedVariables false
set_option maxRecDepth 20000 in
set_option maxHeartbeats 3200000 in
theorem look_do {base d : Nat} {w : World} {u : U} {S : ByteArray} (h : Rn base d w u S) (g cap n : Nat) (hls : u.ls = .slice (some ⟨g, 0, none⟩) n cap) (cs : List Cm) (hl : Lst w g cap cs) (hgd : g ≠ d) (ak an : Int) (nt : Bool) (nm : ByteArray) (hc : cs[u.at_]? = some ⟨ak, an, nt, nm⟩) (hk : u.at_ < n) (hn : n ≤ 60) (hst0 : u.steps < 2000) (b : Bool)
    (HH : ∀ W, Rn base d W { u with steps := u.steps + 1, at_ := u.at_ + 1 } S → Lst W g cap cs → KP base d w W → Calls Tryz.prog 96 #[.pointer (some ⟨d, 0, none⟩), .int .i64 (u.at_ : Nat)] W fun e w' => e = .returned (.bool b) ∧ Below W.heap.size W w')
    (hb : (b != nt) = true) (o : Int) (P : World → Prop) (HD : ∀ W, Rn base d W { u with steps := u.steps + 1, at_ := u.at_ + 1 } S → Lst W g cap cs → KP base d w W → Calls Tryz.prog 97 #[.pointer (some ⟨d, 0, none⟩), .int .i64 (u.at_ : Nat)] W fun e w' => e = .returned (.int .i64 o) ∧ P w') :
    Calls Tryz.prog 59 #[.pointer (some ⟨d, 0, none⟩)] w fun e w' => e = .returned (.int .i64 o) ∧ P w' := by
  have c13 := h.ru.c13
  have f13 := h.ru.fz 13
  obtain ⟨W1, hW1⟩ : ∃ W1, w.setCell ⟨d, 13, none⟩ (.int .i64 ((u.steps : Int) + 1)) = W1 := ⟨_, rfl⟩
  have r1 : RU W1 d { u with steps := u.steps + 1 } := by rw [← hW1]; exact h.ru.set13 (u.steps + 1)
  have g1 : w.grownBy W1 (some d) := by rw [← hW1]; exact grown_set (grown_refl w d) _ _
  have d13 : W1.cell? ⟨d, 13, none⟩ = some (.int .i64 ((u.steps : Int) + 1)) := r1.c13
  have d12 : W1.cell? ⟨d, 12, none⟩ = some (.int .i64 (u.at_ : Nat)) := r1.c12
  have d5 : W1.cell? ⟨d, 5, none⟩ = some (.slice (some ⟨g, 0, none⟩) n cap) := by rw [r1.c5]; show some u.ls = _; rw [hls]
  have l1 := lst_grown hl g1 hgd
  have HR : Hid (W1.rangeAt g (u.at_ * 26) (sedA ak an nt nm).toList) := l1.at_ u.at_ _ hc
  have x1 : (W1.alloc (.cells #[.int .i64 0, .int .i64 0, .int .i64 0, .int .i64 0, .int .i64 0, .string ⟨#[]⟩, .slice none 0 0, .int .i64 0, .int .i64 0, .int .i64 0, .int .i64 0, .int .i64 0, .string ⟨#[]⟩, .slice none 0 0, .bool false, .string ⟨#[]⟩, .string ⟨#[]⟩, .int .i64 0, .int .i64 0, .int .i64 0, .string ⟨#[]⟩, .slice none 0 0, .bool false, .bool false, .int .i64 0, .int .i64 0] 60)).heap[W1.heap.size]? = some (.cells #[.int .i64 0, .int .i64 0, .int .i64 0, .int .i64 0, .int .i64 0, .string ⟨#[]⟩, .slice none 0 0, .int .i64 0, .int .i64 0, .int .i64 0, .int .i64 0, .int .i64 0, .string ⟨#[]⟩, .slice none 0 0, .bool false, .string ⟨#[]⟩, .string ⟨#[]⟩, .int .i64 0, .int .i64 0, .int .i64 0, .string ⟨#[]⟩, .slice none 0 0, .bool false, .bool false, .int .i64 0, .int .i64 0] 60 (0, 0)) := heap_alloc_new W1 _
  have hst := run_storeCells_row (P := Tryz.prog) _ _ 60 _ (sedA ak an nt nm) x1 rfl (one_sed _ _ _ _)
  have x2 := setRow_heap (W1.alloc (.cells #[.int .i64 0, .int .i64 0, .int .i64 0, .int .i64 0, .int .i64 0, .string ⟨#[]⟩, .slice none 0 0, .int .i64 0, .int .i64 0, .int .i64 0, .int .i64 0, .int .i64 0, .string ⟨#[]⟩, .slice none 0 0, .bool false, .string ⟨#[]⟩, .string ⟨#[]⟩, .int .i64 0, .int .i64 0, .int .i64 0, .string ⟨#[]⟩, .slice none 0 0, .bool false, .bool false, .int .i64 0, .int .i64 0] 60)) W1.heap.size _ (sedA ak an nt nm) 60 (0, 0) x1
  have ba : Below W1.heap.size W1 (W1.alloc (.cells #[.int .i64 0, .int .i64 0, .int .i64 0, .int .i64 0, .int .i64 0, .string ⟨#[]⟩, .slice none 0 0, .int .i64 0, .int .i64 0, .int .i64 0, .int .i64 0, .int .i64 0, .string ⟨#[]⟩, .slice none 0 0, .bool false, .string ⟨#[]⟩, .string ⟨#[]⟩, .int .i64 0, .int .i64 0, .int .i64 0, .string ⟨#[]⟩, .slice none 0 0, .bool false, .bool false, .int .i64 0, .int .i64 0] 60)) := more (Below.refl _ _) _
  have b2 : Below W1.heap.size W1 ((W1.alloc (.cells #[.int .i64 0, .int .i64 0, .int .i64 0, .int .i64 0, .int .i64 0, .string ⟨#[]⟩, .slice none 0 0, .int .i64 0, .int .i64 0, .int .i64 0, .int .i64 0, .int .i64 0, .string ⟨#[]⟩, .slice none 0 0, .bool false, .string ⟨#[]⟩, .string ⟨#[]⟩, .int .i64 0, .int .i64 0, .int .i64 0, .string ⟨#[]⟩, .slice none 0 0, .bool false, .bool false, .int .i64 0, .int .i64 0] 60)).setRow W1.heap.size (sedA ak an nt nm)) := ⟨ba.os, ba.tape, ba.output, by simp [World.setRow], fun j hj => (setRow_other _ _ _ _ (by omega)).trans (ba.block j hj)⟩
  obtain ⟨W2, hW2⟩ : ∃ W2, (W1.alloc (.cells #[.int .i64 0, .int .i64 0, .int .i64 0, .int .i64 0, .int .i64 0, .string ⟨#[]⟩, .slice none 0 0, .int .i64 0, .int .i64 0, .int .i64 0, .int .i64 0, .int .i64 0, .string ⟨#[]⟩, .slice none 0 0, .bool false, .string ⟨#[]⟩, .string ⟨#[]⟩, .int .i64 0, .int .i64 0, .int .i64 0, .string ⟨#[]⟩, .slice none 0 0, .bool false, .bool false, .int .i64 0, .int .i64 0] 60)).setRow W1.heap.size (sedA ak an nt nm) = W2 := ⟨_, rfl⟩
  rw [hW2] at x2 hst b2
  have r2 := r1.below b2
  have g2 := grown_tr g1 (grown_of (d := d) b2)
  have e12 : W2.cell? ⟨d, 12, none⟩ = some (.int .i64 (u.at_ : Nat)) := r2.c12
  have f12 := r2.fz 12
  obtain ⟨W3, hW3⟩ : ∃ W3, W2.setCell ⟨d, 12, none⟩ (.int .i64 ((u.at_ : Int) + 1)) = W3 := ⟨_, rfl⟩
  have r3 : RU W3 d { u with steps := u.steps + 1, at_ := u.at_ + 1 } := by rw [← hW3]; exact r2.set12 (u.at_ + 1)
  have g3 : w.grownBy W3 (some d) := by rw [← hW3]; exact grown_set g2 _ _
  have hdl := r1.lt
  have x3 : W3.heap[W1.heap.size]? = some (.cells (sedA ak an nt nm) 60 (0, 0)) := by rw [← hW3]; exact (Below.heap_setCell _ _ _ _ (by show W1.heap.size ≠ d; omega)).trans x2
  have y3 : W3.drew.heap[W1.heap.size]? = some (.cells (sedA ak an nt nm) 60 (0, 0)) := x3
  have c14 : W3.drew.cell? ⟨W1.heap.size, 14, none⟩ = some (.bool nt) := cell_of x3 rfl
  have l3 : Lst W3.drew g cap cs := lst_grown hl ⟨g3.os, g3.tape, g3.output, g3.size, g3.block⟩ hgd
  have h3 : Rn base d W3.drew { u with steps := u.steps + 1, at_ := u.at_ + 1 } S := h.grow r3 ⟨g3.os, g3.tape, g3.output, g3.size, g3.block⟩ rfl h.kp h.ks
  have k3 : KP base d w W3.drew := KP.grown ⟨g3.os, g3.tape, g3.output, g3.size, g3.block⟩ h.bz
  have HA : Hid (Calls Tryz.prog 96 #[.pointer (some ⟨d, 0, none⟩), .int .i64 (u.at_ : Nat)] W3.drew fun e w4 => e = .returned (.bool b) ∧ w4.cell? ⟨W1.heap.size, 14, none⟩ = some (.bool nt) ∧ w4.cell? ⟨W1.heap.size, 15, none⟩ = some (.string nm) ∧ Hid (Calls Tryz.prog 97 #[.pointer (some ⟨d, 0, none⟩), .int .i64 (u.at_ : Nat)] w4 fun e w5 => e = .returned (.int .i64 o) ∧ Hid (P w5))) := by
    refine (HH W3.drew h3 l3 k3).mono ?_
    rintro e w4 ⟨rfl, b4⟩
    have y4 := kept b4 y3 (Nat.le_refl _)
    have h4 := h3.grow (h3.ru.below b4) (grown_of b4) rfl h.kp h.ks
    have k4 := k3.trans (KP.grown (grown_of (d := d) b4) h3.bz)
    refine ⟨rfl, cell_of y4 rfl, cell_of y4 rfl, ?_⟩
    exact HD w4 h4 (l3.below b4) k4
  have hq : decide (2000 < (u.steps : Int) + 1) = false := by simp; omega
  obtain ⟨kk, ekk⟩ : ∃ kk, u.at_ = kk := ⟨_, rfl⟩
  have hkI : (kk : Int) < (n : Int) := by omega
  rw [ekk] at HA HR d12 e12 hW3
  obtain ⟨ss, ess⟩ : ∃ ss, u.steps = ss := ⟨_, rfl⟩
  rw [ess] at c13 hW1 d13 hq
  have hs2 : ss < 2000 := by omega
  clear h hl hc x1 x2 x3 y3 ba b2 r1 r2 r3 g1 g2 g3 l1 l3 h3 k3 hls hk hst0 hW2 HH HD
  cases b <;> cases nt <;> first | exact absurd hb (by decide) | skip
  all_goals go_enter Tryz.func59, Tryz.ntmps59
  all_goals go_wp2_with (refine wpList_load_at rfl _ _ rfl g (kk * 26) rfl _ _ HR.out Tryz.underlying60 rfl (size60 _ _ _ _) ?_)
  all_goals (try rw [hW3])
  all_goals go_region_law (first | (go_simp; go_at_call 96; with_reducible (refine HA.out.mono ?_); rintro e w4 ⟨rfl, c14b, c15b, HD⟩))
  all_goals
    clear HA
    go_wp2_with (go_at_call 97; refine HD.out.mono ?_; rintro e w5 ⟨rfl, HF⟩)
    go_ret
    exact ⟨rfl, HF.out⟩
set_option maxRecDepth 20000 in
set_option maxHeartbeats 3200000 in
theorem look_skip {base d : Nat} {w : World} {u : U} {S : ByteArray} (h : Rn base d w u S) (g cap n : Nat) (hls : u.ls = .slice (some ⟨g, 0, none⟩) n cap) (cs : List Cm) (hl : Lst w g cap cs) (hgd : g ≠ d) (ak an : Int) (nt : Bool) (nm : ByteArray) (hc : cs[u.at_]? = some ⟨ak, an, nt, nm⟩) (hk : u.at_ < n) (hn : n ≤ 60) (hst0 : u.steps < 2000) (b : Bool)
    (HH : ∀ W, Rn base d W { u with steps := u.steps + 1, at_ := u.at_ + 1 } S → Lst W g cap cs → KP base d w W → Calls Tryz.prog 96 #[.pointer (some ⟨d, 0, none⟩), .int .i64 (u.at_ : Nat)] W fun e w' => e = .returned (.bool b) ∧ Below W.heap.size W w')
    (hb : (b != nt) = false) (hnm : (nm.toList == [123]) = false) :
    Calls Tryz.prog 59 #[.pointer (some ⟨d, 0, none⟩)] w fun e w' => e = .returned (.int .i64 0) ∧ Rn base d w' { u with steps := u.steps + 1, at_ := u.at_ + 1 } S ∧ KP base d w w' := by
  have c13 := h.ru.c13
  have f13 := h.ru.fz 13
  obtain ⟨W1, hW1⟩ : ∃ W1, w.setCell ⟨d, 13, none⟩ (.int .i64 ((u.steps : Int) + 1)) = W1 := ⟨_, rfl⟩
  have r1 : RU W1 d { u with steps := u.steps + 1 } := by rw [← hW1]; exact h.ru.set13 (u.steps + 1)
  have g1 : w.grownBy W1 (some d) := by rw [← hW1]; exact grown_set (grown_refl w d) _ _
  have d13 : W1.cell? ⟨d, 13, none⟩ = some (.int .i64 ((u.steps : Int) + 1)) := r1.c13
  have d12 : W1.cell? ⟨d, 12, none⟩ = some (.int .i64 (u.at_ : Nat)) := r1.c12
  have d5 : W1.cell? ⟨d, 5, none⟩ = some (.slice (some ⟨g, 0, none⟩) n cap) := by rw [r1.c5]; show some u.ls = _; rw [hls]
  have l1 := lst_grown hl g1 hgd
  have HR : Hid (W1.rangeAt g (u.at_ * 26) (sedA ak an nt nm).toList) := l1.at_ u.at_ _ hc
  have x1 : (W1.alloc (.cells #[.int .i64 0, .int .i64 0, .int .i64 0, .int .i64 0, .int .i64 0, .string ⟨#[]⟩, .slice none 0 0, .int .i64 0, .int .i64 0, .int .i64 0, .int .i64 0, .int .i64 0, .string ⟨#[]⟩, .slice none 0 0, .bool false, .string ⟨#[]⟩, .string ⟨#[]⟩, .int .i64 0, .int .i64 0, .int .i64 0, .string ⟨#[]⟩, .slice none 0 0, .bool false, .bool false, .int .i64 0, .int .i64 0] 60)).heap[W1.heap.size]? = some (.cells #[.int .i64 0, .int .i64 0, .int .i64 0, .int .i64 0, .int .i64 0, .string ⟨#[]⟩, .slice none 0 0, .int .i64 0, .int .i64 0, .int .i64 0, .int .i64 0, .int .i64 0, .string ⟨#[]⟩, .slice none 0 0, .bool false, .string ⟨#[]⟩, .string ⟨#[]⟩, .int .i64 0, .int .i64 0, .int .i64 0, .string ⟨#[]⟩, .slice none 0 0, .bool false, .bool false, .int .i64 0, .int .i64 0] 60 (0, 0)) := heap_alloc_new W1 _
  have hst := run_storeCells_row (P := Tryz.prog) _ _ 60 _ (sedA ak an nt nm) x1 rfl (one_sed _ _ _ _)
  have x2 := setRow_heap (W1.alloc (.cells #[.int .i64 0, .int .i64 0, .int .i64 0, .int .i64 0, .int .i64 0, .string ⟨#[]⟩, .slice none 0 0, .int .i64 0, .int .i64 0, .int .i64 0, .int .i64 0, .int .i64 0, .string ⟨#[]⟩, .slice none 0 0, .bool false, .string ⟨#[]⟩, .string ⟨#[]⟩, .int .i64 0, .int .i64 0, .int .i64 0, .string ⟨#[]⟩, .slice none 0 0, .bool false, .bool false, .int .i64 0, .int .i64 0] 60)) W1.heap.size _ (sedA ak an nt nm) 60 (0, 0) x1
  have ba : Below W1.heap.size W1 (W1.alloc (.cells #[.int .i64 0, .int .i64 0, .int .i64 0, .int .i64 0, .int .i64 0, .string ⟨#[]⟩, .slice none 0 0, .int .i64 0, .int .i64 0, .int .i64 0, .int .i64 0, .int .i64 0, .string ⟨#[]⟩, .slice none 0 0, .bool false, .string ⟨#[]⟩, .string ⟨#[]⟩, .int .i64 0, .int .i64 0, .int .i64 0, .string ⟨#[]⟩, .slice none 0 0, .bool false, .bool false, .int .i64 0, .int .i64 0] 60)) := more (Below.refl _ _) _
  have b2 : Below W1.heap.size W1 ((W1.alloc (.cells #[.int .i64 0, .int .i64 0, .int .i64 0, .int .i64 0, .int .i64 0, .string ⟨#[]⟩, .slice none 0 0, .int .i64 0, .int .i64 0, .int .i64 0, .int .i64 0, .int .i64 0, .string ⟨#[]⟩, .slice none 0 0, .bool false, .string ⟨#[]⟩, .string ⟨#[]⟩, .int .i64 0, .int .i64 0, .int .i64 0, .string ⟨#[]⟩, .slice none 0 0, .bool false, .bool false, .int .i64 0, .int .i64 0] 60)).setRow W1.heap.size (sedA ak an nt nm)) := ⟨ba.os, ba.tape, ba.output, by simp [World.setRow], fun j hj => (setRow_other _ _ _ _ (by omega)).trans (ba.block j hj)⟩
  obtain ⟨W2, hW2⟩ : ∃ W2, (W1.alloc (.cells #[.int .i64 0, .int .i64 0, .int .i64 0, .int .i64 0, .int .i64 0, .string ⟨#[]⟩, .slice none 0 0, .int .i64 0, .int .i64 0, .int .i64 0, .int .i64 0, .int .i64 0, .string ⟨#[]⟩, .slice none 0 0, .bool false, .string ⟨#[]⟩, .string ⟨#[]⟩, .int .i64 0, .int .i64 0, .int .i64 0, .string ⟨#[]⟩, .slice none 0 0, .bool false, .bool false, .int .i64 0, .int .i64 0] 60)).setRow W1.heap.size (sedA ak an nt nm) = W2 := ⟨_, rfl⟩
  rw [hW2] at x2 hst b2
  have r2 := r1.below b2
  have g2 := grown_tr g1 (grown_of (d := d) b2)
  have e12 : W2.cell? ⟨d, 12, none⟩ = some (.int .i64 (u.at_ : Nat)) := r2.c12
  have f12 := r2.fz 12
  obtain ⟨W3, hW3⟩ : ∃ W3, W2.setCell ⟨d, 12, none⟩ (.int .i64 ((u.at_ : Int) + 1)) = W3 := ⟨_, rfl⟩
  have r3 : RU W3 d { u with steps := u.steps + 1, at_ := u.at_ + 1 } := by rw [← hW3]; exact r2.set12 (u.at_ + 1)
  have g3 : w.grownBy W3 (some d) := by rw [← hW3]; exact grown_set g2 _ _
  have hdl := r1.lt
  have x3 : W3.heap[W1.heap.size]? = some (.cells (sedA ak an nt nm) 60 (0, 0)) := by rw [← hW3]; exact (Below.heap_setCell _ _ _ _ (by show W1.heap.size ≠ d; omega)).trans x2
  have y3 : W3.drew.heap[W1.heap.size]? = some (.cells (sedA ak an nt nm) 60 (0, 0)) := x3
  have c14 : W3.drew.cell? ⟨W1.heap.size, 14, none⟩ = some (.bool nt) := cell_of x3 rfl
  have l3 : Lst W3.drew g cap cs := lst_grown hl ⟨g3.os, g3.tape, g3.output, g3.size, g3.block⟩ hgd
  have h3 : Rn base d W3.drew { u with steps := u.steps + 1, at_ := u.at_ + 1 } S := h.grow r3 ⟨g3.os, g3.tape, g3.output, g3.size, g3.block⟩ rfl h.kp h.ks
  have k3 : KP base d w W3.drew := KP.grown ⟨g3.os, g3.tape, g3.output, g3.size, g3.block⟩ h.bz
  have HA : Hid (Calls Tryz.prog 96 #[.pointer (some ⟨d, 0, none⟩), .int .i64 (u.at_ : Nat)] W3.drew fun e w4 => e = .returned (.bool b) ∧ w4.cell? ⟨W1.heap.size, 14, none⟩ = some (.bool nt) ∧ w4.cell? ⟨W1.heap.size, 15, none⟩ = some (.string nm) ∧ Hid (Rn base d w4 { u with steps := u.steps + 1, at_ := u.at_ + 1 } S ∧ KP base d w w4)) := by
    refine (HH W3.drew h3 l3 k3).mono ?_
    rintro e w4 ⟨rfl, b4⟩
    have y4 := kept b4 y3 (Nat.le_refl _)
    have h4 := h3.grow (h3.ru.below b4) (grown_of b4) rfl h.kp h.ks
    have k4 := k3.trans (KP.grown (grown_of (d := d) b4) h3.bz)
    refine ⟨rfl, cell_of y4 rfl, cell_of y4 rfl, ?_⟩
    exact ⟨h4, k4⟩
  have hq : decide (2000 < (u.steps : Int) + 1) = false := by simp; omega
  obtain ⟨kk, ekk⟩ : ∃ kk, u.at_ = kk := ⟨_, rfl⟩
  have hkI : (kk : Int) < (n : Int) := by omega
  rw [ekk] at HA HR d12 e12 hW3
  obtain ⟨ss, ess⟩ : ∃ ss, u.steps = ss := ⟨_, rfl⟩
  rw [ess] at c13 hW1 d13 hq
  have hs2 : ss < 2000 := by omega
  clear h hl hc x1 x2 x3 y3 ba b2 r1 r2 r3 g1 g2 g3 l1 l3 h3 k3 hls hk hst0 hW2 HH
  cases b <;> cases nt <;> first | exact absurd hb (by decide) | skip
  all_goals go_enter Tryz.func59, Tryz.ntmps59
  all_goals go_wp2_with (refine wpList_load_at rfl _ _ rfl g (kk * 26) rfl _ _ HR.out Tryz.underlying60 rfl (size60 _ _ _ _) ?_)
  all_goals (try rw [hW3])
  all_goals go_region_law (first | (go_simp; go_at_call 96; with_reducible (refine HA.out.mono ?_); rintro e w4 ⟨rfl, c14b, c15b, HD⟩))
  all_goals
    clear HA
    go_wp2
    go_ret
    refine ⟨rfl, ?_⟩
    rw [ekk]
    exact HD.out
end Go.Proofs.YtdhachmelgdknaaGreatDoor.run

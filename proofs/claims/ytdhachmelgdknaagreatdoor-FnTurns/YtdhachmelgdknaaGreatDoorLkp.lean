/- A command is looked at: p without addresses. -/
import Derived.Test.YtdhachmelgdknaaGreatDoorHas
namespace Go.Proofs.YtdhachmelgdknaaGreatDoor.run
open Go.ChangeShapes Go.WideShapes Go.ChangeAt Go.RowKit
open Go.Proofs.YtdhachmelgdknaaGreatDoor.bas Go.Proofs.YtdhachmelgdknaaGreatDoor.rdr Go.Proofs.YtdhachmelgdknaaGreatDoor.chk
set_option linter.unusedVariables false
theorem lst_grown {w w' : World} {g cap d : Nat} {cs : List Cm} (h : Lst w g cap cs) (gr : w.grownBy w' (some d)) (hgd : g ≠ d) : Lst w' g cap cs :=
  ⟨fun k c hc j v hv => by
    rw [World.cell?_of_block (show w'.heap[(⟨g, k * 26 + j, none⟩ : Addr).block]? = w.heap[(⟨g, k * 26 + j, none⟩ : Addr).block]? from gr.block g h.lt (by simpa using hgd))]
    exact h.at_ k c hc j v hv, Nat.lt_of_lt_of_le h.lt gr.size⟩
set_option maxRecDepth 20000 in
set_option maxHeartbeats 3200000 in
theorem look_p {base d : Nat} {w : World} {u : U} {S : ByteArray} (h : Rn base d w u S) (hsz : S.size + u.pat.size + 1 ≤ 8000) (g cap n : Nat) (hls : u.ls = .slice (some ⟨g, 0, none⟩) n cap) (cs : List Cm) (hl : Lst w g cap cs) (hgd : g ≠ d) (hc : cs[u.at_]? = some cmP) (hk : u.at_ < n) (hn : n ≤ 60) (hst0 : u.steps < 2000) :
    Calls Tryz.prog 59 #[.pointer (some ⟨d, 0, none⟩)] w fun e w' => e = .returned (.int .i64 0) ∧ (∃ v, Rn base d w' { u with sd := v, at_ := u.at_ + 1, steps := u.steps + 1 } (S ++ joinL [u.pat])) ∧ KP base d w w' := by
  have c13 := h.ru.c13
  have f13 := h.ru.fz 13
  obtain ⟨W1, hW1⟩ : ∃ W1, w.setCell ⟨d, 13, none⟩ (.int .i64 ((u.steps : Int) + 1)) = W1 := ⟨_, rfl⟩
  have r1 : RU W1 d { u with steps := u.steps + 1 } := by rw [← hW1]; exact h.ru.set13 (u.steps + 1)
  have g1 : w.grownBy W1 (some d) := by rw [← hW1]; exact grown_set (grown_refl w d) _ _
  have d13 : W1.cell? ⟨d, 13, none⟩ = some (.int .i64 ((u.steps : Int) + 1)) := r1.c13
  have d12 : W1.cell? ⟨d, 12, none⟩ = some (.int .i64 (u.at_ : Nat)) := r1.c12
  have d5 : W1.cell? ⟨d, 5, none⟩ = some (.slice (some ⟨g, 0, none⟩) n cap) := by rw [r1.c5]; show some u.ls = _; rw [hls]
  have l1 := lst_grown hl g1 hgd
  have HR : Hid (W1.rangeAt g (u.at_ * 26) (sedA 0 0 false ⟨#[112]⟩).toList) := l1.at_ u.at_ _ hc
  have x1 : (W1.alloc (.cells #[.int .i64 0, .int .i64 0, .int .i64 0, .int .i64 0, .int .i64 0, .string ⟨#[]⟩, .slice none 0 0, .int .i64 0, .int .i64 0, .int .i64 0, .int .i64 0, .int .i64 0, .string ⟨#[]⟩, .slice none 0 0, .bool false, .string ⟨#[]⟩, .string ⟨#[]⟩, .int .i64 0, .int .i64 0, .int .i64 0, .string ⟨#[]⟩, .slice none 0 0, .bool false, .bool false, .int .i64 0, .int .i64 0] 60)).heap[W1.heap.size]? = some (.cells #[.int .i64 0, .int .i64 0, .int .i64 0, .int .i64 0, .int .i64 0, .string ⟨#[]⟩, .slice none 0 0, .int .i64 0, .int .i64 0, .int .i64 0, .int .i64 0, .int .i64 0, .string ⟨#[]⟩, .slice none 0 0, .bool false, .string ⟨#[]⟩, .string ⟨#[]⟩, .int .i64 0, .int .i64 0, .int .i64 0, .string ⟨#[]⟩, .slice none 0 0, .bool false, .bool false, .int .i64 0, .int .i64 0] 60 (0, 0)) := heap_alloc_new W1 _
  have hst := run_storeCells_row (P := Tryz.prog) _ _ 60 _ (sedA 0 0 false ⟨#[112]⟩) x1 rfl (one_sed _ _ _ _)
  have x2 := setRow_heap (W1.alloc (.cells #[.int .i64 0, .int .i64 0, .int .i64 0, .int .i64 0, .int .i64 0, .string ⟨#[]⟩, .slice none 0 0, .int .i64 0, .int .i64 0, .int .i64 0, .int .i64 0, .int .i64 0, .string ⟨#[]⟩, .slice none 0 0, .bool false, .string ⟨#[]⟩, .string ⟨#[]⟩, .int .i64 0, .int .i64 0, .int .i64 0, .string ⟨#[]⟩, .slice none 0 0, .bool false, .bool false, .int .i64 0, .int .i64 0] 60)) W1.heap.size _ (sedA 0 0 false ⟨#[112]⟩) 60 (0, 0) x1
  have ba : Below W1.heap.size W1 (W1.alloc (.cells #[.int .i64 0, .int .i64 0, .int .i64 0, .int .i64 0, .int .i64 0, .string ⟨#[]⟩, .slice none 0 0, .int .i64 0, .int .i64 0, .int .i64 0, .int .i64 0, .int .i64 0, .string ⟨#[]⟩, .slice none 0 0, .bool false, .string ⟨#[]⟩, .string ⟨#[]⟩, .int .i64 0, .int .i64 0, .int .i64 0, .string ⟨#[]⟩, .slice none 0 0, .bool false, .bool false, .int .i64 0, .int .i64 0] 60)) := more (Below.refl _ _) _
  have b2 : Below W1.heap.size W1 ((W1.alloc (.cells #[.int .i64 0, .int .i64 0, .int .i64 0, .int .i64 0, .int .i64 0, .string ⟨#[]⟩, .slice none 0 0, .int .i64 0, .int .i64 0, .int .i64 0, .int .i64 0, .int .i64 0, .string ⟨#[]⟩, .slice none 0 0, .bool false, .string ⟨#[]⟩, .string ⟨#[]⟩, .int .i64 0, .int .i64 0, .int .i64 0, .string ⟨#[]⟩, .slice none 0 0, .bool false, .bool false, .int .i64 0, .int .i64 0] 60)).setRow W1.heap.size (sedA 0 0 false ⟨#[112]⟩)) := ⟨ba.os, ba.tape, ba.output, by simp [World.setRow], fun j hj => (setRow_other _ _ _ _ (by omega)).trans (ba.block j hj)⟩
  obtain ⟨W2, hW2⟩ : ∃ W2, (W1.alloc (.cells #[.int .i64 0, .int .i64 0, .int .i64 0, .int .i64 0, .int .i64 0, .string ⟨#[]⟩, .slice none 0 0, .int .i64 0, .int .i64 0, .int .i64 0, .int .i64 0, .int .i64 0, .string ⟨#[]⟩, .slice none 0 0, .bool false, .string ⟨#[]⟩, .string ⟨#[]⟩, .int .i64 0, .int .i64 0, .int .i64 0, .string ⟨#[]⟩, .slice none 0 0, .bool false, .bool false, .int .i64 0, .int .i64 0] 60)).setRow W1.heap.size (sedA 0 0 false ⟨#[112]⟩) = W2 := ⟨_, rfl⟩
  rw [hW2] at x2 hst b2
  have r2 := r1.below b2
  have g2 := grown_tr g1 (grown_of (d := d) b2)
  have e12 : W2.cell? ⟨d, 12, none⟩ = some (.int .i64 (u.at_ : Nat)) := r2.c12
  have f12 := r2.fz 12
  obtain ⟨W3, hW3⟩ : ∃ W3, W2.setCell ⟨d, 12, none⟩ (.int .i64 ((u.at_ : Int) + 1)) = W3 := ⟨_, rfl⟩
  have r3 : RU W3 d { u with steps := u.steps + 1, at_ := u.at_ + 1 } := by rw [← hW3]; exact r2.set12 (u.at_ + 1)
  have g3 : w.grownBy W3 (some d) := by rw [← hW3]; exact grown_set g2 _ _
  have hdl := r1.lt
  have x3 : W3.heap[W1.heap.size]? = some (.cells (sedA 0 0 false ⟨#[112]⟩) 60 (0, 0)) := by rw [← hW3]; exact (Below.heap_setCell _ _ _ _ (by show W1.heap.size ≠ d; omega)).trans x2
  have c14 : W3.drew.cell? ⟨W1.heap.size, 14, none⟩ = some (.bool false) := cell_of x3 rfl
  have l3 : Lst W3.drew g cap cs := lst_grown hl ⟨g3.os, g3.tape, g3.output, g3.size, g3.block⟩ hgd
  have h3 : Rn base d W3.drew { u with steps := u.steps + 1, at_ := u.at_ + 1 } S := h.grow r3 ⟨g3.os, g3.tape, g3.output, g3.size, g3.block⟩ rfl h.kp h.ks
  have HA : Hid (Calls Tryz.prog 96 #[.pointer (some ⟨d, 0, none⟩), .int .i64 (u.at_ : Nat)] W3.drew fun e w4 => e = .returned (.bool true) ∧ w4.cell? ⟨W1.heap.size, 14, none⟩ = some (.bool false) ∧ Hid (Calls Tryz.prog 97 #[.pointer (some ⟨d, 0, none⟩), .int .i64 (u.at_ : Nat)] w4 fun e w5 => e = .returned (.int .i64 0) ∧ Hid ((∃ v, Rn base d w5 { u with sd := v, at_ := u.at_ + 1, steps := u.steps + 1 } (S ++ joinL [u.pat])) ∧ KP base d w w5))) := by
    refine (has_none h3.ru g cap n hls cs l3 u.at_ false ⟨#[112]⟩ hc hk hn).mono ?_
    rintro e w4 ⟨rfl, b4⟩
    refine ⟨rfl, cell_at b4 c14 (Nat.le_refl _), ?_⟩
    have h4 := h3.grow (h3.ru.below b4) (grown_of b4) rfl h.kp h.ks
    refine (do_p h4 hsz g cap n hls cs (l3.below b4) u.at_ 0 0 false hc hk hn).mono ?_
    rintro e w5 ⟨rfl, ⟨v, h5⟩, k5⟩
    have k3 : KP base d w W3.drew := KP.grown ⟨g3.os, g3.tape, g3.output, g3.size, g3.block⟩ h.bz
    exact ⟨rfl, ⟨v, h5⟩, (k3.trans (KP.grown (grown_of b4) h3.bz)).trans k5⟩
  have hq : decide (2000 < (u.steps : Int) + 1) = false := by simp; omega
  obtain ⟨kk, ekk⟩ : ∃ kk, u.at_ = kk := ⟨_, rfl⟩
  have hkI : (kk : Int) < (n : Int) := by omega
  rw [ekk] at HA HR d12 e12 hW3
  obtain ⟨ss, ess⟩ : ∃ ss, u.steps = ss := ⟨_, rfl⟩
  rw [ess] at c13 hW1 d13 hq
  have hs2 : ss < 2000 := by omega
  clear h hl hc x1 x2 x3 ba b2 r1 r2 r3 g1 g2 g3 l1 l3 h3 hls hk hst0 hW2
  go_enter Tryz.func59, Tryz.ntmps59
  go_wp2_with (refine wpList_load_at rfl _ _ rfl g (kk * 26) rfl (sedA 0 0 false ⟨#[112]⟩) _ HR.out Tryz.underlying60 rfl (size60 _ _ _ _) ?_)
  (try rw [hW3])
  go_region_law (first | (go_simp; go_at_call 96; with_reducible (refine HA.out.mono ?_); rintro e w4 ⟨rfl, c14b, HD⟩))
  all_goals
    go_wp2_with (go_at_call 97; refine HD.out.mono ?_; rintro e w5 ⟨rfl, HF⟩)
    go_ret
    refine ⟨rfl, ?_⟩
    rw [ekk]
    exact HF.out
end Go.Proofs.YtdhachmelgdknaaGreatDoor.run

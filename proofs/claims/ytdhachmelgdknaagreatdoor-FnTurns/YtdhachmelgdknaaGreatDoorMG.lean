/- The scripts that turn lines round. -/
import Derived.Test.YtdhachmelgdknaaGreatDoorAdr
import Derived.Lib.AtoiAll
import Derived.Test.YtdhachmelgdknaaGreatDoorPse
/- A number in a script, and an address that is one. -/
namespace Go.Proofs.YtdhachmelgdknaaGreatDoor.rdr
open Go.ChangeShapes Go.WideShapes Go.ChangeAt Go.RowKit
open Go.Proofs.YtdhachmelgdknaaGreatDoor.bas
set_option linter.unusedVariables false
set_option maxHeartbeats 1600000 in
theorem number_ok {w0 : World} {d : Nat} {q : Q} {k : Nat} {w : World} (hm : Mv w0 d q k w) (hk : k ≤ q.T.size) (hT : q.T.size ≤ 100000) (n : Int) (ha : Lib.atoiAll (q.T.extract k (ov sD q.T k)).data.toList = .ok n) (hs : (q.T.extract k (ov sD q.T k)).size ≤ 9) (h1 : 1 ≤ n) (h2 : n ≤ 999999999) :
    Calls Tryz.prog 118 #[.pointer (some ⟨d, 0, none⟩), .int .i64 999999999] w fun e w' => e = .returned (.int .i64 n) ∧ Mv w0 d q (ov sD q.T k) w' := by
  have c2 := hm.rb.c2
  dsimp only at c2
  have HO : Hid (Calls Tryz.prog 82 #[.pointer (some ⟨d, 0, none⟩), .string sD] w fun e w1 => e = .returned (.string (q.T.extract k (ov sD q.T k))) ∧ Hid (Calls Tryz.prog 145 #[.string (q.T.extract k (ov sD q.T k))] w1 fun e w2 => e = .returned (.tuple #[.int .i64 n, .nilIface]) ∧ Hid (Mv w0 d q (ov sD q.T k) w2))) := by
    refine (mv_over sD hm hk hT).mono ?_
    rintro e w1 ⟨rfl, hm1⟩
    refine ⟨rfl, ?_⟩
    refine (Tryz.strconv_Atoi_ok _ (by omega) n ha w1).mono ?_
    rintro e w2 ⟨rfl, hw⟩
    refine ⟨rfl, ?_⟩
    rcases hw with hw | ⟨t, hw⟩
    · rw [hw]; exact hm1
    · have b := Lib.bytesWorld_below w1 5 t
      rw [← hw] at b
      exact ⟨hm1.rb.below b, grown_tr hm1.gr (grown_of b)⟩
  obtain ⟨A, hA⟩ : ∃ A, q.T.extract k (ov sD q.T k) = A := ⟨_, rfl⟩
  rw [hA] at HO hs
  have q1 : decide (9 < (A.size : Int)) = false := by simp; omega
  have q2 : decide (n < 1) = false := by simp; omega
  have q3 : decide (999999999 < n) = false := by simp; omega
  clear hm ha hA hs
  go_enter Tryz.func118, Tryz.ntmps118
  go_wp2_with fail
  refine HO.out.mono ?_
  rintro e w1 ⟨rfl, H1⟩
  clear HO
  go_wp2_with fail
  refine H1.out.mono ?_
  rintro e w2 ⟨rfl, H2⟩
  clear H1
  go_wp2
  go_ret
  exact ⟨rfl, H2.out⟩
set_option maxHeartbeats 1600000 in
theorem address_num {d : Nat} {q : Q} {w : World} (h : RB w d q) (hk : q.pl ≤ q.T.size) (hT : q.T.size ≤ 100000) (h1 : seesP q.T sD q.pl = true) (n : Int) (ha : Lib.atoiAll (q.T.extract q.pl (ov sD q.T q.pl)).data.toList = .ok n) (hs : (q.T.extract q.pl (ov sD q.T q.pl)).size ≤ 9) (hn1 : 1 ≤ n) (hn2 : n ≤ 999999999) :
    Calls Tryz.prog 86 #[.pointer (some ⟨d, 0, none⟩)] w fun e w' => e = .returned (.agg #[.int .i64 1, .int .i64 n, .int .i64 0, .int .i64 0, .int .i64 0, .string ⟨#[]⟩, .slice none 0 0]) ∧ RB w' d { q with pl := ov sD q.T q.pl } ∧ w.grownBy w' (some d) := by
  obtain ⟨W0, hW0⟩ : ∃ W0, w.alloc (.cells #[.int .i64 0, .int .i64 0, .int .i64 0, .int .i64 0, .int .i64 0, .string ⟨#[]⟩, .slice none 0 0] 58) = W0 := ⟨_, rfl⟩
  have b0 : Below w.heap.size w W0 := by rw [← hW0]; exact more (Below.refl _ _) _
  have x0 : W0.heap[w.heap.size]? = some (.cells #[.int .i64 0, .int .i64 0, .int .i64 0, .int .i64 0, .int .i64 0, .string ⟨#[]⟩, .slice none 0 0] 58 (0, 0)) := by rw [← hW0]; exact heap_alloc_new w _
  have s0 : W0.heap.size = w.heap.size + 1 := by rw [← hW0]; exact World.size_alloc ..
  have hd := h.lt
  have M0 : Mv W0 d q q.pl W0 := Mv.refl (h.below b0)
  have HF : Hid (∀ w1 (ak an : Int) kk, Mv W0 d q kk w1 → (w1.cell? ⟨w.heap.size, 0, none⟩ = some (.int .i64 0) ∧ w1.cell? ⟨w.heap.size, 1, none⟩ = some (.int .i64 0) ∧ w1.cell? ⟨w.heap.size, 2, none⟩ = some (.int .i64 0) ∧ w1.cell? ⟨w.heap.size, 3, none⟩ = some (.int .i64 0) ∧ w1.cell? ⟨w.heap.size, 4, none⟩ = some (.int .i64 0) ∧ w1.cell? ⟨w.heap.size, 5, none⟩ = some (.string ⟨#[]⟩) ∧ w1.cell? ⟨w.heap.size, 6, none⟩ = some (.slice none 0 0)) ∧ (∀ i, w1.frozen? ⟨w.heap.size, i, none⟩ = false) ∧ ∃ WF, Hid ((((((((w1.setCell ⟨w.heap.size, 0, none⟩ (.int .i64 ak)).setCell ⟨w.heap.size, 1, none⟩ (.int .i64 an)).setCell ⟨w.heap.size, 2, none⟩ (.int .i64 0)).setCell ⟨w.heap.size, 3, none⟩ (.int .i64 0)).setCell ⟨w.heap.size, 4, none⟩ (.int .i64 0)).setCell ⟨w.heap.size, 5, none⟩ (.string ⟨#[]⟩)).setCell ⟨w.heap.size, 6, none⟩ (.slice none 0 0)) = WF) ∧ Hid (WF.heap[w.heap.size]? = some (.cells #[.int .i64 ak, .int .i64 an, .int .i64 0, .int .i64 0, .int .i64 0, .string ⟨#[]⟩, .slice none 0 0] 58 (0, 0))) ∧ Hid (RB WF d { q with pl := kk } ∧ w.grownBy WF (some d))) := by
    intro w1 ak an kk hm
    have y : w1.heap[w.heap.size]? = some (.cells #[.int .i64 0, .int .i64 0, .int .i64 0, .int .i64 0, .int .i64 0, .string ⟨#[]⟩, .slice none 0 0] 58 (0, 0)) := (hm.gr.block _ (by omega) (by simp; omega)).trans x0
    obtain ⟨z1, z2, z3, z4, z5, z6⟩ := sets7 y ak an
    obtain ⟨WF, hWF⟩ : ∃ WF, (((((((w1.setCell ⟨w.heap.size, 0, none⟩ (.int .i64 ak)).setCell ⟨w.heap.size, 1, none⟩ (.int .i64 an)).setCell ⟨w.heap.size, 2, none⟩ (.int .i64 0)).setCell ⟨w.heap.size, 3, none⟩ (.int .i64 0)).setCell ⟨w.heap.size, 4, none⟩ (.int .i64 0)).setCell ⟨w.heap.size, 5, none⟩ (.string ⟨#[]⟩)).setCell ⟨w.heap.size, 6, none⟩ (.slice none 0 0)) = WF := ⟨_, rfl⟩
    rw [hWF] at z1 z2 z3 z4 z5 z6
    refine ⟨⟨cell_of y rfl, cell_of y rfl, cell_of y rfl, cell_of y rfl, cell_of y rfl, cell_of y rfl, cell_of y rfl⟩, fun i => frozen_of y i, WF, hWF, z1, hm.rb.keep (z2 d (by omega)), ?_⟩
    have g := grown_tr (grown_of (d := d) b0) hm.gr
    exact ⟨z4.trans g.os, z5.trans g.tape, z6.trans g.output, by rw [z3]; exact g.size, fun k hk hn => (z2 k (by omega)).trans (g.block k hk hn)⟩
  have HM0 := hide M0
  clear M0 h b0 x0
  go_enter Tryz.func86, Tryz.ntmps86
  have H1 := mv_sees sD HM0.out hk hT
  rw [h1] at H1
  have H1 := hide H1
  clear HM0
  go_wp2_with fail
  (try rw [hW0])
  refine H1.out.mono ?_
  rintro e w1 ⟨rfl, hm1⟩
  have HM1 := hide hm1
  clear H1 hm1 hW0
  have H2 := hide (number_ok HM1.out hk hT n ha hs hn1 hn2)
  clear HM1 ha hs
  go_wp2_with fail
  refine H2.out.mono ?_
  rintro e w2 ⟨rfl, hm2⟩
  have HM2 := hide hm2
  clear H2 hm2
  obtain ⟨⟨c0, c1, c2, c3, c4, c5, c6⟩, hfz, WF, hWF, HW, HB⟩ := HF.out w2 1 n _ HM2.out
  have g0 := hfz 0
  have g1 := hfz 1
  have g2 := hfz 2
  have g3 := hfz 3
  have g4 := hfz 4
  have g5 := hfz 5
  have g6 := hfz 6
  clear hfz HF HM2
  go_wp2
  rw [hWF.out]
  refine bodyPost_ret (v := .agg #[.int .i64 1, .int .i64 n, .int .i64 0, .int .i64 0, .int .i64 0, .string ⟨#[]⟩, .slice none 0 0]) (results_cell_row rfl _ _ _ 58 _ (0, 0) _ rfl HW.out Tryz.underlying58 rfl (by kernel_rfl)) rfl ⟨rfl, HB.out⟩

end Go.Proofs.YtdhachmelgdknaaGreatDoor.rdr
namespace Go.Proofs.YtdhachmelgdknaaGreatDoor.rdr
open Go.ChangeShapes Go.WideShapes Go.ChangeAt Go.RowKit
open Go.Proofs.YtdhachmelgdknaaGreatDoor.bas Go.Proofs.YtdhachmelgdknaaGreatDoor.tak
set_option linter.unusedVariables false
abbrev tA : ByteArray := ⟨#[49, 33, 71, 59, 104, 59, 36, 33, 100]⟩
abbrev tB : ByteArray := ⟨#[49, 33, 71, 10, 104, 10, 36, 33, 100]⟩
def cmG : Cm := ⟨1, 1, true, ⟨#[71]⟩⟩
def cmH : Cm := ⟨0, 0, false, ⟨#[104]⟩⟩
def cmD : Cm := ⟨2, 0, true, ⟨#[100]⟩⟩
theorem scr_a : Scr tA 0 [cmG, cmH, cmD] := by
  refine .cons (p' := 3) ⟨0, 0, 1, 2, 71, 3, by decide +kernel, by decide, ?_, ?_, ⟨by decide, by decide +kernel⟩, by decide, by decide +kernel, fun W => ⟨by kernel_rfl, by kernel_rfl⟩, .inr (by decide +kernel), by decide +kernel⟩ (.cons (p' := 5) ⟨0, 4, 4, 4, 104, 4, by decide +kernel, by decide, ?_, ?_, ⟨by decide, by decide +kernel⟩, by decide, by decide +kernel, fun W => ⟨by kernel_rfl, by kernel_rfl⟩, .inr (by decide +kernel), by decide +kernel⟩ (.cons (p' := 9) ⟨0, 6, 7, 8, 100, 0, by decide +kernel, by decide, ?_, ?_, ⟨by decide, by decide +kernel⟩, by decide, by decide +kernel, fun W => ⟨by kernel_rfl, by kernel_rfl⟩, .inl (by decide +kernel), by decide +kernel⟩ (.fin (f := 0) (by decide +kernel))))
  · intro d q W h1 h2 h3
    have hs : ∀ S, seesP tA S 0 = seesP q.T S q.pl := fun S => by rw [h1, h2]
    have := address_num h3 (by rw [h1, h2]; decide) (by rw [h1]; decide) (by rw [← hs]; decide +kernel) 1 (by rw [h1, h2]; decide +kernel) (by rw [h1, h2]; decide +kernel) (by decide) (by decide)
    have e : ov sD q.T q.pl = 1 := by rw [h1, h2]; decide +kernel
    rw [e] at this
    exact this
  · exact ⟨by decide, fun _ => by decide +kernel, by decide +kernel, by decide +kernel⟩
  · intro d q W h1 h2 h3
    have hs : ∀ S, seesP tA S 4 = seesP q.T S q.pl := fun S => by rw [h1, h2]
    have := address_none h3 (by rw [h1, h2]; decide) (by rw [h1]; decide) (by rw [← hs]; decide +kernel) (by rw [← hs]; decide +kernel) (by rw [← hs]; decide +kernel)
    have e : ({ q with pl := 4 } : Q) = q := by
      cases q
      simp at h2
      subst h2
      rfl
    rw [e]
    exact this
  · exact ⟨by decide, fun h => absurd rfl h, by decide +kernel, by decide +kernel⟩
  · intro d q W h1 h2 h3
    have hs : ∀ S, seesP tA S 6 = seesP q.T S q.pl := fun S => by rw [h1, h2]
    have := address_last h3 (by rw [h1, h2]; decide) (by rw [h1]; decide) (by rw [← hs]; decide +kernel) (by rw [← hs]; decide +kernel)
    rw [h2] at this
    exact this
  · exact ⟨by decide, fun _ => by decide +kernel, by decide +kernel, by decide +kernel⟩
theorem scr_b : Scr tB 0 [cmG, cmH, cmD] := by
  refine .cons (p' := 3) ⟨0, 0, 1, 2, 71, 3, by decide +kernel, by decide, ?_, ?_, ⟨by decide, by decide +kernel⟩, by decide, by decide +kernel, fun W => ⟨by kernel_rfl, by kernel_rfl⟩, .inr (by decide +kernel), by decide +kernel⟩ (.cons (p' := 5) ⟨0, 4, 4, 4, 104, 4, by decide +kernel, by decide, ?_, ?_, ⟨by decide, by decide +kernel⟩, by decide, by decide +kernel, fun W => ⟨by kernel_rfl, by kernel_rfl⟩, .inr (by decide +kernel), by decide +kernel⟩ (.cons (p' := 9) ⟨0, 6, 7, 8, 100, 0, by decide +kernel, by decide, ?_, ?_, ⟨by decide, by decide +kernel⟩, by decide, by decide +kernel, fun W => ⟨by kernel_rfl, by kernel_rfl⟩, .inl (by decide +kernel), by decide +kernel⟩ (.fin (f := 0) (by decide +kernel))))
  · intro d q W h1 h2 h3
    have hs : ∀ S, seesP tB S 0 = seesP q.T S q.pl := fun S => by rw [h1, h2]
    have := address_num h3 (by rw [h1, h2]; decide) (by rw [h1]; decide) (by rw [← hs]; decide +kernel) 1 (by rw [h1, h2]; decide +kernel) (by rw [h1, h2]; decide +kernel) (by decide) (by decide)
    have e : ov sD q.T q.pl = 1 := by rw [h1, h2]; decide +kernel
    rw [e] at this
    exact this
  · exact ⟨by decide, fun _ => by decide +kernel, by decide +kernel, by decide +kernel⟩
  · intro d q W h1 h2 h3
    have hs : ∀ S, seesP tB S 4 = seesP q.T S q.pl := fun S => by rw [h1, h2]
    have := address_none h3 (by rw [h1, h2]; decide) (by rw [h1]; decide) (by rw [← hs]; decide +kernel) (by rw [← hs]; decide +kernel) (by rw [← hs]; decide +kernel)
    have e : ({ q with pl := 4 } : Q) = q := by
      cases q
      simp at h2
      subst h2
      rfl
    rw [e]
    exact this
  · exact ⟨by decide, fun h => absurd rfl h, by decide +kernel, by decide +kernel⟩
  · intro d q W h1 h2 h3
    have hs : ∀ S, seesP tB S 6 = seesP q.T S q.pl := fun S => by rw [h1, h2]
    have := address_last h3 (by rw [h1, h2]; decide) (by rw [h1]; decide) (by rw [← hs]; decide +kernel) (by rw [← hs]; decide +kernel)
    rw [h2] at this
    exact this
  · exact ⟨by decide, fun _ => by decide +kernel, by decide +kernel, by decide +kernel⟩
end Go.Proofs.YtdhachmelgdknaaGreatDoor.rdr

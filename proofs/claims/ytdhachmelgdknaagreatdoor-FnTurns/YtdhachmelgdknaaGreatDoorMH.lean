/- The specification's reader: a command. -/
import Derived.Test.YtdhachmelgdknaaGreatDoorScr
import Derived.Deep.LoopGhost
import Derived.Test.YtdhachmelgdknaaGreatDoorAdd
import Derived.Laws.Tables
/- The specification's reader of scripts. -/
namespace Go.Proofs.YtdhachmelgdknaaGreatDoor.spa
open Go.ChangeShapes Go.WideShapes Go.ChangeAt Go.RowKit
open Go.Proofs.YtdhachmelgdknaaGreatDoor.bas Go.Proofs.YtdhachmelgdknaaGreatDoor.rdr
set_option linter.unusedVariables false
/-- A reader without a fault. -/
structure PQ where
  T : ByteArray
  at_ : Nat
  ere : Bool
  out : Value
def PQ.cells (q : PQ) : Array Value := #[.string q.T, .int .i64 (q.at_ : Nat), .bool q.ere, .int .i64 0, .int .i64 0, q.out, .slice none 0 0, .slice none 0 0, .slice none 0 0, .slice none 0 0, .slice none 0 0, .slice none 0 0]
def PB (w : World) (d : Nat) (q : PQ) : Prop := w.heap[d]? = some (.cells q.cells 49 (0, 0))
theorem PB.lt {w : World} {d : Nat} {q : PQ} (h : PB w d q) : d < w.heap.size := (Array.getElem?_eq_some_iff.1 h).1
theorem PB.keep {w w' : World} {d : Nat} {q : PQ} (h : PB w d q) (hk : w'.heap[d]? = w.heap[d]?) : PB w' d q := hk.trans h
theorem PB.below {w w' : World} {d : Nat} {q : PQ} (h : PB w d q) (hb : Below w.heap.size w w') : PB w' d q := h.keep (hb.block d h.lt)
theorem PB.fz {w : World} {d : Nat} {q : PQ} (h : PB w d q) (i : Nat) : w.frozen? ⟨d, i, none⟩ = false := frozen_of h i
theorem PB.c0 {w : World} {d : Nat} {q : PQ} (h : PB w d q) : w.cell? ⟨d, 0, none⟩ = some (.string q.T) := cell_of h rfl
theorem PB.c1 {w : World} {d : Nat} {q : PQ} (h : PB w d q) : w.cell? ⟨d, 1, none⟩ = some (.int .i64 (q.at_ : Nat)) := cell_of h rfl
theorem PB.c3 {w : World} {d : Nat} {q : PQ} (h : PB w d q) : w.cell? ⟨d, 3, none⟩ = some (.int .i64 0) := cell_of h rfl
theorem PB.c5 {w : World} {d : Nat} {q : PQ} (h : PB w d q) : w.cell? ⟨d, 5, none⟩ = some q.out := cell_of h rfl
theorem PB.c6 {w : World} {d : Nat} {q : PQ} (h : PB w d q) : w.cell? ⟨d, 6, none⟩ = some (.slice none 0 0) := cell_of h rfl
theorem PB.c9 {w : World} {d : Nat} {q : PQ} (h : PB w d q) : w.cell? ⟨d, 9, none⟩ = some (.slice none 0 0) := cell_of h rfl
theorem PB.set1 {w : World} {d : Nat} {q : PQ} (h : PB w d q) (k : Nat) : PB (w.setCell ⟨d, 1, none⟩ (.int .i64 (k : Nat))) d { q with at_ := k } := by
  have := heap_setCell_same w d 1 _ 49 (.int .i64 (k : Nat)) h
  simpa [PB, PQ.cells] using this
theorem PB.set5 {w : World} {d : Nat} {q : PQ} (h : PB w d q) (v : Value) : PB (w.setCell ⟨d, 5, none⟩ v) d { q with out := v } := by
  have := heap_setCell_same w d 5 _ 49 v h
  simpa [PB, PQ.cells] using this
/-- The byte at a place; 0 at the end. -/
def ByteAt (T : ByteArray) (k c : Nat) : Prop := (∃ h : k < T.size, (T[k]'h).toNat = c) ∨ (k = T.size ∧ c = 0)
/-- Behind a call that moves the reader to a place. -/
structure Pv (w : World) (d : Nat) (q : PQ) (k : Nat) (wr : World) : Prop where
  rb : PB wr d { q with at_ := k }
  gr : w.grownBy wr (some d)
theorem Pv.refl {w : World} {d : Nat} {q : PQ} (h : PB w d q) : Pv w d q q.at_ w := ⟨h, grown_refl w d⟩
theorem Pv.drew {w : World} {d : Nat} {q : PQ} {k : Nat} {wr : World} (h : Pv w d q k wr) (n : Nat) : Pv w d q k (wr.drewN n) := ⟨h.rb, grown_drew h.gr n⟩
set_option maxHeartbeats 1600000 in
theorem next_any {w : World} {d : Nat} {q : PQ} (h : PB w d q) (hT : q.T.size ≤ 100000) (c : Nat) (hc : ByteAt q.T q.at_ c) :
    Calls Tryz.prog 21 #[.pointer (some ⟨d, 0, none⟩)] w fun e w' => e = .returned (.int .u8 (c : Nat)) ∧ ∃ n, w' = w.drewN n := by
  have c0 := h.c0
  have c1 := h.c1
  have c3 := h.c3
  obtain ⟨T, eT⟩ : ∃ T, q.T = T := ⟨_, rfl⟩
  obtain ⟨p, ep⟩ : ∃ p, q.at_ = p := ⟨_, rfl⟩
  rw [eT] at c0 hT hc
  rw [ep] at c1 hc
  clear h eT ep
  rcases hc with ⟨hlt, hc⟩ | ⟨hpe, hc⟩
  · have hd : decide ((T.size : Int) ≤ (p : Int)) = false := by simp; omega
    subst hc
    go_enter Tryz.func21, Tryz.ntmps21
    go_wp2
    go_quiet (fail)
    go_wp2
    go_quiet (fail)
    go_wp2
    go_ret
    first | exact ⟨rfl, _, rfl⟩ | exact ⟨rfl, _, World.drewN_drewN ..⟩
  · subst hc
    have hd : decide ((T.size : Int) ≤ (p : Int)) = true := by simp; omega
    go_enter Tryz.func21, Tryz.ntmps21
    go_wp2
    go_quiet (fail)
    go_wp2
    go_ret
    exact ⟨rfl, _, rfl⟩
theorem pv_next {w : World} {d : Nat} {q : PQ} {k : Nat} {wr : World} (hm : Pv w d q k wr) (hT : q.T.size ≤ 100000) (c : Nat) (hc : ByteAt q.T k c) :
    Calls Tryz.prog 21 #[.pointer (some ⟨d, 0, none⟩)] wr fun e w' => e = .returned (.int .u8 (c : Nat)) ∧ Pv w d q k w' := by
  refine (next_any hm.rb hT c hc).mono ?_
  rintro e w' ⟨rfl, n, rfl⟩
  exact ⟨rfl, hm.drew n⟩
set_option maxHeartbeats 1600000 in
theorem digit_any (w : World) (c : Nat) : Calls Tryz.prog 62 #[.int .u8 (c : Nat)] w fun e w' => e = .returned (.bool (decide (48 ≤ c ∧ c ≤ 57))) ∧ w' = w := by
  by_cases h1 : 48 ≤ c
  · have q1 : decide ((48 : Int) ≤ (c : Int)) = true := by simp; omega
    by_cases h2 : c ≤ 57
    · have q2 : decide ((c : Int) ≤ 57) = true := by simp; omega
      rw [decide_eq_true ⟨h1, h2⟩]
      clear h1 h2
      go_enter Tryz.func62, Tryz.ntmps62
      go_wp2
      go_ret
      exact ⟨rfl, rfl⟩
    · have q2 : decide ((c : Int) ≤ 57) = false := by simp; omega
      rw [decide_eq_false (fun h => h2 h.2)]
      clear h1 h2
      go_enter Tryz.func62, Tryz.ntmps62
      go_wp2
      go_ret
      exact ⟨rfl, rfl⟩
  · have q1 : decide ((48 : Int) ≤ (c : Int)) = false := by simp; omega
    rw [decide_eq_false (fun h => h1 h.1)]
    clear h1
    go_enter Tryz.func62, Tryz.ntmps62
    go_wp2
    go_ret
    exact ⟨rfl, rfl⟩
set_option maxHeartbeats 1600000 in
theorem blanks_no {w : World} {d : Nat} {q : PQ} {k : Nat} {wr : World} (hm : Pv w d q k wr) (hT : q.T.size ≤ 100000) (c : Nat) (hc : ByteAt q.T k c) (h1 : c ≠ 32) (h2 : c ≠ 9) :
    Calls Tryz.prog 40 #[.pointer (some ⟨d, 0, none⟩)] wr fun e w' => e = .returned (.tuple #[]) ∧ Pv w d q k w' := by
  have HN : Hid (∀ W, Pv w d q k W → Calls Tryz.prog 21 #[.pointer (some ⟨d, 0, none⟩)] W fun e w' => e = .returned (.int .u8 (c : Nat)) ∧ Hid (Pv w d q k w')) := fun W hW => pv_next hW hT c hc
  have H0 := hide hm
  have q1 : ((c : Int) == 32) = false := by rw [beq_eq_false_iff_ne]; omega
  have q2 : ((c : Int) == 9) = false := by rw [beq_eq_false_iff_ne]; omega
  obtain ⟨v, hv⟩ : ∃ v : Int, (c : Int) = v := ⟨_, rfl⟩
  rw [hv] at HN q1 q2
  clear hm hc h1 h2 hv
  go_enter Tryz.func40, Tryz.ntmps40
  go_wp2
  go_loopg [2] 0 (fun gk s wx => Hid (Pv w d q k wx))
  case atStart => exact H0
  case round =>
    have HP := hrel
    clear H0 hrel
    go_wp2_with (first
      | (have _h := HP1; go_at_call 21; refine (HN.out _ HP1.out).mono ?_; rintro e w2 ⟨rfl, HP2⟩)
      | (go_at_call 21; refine (HN.out _ HP.out).mono ?_; rintro e w1 ⟨rfl, HP1⟩))
    go_end0
    exact ⟨rfl, HP2.out⟩
end Go.Proofs.YtdhachmelgdknaaGreatDoor.spa
/- The specification's reader: numbers, addresses, ends. -/
namespace Go.Proofs.YtdhachmelgdknaaGreatDoor.spa
open Go.ChangeShapes Go.WideShapes Go.ChangeAt Go.RowKit
open Go.Proofs.YtdhachmelgdknaaGreatDoor.bas Go.Proofs.YtdhachmelgdknaaGreatDoor.rdr
set_option linter.unusedVariables false
/-- At its place, or behind it. -/
def NumAt (w : World) (d : Nat) (q : PQ) (k : Nat) (v : Value) (wx : World) : Prop := (v = .int .i64 0 ∧ Pv w d q k wx) ∨ (v = .int .i64 1 ∧ Pv w d q (k + 1) wx)
set_option maxHeartbeats 3200000 in
theorem number_one {w : World} {d : Nat} {q : PQ} {k : Nat} {wr : World} (hm : Pv w d q k wr) (hT : q.T.size ≤ 100000) (hlt : k < q.T.size) (h49 : (q.T[k]'hlt).toNat = 49) (c : Nat) (hc : ByteAt q.T (k + 1) c) (hnd : ¬ (48 ≤ c ∧ c ≤ 57)) :
    Calls Tryz.prog 63 #[.pointer (some ⟨d, 0, none⟩)] wr fun e w' => e = .returned (.int .i64 1) ∧ Pv w d q (k + 1) w' := by
  have c1 := hm.rb.c1
  dsimp only at c1
  have HN : Hid (∀ W, Pv w d q k W → Calls Tryz.prog 21 #[.pointer (some ⟨d, 0, none⟩)] W fun e w' => e = .returned (.int .u8 49) ∧ Hid (Pv w d q k w')) := fun W hW => pv_next hW hT 49 (.inl ⟨hlt, h49⟩)
  have HN2 : Hid (∀ W, Pv w d q (k + 1) W → Calls Tryz.prog 21 #[.pointer (some ⟨d, 0, none⟩)] W fun e w' => e = .returned (.int .u8 (c : Nat)) ∧ Hid (Pv w d q (k + 1) w')) := fun W hW => pv_next hW hT c hc
  have HD : Hid (∀ W, Calls Tryz.prog 62 #[.int .u8 49] W fun e w' => e = .returned (.bool true) ∧ w' = W) := fun W => digit_any W 49
  have HD2 : Hid (∀ W, Calls Tryz.prog 62 #[.int .u8 (c : Nat)] W fun e w' => e = .returned (.bool false) ∧ w' = W) := fun W => by
    have := digit_any W c
    rw [decide_eq_false hnd] at this
    exact this
  obtain ⟨T, eT⟩ : ∃ T, q.T = T := ⟨_, rfl⟩
  have HC : Hid (∀ W, Pv w d q k W → W.cell? ⟨d, 0, none⟩ = some (.string T) ∧ W.cell? ⟨d, 1, none⟩ = some (.int .i64 (k : Nat)) ∧ W.frozen? ⟨d, 1, none⟩ = false ∧ ∀ n, Hid (Pv w d q (k + 1) ((W.drewN n).setCell ⟨d, 1, none⟩ (.int .i64 ((k : Int) + 1))))) := fun W hW => ⟨by rw [← eT]; exact hW.rb.c0, hW.rb.c1, hW.rb.fz 1, fun n => by
    have hr := PB.set1 (w := W.drewN n) hW.rb (k + 1)
    have hg := grown_set (grown_drew hW.gr n) 1 (.int .i64 ((k : Int) + 1))
    exact ⟨hr, hg⟩⟩
  have hlt2 : k < T.size := by rw [← eT]; exact hlt
  have h49b : (T[k]'hlt2).toNat = 49 := by subst eT; exact h49
  have H0 : Hid (NumAt w d q k (.int .i64 0) wr) := .inl ⟨rfl, hm⟩
  obtain ⟨v, hv⟩ : ∃ v : Int, (c : Int) = v := ⟨_, rfl⟩
  rw [hv] at HN2 HD2
  have hTk : k < 100000 := by rw [← eT] at hlt2; omega
  clear hm hc hnd hv eT h49 hT
  go_enter Tryz.func63, Tryz.ntmps63
  go_wp2
  go_loopg [4] 2 (fun gk s wx => ∃ b : Bool, gk = (if b then 1 else 2) ∧ s = (if b then .int .i64 1 else .int .i64 0) ∧ Hid (Pv w d q (if b then k + 1 else k) wx))
  case atStart => exact ⟨false, rfl, rfl, hide (by rcases H0.out with ⟨_, h⟩ | ⟨h, _⟩; exact h; cases h)⟩
  case round =>
    obtain ⟨b, hgk, rfl, HP⟩ := hrel
    clear H0
    cases b with
    | false =>
      simp only [Bool.false_eq_true, if_false] at HP hgk ⊢
      clear HN2 HD2
      go_wp2_with fail
      refine (HN.out _ HP.out).mono ?_
      rintro e w1 ⟨rfl, HP1⟩
      clear HP
      go_wp2_with fail
      refine (HD.out _).mono ?_
      rintro e w2 ⟨rfl, hw⟩
      have hw := hw.symm
      subst hw
      obtain ⟨x0, x1, xf, xs⟩ := HC.out _ HP1.out
      have hkk : decide ((k : Int) - (k : Int) < 9) = true := by simp
      have hk0 : (k : Int) - (k : Int) = 0 := by omega
      clear HN HD HC c1
      go_wp2
      go_quiet (fail)
      have y1 : (w1.drewN nq).cell? ⟨d, 1, none⟩ = some (.int .i64 (k : Nat)) := x1
      have yf : (w1.drewN nq).frozen? ⟨d, 1, none⟩ = false := xf
      have HS := xs nq
      clear x0 x1 xf xs HP1
      go_wp2
      go_roundg 1
      case rel => exact ⟨true, rfl, rfl, HS⟩
      case measure => rw [hgk]; decide
    | true =>
      simp only [if_true] at HP hgk ⊢
      clear HN HD HC c1
      go_wp2_with fail
      refine (HN2.out _ HP.out).mono ?_
      rintro e w1 ⟨rfl, HP1⟩
      clear HP
      go_wp2_with fail
      refine (HD2.out _).mono ?_
      rintro e w2 ⟨rfl, hw⟩
      have hw := hw.symm
      subst hw
      go_wp2_with fail
      refine (HN2.out _ HP1.out).mono ?_
      rintro e w3 ⟨rfl, HP2⟩
      clear HP1
      go_wp2_with fail
      refine (HD2.out _).mono ?_
      rintro e w4 ⟨rfl, hw⟩
      have hw := hw.symm
      subst hw
      go_wp2
      go_ret
      exact ⟨rfl, HP2.out⟩
set_option maxHeartbeats 1600000 in
theorem addr_none {d : Nat} {q : PQ} {w : World} (h : PB w d q) (hk : q.at_ ≤ q.T.size) (hT : q.T.size ≤ 100000) (c : Nat) (hc : ByteAt q.T q.at_ c) (h1 : ¬ (48 ≤ c ∧ c ≤ 57)) (h2 : c ≠ 36) (h3 : c ≠ 47) :
    Calls Tryz.prog 39 #[.pointer (some ⟨d, 0, none⟩)] w fun e w' => e = .returned (.agg #[.int .i64 0, .int .i64 0, .int .i64 0, .int .i64 0, .int .i64 0, .string ⟨#[]⟩, .slice none 0 0]) ∧ PB w' d { q with at_ := q.at_ } ∧ w.grownBy w' (some d) := by
  obtain ⟨W0, hW0⟩ : ∃ W0, w.alloc (.cells #[.int .i64 0, .int .i64 0, .int .i64 0, .int .i64 0, .int .i64 0, .string ⟨#[]⟩, .slice none 0 0] 58) = W0 := ⟨_, rfl⟩
  have b0 : Below w.heap.size w W0 := by rw [← hW0]; exact more (Below.refl _ _) _
  have x0 : W0.heap[w.heap.size]? = some (.cells #[.int .i64 0, .int .i64 0, .int .i64 0, .int .i64 0, .int .i64 0, .string ⟨#[]⟩, .slice none 0 0] 58 (0, 0)) := by rw [← hW0]; exact heap_alloc_new w _
  have s0 : W0.heap.size = w.heap.size + 1 := by rw [← hW0]; exact World.size_alloc ..
  have hd := h.lt
  have M0 : Pv W0 d q q.at_ W0 := Pv.refl (h.below b0)
  have HF : Hid (∀ w1 (ak an : Int) kk, Pv W0 d q kk w1 → (w1.cell? ⟨w.heap.size, 0, none⟩ = some (.int .i64 0) ∧ w1.cell? ⟨w.heap.size, 1, none⟩ = some (.int .i64 0) ∧ w1.cell? ⟨w.heap.size, 2, none⟩ = some (.int .i64 0) ∧ w1.cell? ⟨w.heap.size, 3, none⟩ = some (.int .i64 0) ∧ w1.cell? ⟨w.heap.size, 4, none⟩ = some (.int .i64 0) ∧ w1.cell? ⟨w.heap.size, 5, none⟩ = some (.string ⟨#[]⟩) ∧ w1.cell? ⟨w.heap.size, 6, none⟩ = some (.slice none 0 0)) ∧ (∀ i, w1.frozen? ⟨w.heap.size, i, none⟩ = false) ∧ ∃ WF, Hid ((((((((w1.setCell ⟨w.heap.size, 0, none⟩ (.int .i64 ak)).setCell ⟨w.heap.size, 1, none⟩ (.int .i64 an)).setCell ⟨w.heap.size, 2, none⟩ (.int .i64 0)).setCell ⟨w.heap.size, 3, none⟩ (.int .i64 0)).setCell ⟨w.heap.size, 4, none⟩ (.int .i64 0)).setCell ⟨w.heap.size, 5, none⟩ (.string ⟨#[]⟩)).setCell ⟨w.heap.size, 6, none⟩ (.slice none 0 0)) = WF) ∧ Hid (WF.heap[w.heap.size]? = some (.cells #[.int .i64 ak, .int .i64 an, .int .i64 0, .int .i64 0, .int .i64 0, .string ⟨#[]⟩, .slice none 0 0] 58 (0, 0))) ∧ Hid (PB WF d { q with at_ := kk } ∧ w.grownBy WF (some d))) := by
    intro w1 ak an kk hm
    have y : w1.heap[w.heap.size]? = some (.cells #[.int .i64 0, .int .i64 0, .int .i64 0, .int .i64 0, .int .i64 0, .string ⟨#[]⟩, .slice none 0 0] 58 (0, 0)) := (hm.gr.block _ (by omega) (by simp; omega)).trans x0
    obtain ⟨z1, z2, z3, z4, z5, z6⟩ := sets7 y ak an
    obtain ⟨WF, hWF⟩ : ∃ WF, (((((((w1.setCell ⟨w.heap.size, 0, none⟩ (.int .i64 ak)).setCell ⟨w.heap.size, 1, none⟩ (.int .i64 an)).setCell ⟨w.heap.size, 2, none⟩ (.int .i64 0)).setCell ⟨w.heap.size, 3, none⟩ (.int .i64 0)).setCell ⟨w.heap.size, 4, none⟩ (.int .i64 0)).setCell ⟨w.heap.size, 5, none⟩ (.string ⟨#[]⟩)).setCell ⟨w.heap.size, 6, none⟩ (.slice none 0 0)) = WF := ⟨_, rfl⟩
    rw [hWF] at z1 z2 z3 z4 z5 z6
    refine ⟨⟨cell_of y rfl, cell_of y rfl, cell_of y rfl, cell_of y rfl, cell_of y rfl, cell_of y rfl, cell_of y rfl⟩, fun i => frozen_of y i, WF, hWF, z1, hm.rb.keep (z2 d (by omega)), ?_⟩
    have g := grown_tr (grown_of (d := d) b0) hm.gr
    exact ⟨z4.trans g.os, z5.trans g.tape, z6.trans g.output, by rw [z3]; exact g.size, fun k hk hn => (z2 k (by omega)).trans (g.block k hk hn)⟩
  have HM0 := hide M0
  clear M0 h b0 x0
  go_enter Tryz.func39, Tryz.ntmps39
  have H1 := hide (pv_next HM0.out hT c hc)
  clear HM0
  obtain ⟨v, hv⟩ : ∃ v : Int, (c : Int) = v := ⟨_, rfl⟩
  rw [hv] at H1
  go_wp2_with fail
  (try rw [hW0])
  refine H1.out.mono ?_
  rintro e w1 ⟨rfl, hm1⟩
  have HM1 := hide hm1
  have c1 := hm1.rb.c1
  dsimp only at c1
  clear H1 hm1 hW0
  have HD := digit_any w1 c
  rw [decide_eq_false h1, hv] at HD
  have HD := hide HD
  go_wp2_with fail
  refine HD.out.mono ?_
  rintro e w2 ⟨rfl, hw⟩
  have hw := hw.symm
  subst hw
  clear HD
  have q1 : (v == 36) = false := by rw [beq_eq_false_iff_ne]; omega
  have q2 : (v == 47) = false := by rw [beq_eq_false_iff_ne]; omega
  clear hv hc
  obtain ⟨⟨c0, c1, c2, c3, c4, c5, c6⟩, hfz, WF, hWF, HW, HB⟩ := HF.out w1 0 0 _ HM1.out
  have g0 := hfz 0
  have g1 := hfz 1
  have g2 := hfz 2
  have g3 := hfz 3
  have g4 := hfz 4
  have g5 := hfz 5
  have g6 := hfz 6
  clear hfz HF HM1
  go_wp2
  rw [hWF.out]
  refine bodyPost_ret (v := .agg #[.int .i64 0, .int .i64 0, .int .i64 0, .int .i64 0, .int .i64 0, .string ⟨#[]⟩, .slice none 0 0]) (results_cell_row rfl _ _ _ 58 _ (0, 0) _ rfl HW.out Tryz.underlying58 rfl (by kernel_rfl)) rfl ⟨rfl, HB.out⟩

set_option maxHeartbeats 1600000 in
theorem addr_last {d : Nat} {q : PQ} {w : World} (h : PB w d q) (hk : q.at_ ≤ q.T.size) (hT : q.T.size ≤ 100000) (hc : ByteAt q.T q.at_ 36) :
    Calls Tryz.prog 39 #[.pointer (some ⟨d, 0, none⟩)] w fun e w' => e = .returned (.agg #[.int .i64 2, .int .i64 0, .int .i64 0, .int .i64 0, .int .i64 0, .string ⟨#[]⟩, .slice none 0 0]) ∧ PB w' d { q with at_ := q.at_ + 1 } ∧ w.grownBy w' (some d) := by
  obtain ⟨W0, hW0⟩ : ∃ W0, w.alloc (.cells #[.int .i64 0, .int .i64 0, .int .i64 0, .int .i64 0, .int .i64 0, .string ⟨#[]⟩, .slice none 0 0] 58) = W0 := ⟨_, rfl⟩
  have b0 : Below w.heap.size w W0 := by rw [← hW0]; exact more (Below.refl _ _) _
  have x0 : W0.heap[w.heap.size]? = some (.cells #[.int .i64 0, .int .i64 0, .int .i64 0, .int .i64 0, .int .i64 0, .string ⟨#[]⟩, .slice none 0 0] 58 (0, 0)) := by rw [← hW0]; exact heap_alloc_new w _
  have s0 : W0.heap.size = w.heap.size + 1 := by rw [← hW0]; exact World.size_alloc ..
  have hd := h.lt
  have M0 : Pv W0 d q q.at_ W0 := Pv.refl (h.below b0)
  have HF : Hid (∀ w1 (ak an : Int) kk, Pv W0 d q kk w1 → (w1.cell? ⟨w.heap.size, 0, none⟩ = some (.int .i64 0) ∧ w1.cell? ⟨w.heap.size, 1, none⟩ = some (.int .i64 0) ∧ w1.cell? ⟨w.heap.size, 2, none⟩ = some (.int .i64 0) ∧ w1.cell? ⟨w.heap.size, 3, none⟩ = some (.int .i64 0) ∧ w1.cell? ⟨w.heap.size, 4, none⟩ = some (.int .i64 0) ∧ w1.cell? ⟨w.heap.size, 5, none⟩ = some (.string ⟨#[]⟩) ∧ w1.cell? ⟨w.heap.size, 6, none⟩ = some (.slice none 0 0)) ∧ (∀ i, w1.frozen? ⟨w.heap.size, i, none⟩ = false) ∧ ∃ WF, Hid ((((((((w1.setCell ⟨w.heap.size, 0, none⟩ (.int .i64 ak)).setCell ⟨w.heap.size, 1, none⟩ (.int .i64 an)).setCell ⟨w.heap.size, 2, none⟩ (.int .i64 0)).setCell ⟨w.heap.size, 3, none⟩ (.int .i64 0)).setCell ⟨w.heap.size, 4, none⟩ (.int .i64 0)).setCell ⟨w.heap.size, 5, none⟩ (.string ⟨#[]⟩)).setCell ⟨w.heap.size, 6, none⟩ (.slice none 0 0)) = WF) ∧ Hid (WF.heap[w.heap.size]? = some (.cells #[.int .i64 ak, .int .i64 an, .int .i64 0, .int .i64 0, .int .i64 0, .string ⟨#[]⟩, .slice none 0 0] 58 (0, 0))) ∧ Hid (PB WF d { q with at_ := kk } ∧ w.grownBy WF (some d))) := by
    intro w1 ak an kk hm
    have y : w1.heap[w.heap.size]? = some (.cells #[.int .i64 0, .int .i64 0, .int .i64 0, .int .i64 0, .int .i64 0, .string ⟨#[]⟩, .slice none 0 0] 58 (0, 0)) := (hm.gr.block _ (by omega) (by simp; omega)).trans x0
    obtain ⟨z1, z2, z3, z4, z5, z6⟩ := sets7 y ak an
    obtain ⟨WF, hWF⟩ : ∃ WF, (((((((w1.setCell ⟨w.heap.size, 0, none⟩ (.int .i64 ak)).setCell ⟨w.heap.size, 1, none⟩ (.int .i64 an)).setCell ⟨w.heap.size, 2, none⟩ (.int .i64 0)).setCell ⟨w.heap.size, 3, none⟩ (.int .i64 0)).setCell ⟨w.heap.size, 4, none⟩ (.int .i64 0)).setCell ⟨w.heap.size, 5, none⟩ (.string ⟨#[]⟩)).setCell ⟨w.heap.size, 6, none⟩ (.slice none 0 0)) = WF := ⟨_, rfl⟩
    rw [hWF] at z1 z2 z3 z4 z5 z6
    refine ⟨⟨cell_of y rfl, cell_of y rfl, cell_of y rfl, cell_of y rfl, cell_of y rfl, cell_of y rfl, cell_of y rfl⟩, fun i => frozen_of y i, WF, hWF, z1, hm.rb.keep (z2 d (by omega)), ?_⟩
    have g := grown_tr (grown_of (d := d) b0) hm.gr
    exact ⟨z4.trans g.os, z5.trans g.tape, z6.trans g.output, by rw [z3]; exact g.size, fun k hk hn => (z2 k (by omega)).trans (g.block k hk hn)⟩
  have HM0 := hide M0
  clear M0 h b0 x0
  go_enter Tryz.func39, Tryz.ntmps39
  obtain ⟨c, ec⟩ : ∃ c : Nat, c = 36 := ⟨_, rfl⟩
  rw [← ec] at hc
  have H1 := hide (pv_next HM0.out hT c hc)
  clear HM0
  obtain ⟨v, hv⟩ : ∃ v : Int, (c : Int) = v := ⟨_, rfl⟩
  rw [hv] at H1
  go_wp2_with fail
  (try rw [hW0])
  refine H1.out.mono ?_
  rintro e w1 ⟨rfl, hm1⟩
  have HM1 := hide hm1
  have c1 := hm1.rb.c1
  dsimp only at c1
  clear H1 hm1 hW0
  have HD := digit_any w1 c
  rw [decide_eq_false (by omega), hv] at HD
  have HD := hide HD
  go_wp2_with fail
  refine HD.out.mono ?_
  rintro e w2 ⟨rfl, hw⟩
  have hw := hw.symm
  subst hw
  clear HD
  have q1 : (v == 36) = true := by rw [beq_iff_eq]; omega
  have f1 := HM1.out.rb.fz 1
  have HM2 : Hid (Pv W0 d q (q.at_ + 1) (w1.setCell ⟨d, 1, none⟩ (.int .i64 ((q.at_ : Int) + 1)))) := ⟨HM1.out.rb.set1 (q.at_ + 1), grown_set HM1.out.gr _ _⟩
  obtain ⟨p, ep⟩ : ∃ p, q.at_ = p := ⟨_, rfl⟩
  have hpT : p < 100000 := by rcases hc with ⟨h, _⟩ | ⟨_, h⟩ <;> omega
  rw [ep] at c1
  have HM2e := HM2
  rw [ep] at HM2
  obtain ⟨w2, hw2⟩ : ∃ w2, w1.setCell ⟨d, 1, none⟩ (.int .i64 ((p : Int) + 1)) = w2 := ⟨_, rfl⟩
  rw [hw2] at HM2
  clear hv hc HM2e
  obtain ⟨⟨c0, c1, c2, c3, c4, c5, c6⟩, hfz, WF, hWF, HW, HB⟩ := HF.out w2 2 0 (q.at_ + 1) (by rw [ep]; exact HM2.out)
  have g0 := hfz 0
  have g1 := hfz 1
  have g2 := hfz 2
  have g3 := hfz 3
  have g4 := hfz 4
  have g5 := hfz 5
  have g6 := hfz 6
  clear hfz HF HM2
  go_wp2
  rw [hWF.out]
  refine bodyPost_ret (v := .agg #[.int .i64 2, .int .i64 0, .int .i64 0, .int .i64 0, .int .i64 0, .string ⟨#[]⟩, .slice none 0 0]) (results_cell_row rfl _ _ _ 58 _ (0, 0) _ rfl HW.out Tryz.underlying58 rfl (by kernel_rfl)) rfl ⟨rfl, HB.out⟩

set_option maxHeartbeats 1600000 in
theorem addr_one {d : Nat} {q : PQ} {w : World} (h : PB w d q) (hk : q.at_ ≤ q.T.size) (hT : q.T.size ≤ 100000) (hlt : q.at_ < q.T.size) (h49 : (q.T[q.at_]'hlt).toNat = 49) (c2 : Nat) (hc2 : ByteAt q.T (q.at_ + 1) c2) (hnd : ¬ (48 ≤ c2 ∧ c2 ≤ 57)) :
    Calls Tryz.prog 39 #[.pointer (some ⟨d, 0, none⟩)] w fun e w' => e = .returned (.agg #[.int .i64 1, .int .i64 1, .int .i64 0, .int .i64 0, .int .i64 0, .string ⟨#[]⟩, .slice none 0 0]) ∧ PB w' d { q with at_ := q.at_ + 1 } ∧ w.grownBy w' (some d) := by
  obtain ⟨W0, hW0⟩ : ∃ W0, w.alloc (.cells #[.int .i64 0, .int .i64 0, .int .i64 0, .int .i64 0, .int .i64 0, .string ⟨#[]⟩, .slice none 0 0] 58) = W0 := ⟨_, rfl⟩
  have b0 : Below w.heap.size w W0 := by rw [← hW0]; exact more (Below.refl _ _) _
  have x0 : W0.heap[w.heap.size]? = some (.cells #[.int .i64 0, .int .i64 0, .int .i64 0, .int .i64 0, .int .i64 0, .string ⟨#[]⟩, .slice none 0 0] 58 (0, 0)) := by rw [← hW0]; exact heap_alloc_new w _
  have s0 : W0.heap.size = w.heap.size + 1 := by rw [← hW0]; exact World.size_alloc ..
  have hd := h.lt
  have M0 : Pv W0 d q q.at_ W0 := Pv.refl (h.below b0)
  have HF : Hid (∀ w1 (ak an : Int) kk, Pv W0 d q kk w1 → (w1.cell? ⟨w.heap.size, 0, none⟩ = some (.int .i64 0) ∧ w1.cell? ⟨w.heap.size, 1, none⟩ = some (.int .i64 0) ∧ w1.cell? ⟨w.heap.size, 2, none⟩ = some (.int .i64 0) ∧ w1.cell? ⟨w.heap.size, 3, none⟩ = some (.int .i64 0) ∧ w1.cell? ⟨w.heap.size, 4, none⟩ = some (.int .i64 0) ∧ w1.cell? ⟨w.heap.size, 5, none⟩ = some (.string ⟨#[]⟩) ∧ w1.cell? ⟨w.heap.size, 6, none⟩ = some (.slice none 0 0)) ∧ (∀ i, w1.frozen? ⟨w.heap.size, i, none⟩ = false) ∧ ∃ WF, Hid ((((((((w1.setCell ⟨w.heap.size, 0, none⟩ (.int .i64 ak)).setCell ⟨w.heap.size, 1, none⟩ (.int .i64 an)).setCell ⟨w.heap.size, 2, none⟩ (.int .i64 0)).setCell ⟨w.heap.size, 3, none⟩ (.int .i64 0)).setCell ⟨w.heap.size, 4, none⟩ (.int .i64 0)).setCell ⟨w.heap.size, 5, none⟩ (.string ⟨#[]⟩)).setCell ⟨w.heap.size, 6, none⟩ (.slice none 0 0)) = WF) ∧ Hid (WF.heap[w.heap.size]? = some (.cells #[.int .i64 ak, .int .i64 an, .int .i64 0, .int .i64 0, .int .i64 0, .string ⟨#[]⟩, .slice none 0 0] 58 (0, 0))) ∧ Hid (PB WF d { q with at_ := kk } ∧ w.grownBy WF (some d))) := by
    intro w1 ak an kk hm
    have y : w1.heap[w.heap.size]? = some (.cells #[.int .i64 0, .int .i64 0, .int .i64 0, .int .i64 0, .int .i64 0, .string ⟨#[]⟩, .slice none 0 0] 58 (0, 0)) := (hm.gr.block _ (by omega) (by simp; omega)).trans x0
    obtain ⟨z1, z2, z3, z4, z5, z6⟩ := sets7 y ak an
    obtain ⟨WF, hWF⟩ : ∃ WF, (((((((w1.setCell ⟨w.heap.size, 0, none⟩ (.int .i64 ak)).setCell ⟨w.heap.size, 1, none⟩ (.int .i64 an)).setCell ⟨w.heap.size, 2, none⟩ (.int .i64 0)).setCell ⟨w.heap.size, 3, none⟩ (.int .i64 0)).setCell ⟨w.heap.size, 4, none⟩ (.int .i64 0)).setCell ⟨w.heap.size, 5, none⟩ (.string ⟨#[]⟩)).setCell ⟨w.heap.size, 6, none⟩ (.slice none 0 0)) = WF := ⟨_, rfl⟩
    rw [hWF] at z1 z2 z3 z4 z5 z6
    refine ⟨⟨cell_of y rfl, cell_of y rfl, cell_of y rfl, cell_of y rfl, cell_of y rfl, cell_of y rfl, cell_of y rfl⟩, fun i => frozen_of y i, WF, hWF, z1, hm.rb.keep (z2 d (by omega)), ?_⟩
    have g := grown_tr (grown_of (d := d) b0) hm.gr
    exact ⟨z4.trans g.os, z5.trans g.tape, z6.trans g.output, by rw [z3]; exact g.size, fun k hk hn => (z2 k (by omega)).trans (g.block k hk hn)⟩
  have HM0 := hide M0
  clear M0 h b0 x0
  go_enter Tryz.func39, Tryz.ntmps39
  obtain ⟨c, ec⟩ : ∃ c : Nat, c = 49 := ⟨_, rfl⟩
  have hc : ByteAt q.T q.at_ c := .inl ⟨hlt, by rw [ec]; exact h49⟩
  have H1 := hide (pv_next HM0.out hT c hc)
  clear HM0
  obtain ⟨v, hv⟩ : ∃ v : Int, (c : Int) = v := ⟨_, rfl⟩
  rw [hv] at H1
  go_wp2_with fail
  (try rw [hW0])
  refine H1.out.mono ?_
  rintro e w1 ⟨rfl, hm1⟩
  have HM1 := hide hm1
  have c1 := hm1.rb.c1
  dsimp only at c1
  clear H1 hm1 hW0
  have HD := digit_any w1 c
  rw [decide_eq_true (by omega), hv] at HD
  have HD := hide HD
  go_wp2_with fail
  refine HD.out.mono ?_
  rintro e w2 ⟨rfl, hw⟩
  have hw := hw.symm
  subst hw
  clear HD
  have HM1n := hide (number_one HM1.out hT hlt h49 c2 hc2 hnd)
  clear hv hc HM1 hc2 hnd h49
  go_wp2_with fail
  refine HM1n.out.mono ?_
  rintro e w2 ⟨rfl, hm2⟩
  have HM2 := hide hm2
  clear HM1n hm2
  obtain ⟨⟨c0, c1, c2, c3, c4, c5, c6⟩, hfz, WF, hWF, HW, HB⟩ := HF.out w2 1 1 _ HM2.out
  have g0 := hfz 0
  have g1 := hfz 1
  have g2 := hfz 2
  have g3 := hfz 3
  have g4 := hfz 4
  have g5 := hfz 5
  have g6 := hfz 6
  clear hfz HF HM2
  go_wp2
  rw [hWF.out]
  refine bodyPost_ret (v := .agg #[.int .i64 1, .int .i64 1, .int .i64 0, .int .i64 0, .int .i64 0, .string ⟨#[]⟩, .slice none 0 0]) (results_cell_row rfl _ _ _ 58 _ (0, 0) _ rfl HW.out Tryz.underlying58 rfl (by kernel_rfl)) rfl ⟨rfl, HB.out⟩

set_option maxHeartbeats 1600000 in
/-- The script's end. -/
theorem ended_end {w : World} {d : Nat} {q : PQ} {k : Nat} {wr : World} (hm : Pv w d q k wr) (hT : q.T.size ≤ 100000) (hk : k = q.T.size) :
    Calls Tryz.prog 65 #[.pointer (some ⟨d, 0, none⟩)] wr fun e w' => e = .returned (.tuple #[]) ∧ Pv w d q k w' := by
  have hc : ByteAt q.T k 0 := .inr ⟨hk, rfl⟩
  have HB := hide (blanks_no hm hT 0 hc (by decide) (by decide))
  have HN : Hid (∀ W, Pv w d q k W → Calls Tryz.prog 21 #[.pointer (some ⟨d, 0, none⟩)] W fun e w' => e = .returned (.int .u8 0) ∧ Hid (Pv w d q k w')) := fun W hW => pv_next hW hT 0 hc
  obtain ⟨T, eT⟩ : ∃ T, q.T = T := ⟨_, rfl⟩
  have HC : Hid (∀ W, Pv w d q k W → W.cell? ⟨d, 0, none⟩ = some (.string T) ∧ W.cell? ⟨d, 1, none⟩ = some (.int .i64 (k : Nat)) ∧ W.cell? ⟨d, 3, none⟩ = some (.int .i64 0)) := fun W hW => ⟨by rw [← eT]; exact hW.rb.c0, hW.rb.c1, hW.rb.c3⟩
  have hd : decide ((T.size : Int) ≤ (k : Int)) = true := by rw [← eT]; simp; omega
  have hdN : decide (T.size ≤ k) = true := by rw [← eT]; simp; omega
  clear hm hk hc eT hT
  go_enter Tryz.func65, Tryz.ntmps65
  go_wp2_with fail
  refine HB.out.mono ?_
  rintro e w1 ⟨rfl, h1⟩
  have HP1 := hide h1
  clear HB h1
  go_wp2_with fail
  refine (HN.out _ HP1.out).mono ?_
  rintro e w2 ⟨rfl, HP2⟩
  obtain ⟨x0, x1, x3⟩ := HC.out _ HP2.out
  clear HP1 HN HC
  go_wp2
  go_quiet (fail)
  go_wp2
  go_end0
  exact ⟨rfl, HP2.out.drew _⟩
set_option maxHeartbeats 1600000 in
/-- A semicolon. -/
theorem ended_semi {w : World} {d : Nat} {q : PQ} {k : Nat} {wr : World} (hm : Pv w d q k wr) (hT : q.T.size ≤ 100000) (hlt : k < q.T.size) (h59 : (q.T[k]'hlt).toNat = 59) :
    Calls Tryz.prog 65 #[.pointer (some ⟨d, 0, none⟩)] wr fun e w' => e = .returned (.tuple #[]) ∧ Pv w d q (k + 1) w' := by
  have hc : ByteAt q.T k 59 := .inl ⟨hlt, h59⟩
  have HB := hide (blanks_no hm hT 59 hc (by decide) (by decide))
  have HN : Hid (∀ W, Pv w d q k W → Calls Tryz.prog 21 #[.pointer (some ⟨d, 0, none⟩)] W fun e w' => e = .returned (.int .u8 59) ∧ Hid (Pv w d q k w')) := fun W hW => pv_next hW hT 59 hc
  obtain ⟨T, eT⟩ : ∃ T, q.T = T := ⟨_, rfl⟩
  have HC : Hid (∀ W, Pv w d q k W → W.cell? ⟨d, 0, none⟩ = some (.string T) ∧ W.cell? ⟨d, 1, none⟩ = some (.int .i64 (k : Nat)) ∧ W.cell? ⟨d, 3, none⟩ = some (.int .i64 0) ∧ W.frozen? ⟨d, 1, none⟩ = false ∧ ∀ n, Hid (Pv w d q (k + 1) ((W.drewN n).setCell ⟨d, 1, none⟩ (.int .i64 ((k : Int) + 1))))) := fun W hW => ⟨by rw [← eT]; exact hW.rb.c0, hW.rb.c1, hW.rb.c3, hW.rb.fz 1, fun n => ⟨PB.set1 (w := W.drewN n) hW.rb (k + 1), grown_set (grown_drew hW.gr n) 1 (.int .i64 ((k : Int) + 1))⟩⟩
  have hd : decide ((T.size : Int) ≤ (k : Int)) = false := by rw [← eT]; simp; omega
  have hdN : decide (T.size ≤ k) = false := by rw [← eT]; simp; omega
  have hTk : k < 100000 := by omega
  clear hm hc eT hT h59
  go_enter Tryz.func65, Tryz.ntmps65
  go_wp2_with fail
  refine HB.out.mono ?_
  rintro e w1 ⟨rfl, h1⟩
  have HP1 := hide h1
  clear HB h1
  go_wp2_with fail
  refine (HN.out _ HP1.out).mono ?_
  rintro e w2 ⟨rfl, HP2⟩
  obtain ⟨x0, x1, x3, xf, xs⟩ := HC.out _ HP2.out
  clear HP1 HN HC
  go_wp2
  go_quiet (fail)
  have y1 : (w2.drewN nq).cell? ⟨d, 1, none⟩ = some (.int .i64 (k : Nat)) := x1
  have yf : (w2.drewN nq).frozen? ⟨d, 1, none⟩ = false := xf
  have HS := xs nq
  clear x0 x1 x3 xf xs
  go_wp2
  go_end0
  exact ⟨rfl, HS.out⟩
end Go.Proofs.YtdhachmelgdknaaGreatDoor.spa
/- The specification's reader: a command is laid down. -/
namespace Go.Proofs.YtdhachmelgdknaaGreatDoor.spa
open Go.ChangeShapes Go.WideShapes Go.ChangeAt Go.RowKit
open Go.Proofs.YtdhachmelgdknaaGreatDoor.bas Go.Proofs.YtdhachmelgdknaaGreatDoor.rdr
set_option linter.unusedVariables false
/-- Behind the adding of a command. -/
def NamE (base : Nat) (w : World) (d : Nat) (q : PQ) (n : Nat) (xs : List Value) (w' : World) : Prop :=
  ∃ g cap, w'.ownsRow base 60 26 (.slice (some ⟨g, 0, none⟩) (n + 1) cap) (n + 1) xs ∧ PB w' d { q with out := .slice (some ⟨g, 0, none⟩) (n + 1) cap } ∧ Two w w' d q.out.ownBlock
theorem p_own_ne {base : Nat} {w : World} {d : Nat} {q : PQ} {v : Value} {n : Nat} {ys : List Value} (h : PB w d q) (ho : w.ownsRow base 60 26 v n ys) : some d ≠ v.ownBlock := by
  intro e
  rcases ho.2 with ⟨hv, _⟩ | ⟨g', cap', cur, hv, _, hg, _⟩
  · rw [hv] at e; cases e
  · rw [hv] at e
    have : d = g' := by simpa [Value.ownBlock] using e
    subst this
    have := hg.symm.trans h
    simp at this
theorem p_add_fin {base : Nat} {w wx : World} {d : Nat} {q : PQ} {n g cap : Nat} {xs ys : List Value} (h : PB w d q) (ho : w.ownsRow base 60 26 q.out n ys) (O : wx.ownsRow base 60 26 (.slice (some ⟨g, 0, none⟩) (n + 1) cap) (n + 1) xs) (G : Old w wx q.out.ownBlock) (L : q.out.ownBlock = some g ∨ g = w.heap.size + 2) :
    (wx.cell? ⟨d, 5, none⟩ = some q.out ∧ wx.frozen? ⟨d, 5, none⟩ = false) ∧ NamE base w d q n xs (wx.setCell ⟨d, 5, none⟩ (.slice (some ⟨g, 0, none⟩) (n + 1) cap)) := by
  have hd := h.lt
  have hdr := p_own_ne h ho
  have rb : PB wx d q := h.keep (G.block d hd hdr)
  have gd : g ≠ d := by
    rintro rfl
    rcases L with L | L
    · exact hdr L.symm
    · omega
  have os := G.size
  refine ⟨⟨cell_of rb rfl, frozen_of rb 5⟩, g, cap, ?_, rb.set5 _, ⟨G.os, G.tape, G.output, by simp; omega, fun k hk hkd hn => (Below.heap_setCell _ _ _ _ hkd).trans (G.block k hk hn)⟩⟩
  refine ⟨O.1, ?_⟩
  rcases O.2 with ⟨hv, _⟩ | ⟨g', cap', cur, hv, hbg, hg, hr⟩
  · cases hv
  · have e : g' = g := by simp only [Value.slice.injEq, Option.some.injEq, Addr.mk.injEq, and_true, true_and] at hv; exact hv.1.symm
    subst e
    exact .inr ⟨g', cap', cur, hv, hbg, (Below.heap_setCell _ _ _ _ gd).trans hg, hr⟩
/-- Behind a command and its end. -/
theorem NamE.moved {base : Nat} {w w1 w2 : World} {d : Nat} {q : PQ} {n : Nat} {xs : List Value} {k : Nat} (h : NamE base w d q n xs w1) (hd : d < w.heap.size)
    (hp : ∀ v, PB w1 d { q with out := v } → Pv w1 d { q with out := v } k w2) : NamE base w d { q with at_ := k } n xs w2 := by
  obtain ⟨g, cap, o, r, t⟩ := h
  have p := hp _ r
  refine ⟨g, cap, ?_, p.rb, ⟨p.gr.os.trans t.os, p.gr.tape.trans t.tape, p.gr.output.trans t.output, Nat.le_trans t.size p.gr.size, fun j hj hjd hn => (p.gr.block j (Nat.lt_of_lt_of_le hj t.size) (by simpa using hjd)).trans (t.block j hj hjd hn)⟩⟩
  refine o.kept p.gr (.inr (fun e => p_own_ne r o e.symm))
end Go.Proofs.YtdhachmelgdknaaGreatDoor.spa
namespace Go.Proofs.YtdhachmelgdknaaGreatDoor.spa
open Go.ChangeShapes Go.WideShapes Go.ChangeAt Go.RowKit
open Go.Proofs.YtdhachmelgdknaaGreatDoor.bas Go.Proofs.YtdhachmelgdknaaGreatDoor.rdr
set_option linter.unusedVariables false
theorem set15 {w : World} {b t : Nat} {ak an : Int} {nt : Bool} (h : w.heap[b]? = some (.cells (sedA ak an nt ⟨#[]⟩) t (0, 0))) (nm : ByteArray) : (w.setCell ⟨b, 15, none⟩ (.string nm)).heap[b]? = some (.cells (sedA ak an nt nm) t (0, 0)) := by
  have := heap_setCell_same w b 15 _ t (.string nm) h
  simpa [sedA] using this
theorem build60 : Tryz.prog.built 60 [] = some (sedA 0 0 false ⟨#[]⟩) := by kernel_rfl
theorem wpList_sed0 {ops : Array Oper} {rest : List Oper} {o : Oper} {a : Act} {w : World} {Q : Exit → Act → World → Prop} (hg : o.guard = none) (ho : o.op = .build 60 #[]) (h : wpList Tryz.prog ops Q rest (a.put o.dst (.agg (sedA 0 0 false ⟨#[]⟩))) w) : wpList Tryz.prog ops Q (o :: rest) a w := by
  have e : ((#[] : Array (Nat × Operand)).map fun (i, x) => (i, a.eval x)).toList = [] := by simp
  refine wpList_build hg 60 #[] ho ?_ ?_
  · rw [e, build60]; exact Option.isSome_some
  · rw [e, build60]; exact h
/-- A command being read. -/
structure CS (w : World) (d : Nat) (q : PQ) (ak an : Int) (nt : Bool) (nm : ByteArray) (W : World) : Prop where
  rb : PB W d q
  cb : W.heap[w.heap.size]? = some (.cells (sedA ak an nt nm) 60 (0, 0))
  gr : w.grownBy W (some d)
  lt : d < w.heap.size
theorem CS.big {w : World} {d : Nat} {q : PQ} {ak an : Int} {nt : Bool} {nm : ByteArray} {W : World} (h : CS w d q ak an nt nm W) : w.heap.size + 1 ≤ W.heap.size := (Array.getElem?_eq_some_iff.1 h.cb).1
theorem CS.call {w : World} {d : Nat} {q q' : PQ} {ak an : Int} {nt : Bool} {nm : ByteArray} {W W' : World} (h : CS w d q ak an nt nm W) (hr : PB W' d q') (hg : W.grownBy W' (some d)) : CS w d q' ak an nt nm W' := by
  have := h.big
  have := h.lt
  exact ⟨hr, (hg.block _ (by omega) (by simp; omega)).trans h.cb, grown_tr h.gr hg, h.lt⟩
theorem CS.pv {w : World} {d : Nat} {q : PQ} {ak an : Int} {nt : Bool} {nm : ByteArray} {W W' : World} {k : Nat} (h : CS w d q ak an nt nm W) (hm : Pv W d q k W') : CS w d { q with at_ := k } ak an nt nm W' := h.call hm.rb hm.gr
theorem CS.addr {w : World} {d : Nat} {q : PQ} {W : World} (h : CS w d q 0 0 false ⟨#[]⟩ W) (ak an : Int) : (W.cell? ⟨w.heap.size, 0, none⟩ = some (.int .i64 0) ∧ W.cell? ⟨w.heap.size, 1, none⟩ = some (.int .i64 0) ∧ W.cell? ⟨w.heap.size, 2, none⟩ = some (.int .i64 0) ∧ W.cell? ⟨w.heap.size, 3, none⟩ = some (.int .i64 0) ∧ W.cell? ⟨w.heap.size, 4, none⟩ = some (.int .i64 0) ∧ W.cell? ⟨w.heap.size, 5, none⟩ = some (.string ⟨#[]⟩) ∧ W.cell? ⟨w.heap.size, 6, none⟩ = some (.slice none 0 0)) ∧ (∀ i, W.frozen? ⟨w.heap.size, i, none⟩ = false) ∧ CS w d q ak an false ⟨#[]⟩ ((((((((W.setCell ⟨w.heap.size, 0, none⟩ (.int .i64 ak)).setCell ⟨w.heap.size, 1, none⟩ (.int .i64 an)).setCell ⟨w.heap.size, 2, none⟩ (.int .i64 0)).setCell ⟨w.heap.size, 3, none⟩ (.int .i64 0)).setCell ⟨w.heap.size, 4, none⟩ (.int .i64 0)).setCell ⟨w.heap.size, 5, none⟩ (.string ⟨#[]⟩)).setCell ⟨w.heap.size, 6, none⟩ (.slice none 0 0))) := by
  have y := h.cb
  have hl := h.lt
  obtain ⟨z1, z2, z3⟩ := sets7s y ak an
  refine ⟨⟨cell_of y rfl, cell_of y rfl, cell_of y rfl, cell_of y rfl, cell_of y rfl, cell_of y rfl, cell_of y rfl⟩, fun i => frozen_of y i, h.rb.keep (z2 d (by omega)), z1, ?_, hl⟩
  have g := h.gr
  exact ⟨z3.os.trans g.os, z3.tape.trans g.tape, z3.output.trans g.output, Nat.le_trans g.size z3.size, fun k hk hn => (z2 k (by omega)).trans (g.block k hk hn)⟩
theorem CS.mark {w : World} {d : Nat} {q : PQ} {ak an : Int} {W : World} (h : CS w d q ak an false ⟨#[]⟩ W) (nt : Bool) : CS w d q ak an nt ⟨#[]⟩ (W.setCell ⟨w.heap.size, 14, none⟩ (.bool nt)) := by
  have y := h.cb
  have hl := h.lt
  have g := h.gr
  have o : ∀ k, k ≠ w.heap.size → (W.setCell ⟨w.heap.size, 14, none⟩ (.bool nt)).heap[k]? = W.heap[k]? := fun k hk => Below.heap_setCell _ _ _ _ hk
  exact ⟨h.rb.keep (o d (by omega)), set14 y nt, ⟨g.os, g.tape, g.output, by simpa using g.size, fun k hk hn => (o k (by omega)).trans (g.block k hk hn)⟩, hl⟩
theorem CS.name {w : World} {d : Nat} {q : PQ} {ak an : Int} {nt : Bool} {W : World} (h : CS w d q ak an nt ⟨#[]⟩ W) (nm : ByteArray) : CS w d q ak an nt nm (W.setCell ⟨w.heap.size, 15, none⟩ (.string nm)) := by
  have y := h.cb
  have hl := h.lt
  have g := h.gr
  have o : ∀ k, k ≠ w.heap.size → (W.setCell ⟨w.heap.size, 15, none⟩ (.string nm)).heap[k]? = W.heap[k]? := fun k hk => Below.heap_setCell _ _ _ _ hk
  exact ⟨h.rb.keep (o d (by omega)), set15 y nm, ⟨g.os, g.tape, g.output, by simpa using g.size, fun k hk hn => (o k (by omega)).trans (g.block k hk hn)⟩, hl⟩
theorem CS.step {w : World} {d : Nat} {T : ByteArray} {k : Nat} {ere : Bool} {out : Value} {ak an : Int} {nt : Bool} {nm : ByteArray} {W : World} (h : CS w d ⟨T, k, ere, out⟩ ak an nt nm W) : CS w d ⟨T, k + 1, ere, out⟩ ak an nt nm (W.setCell ⟨d, 1, none⟩ (.int .i64 ((k : Int) + 1))) := by
  have := h.lt
  exact h.call (h.rb.set1 (k + 1)) (grown_set (grown_refl _ _) _ _)
/-- What a command has behind its address, and what is made of it. -/
structure Cm1 (T : ByteArray) (ak : Int) (k1 : Nat) (nt : Bool) (k2 c : Nat) (nm : ByteArray) : Prop where
  hlt : k2 < T.size
  hc : (T[k2]'hlt).toNat = c
  nz : c ≠ 0 ∧ c ≠ 32 ∧ c ≠ 9
  hnm : T.extract k2 (k2 + 1) = nm
  mark : if nt then k2 = k1 + 1 ∧ ByteAt T k1 33 else k2 = k1 ∧ c ≠ 33 ∧ c ≠ 44
set_option maxRecDepth 20000 in
set_option maxHeartbeats 6400000 in
theorem command_any {d : Nat} {T : ByteArray} {p : Nat} {ere : Bool} {out : Value} {w : World} (h : PB w d ⟨T, p, ere, out⟩) (hT : T.size ≤ 10000) (ak an : Int) (k1 : Nat) (nt : Bool) (k2 c : Nat) (nm : ByteArray)
    (HA : ∀ W, PB W d ⟨T, p, ere, out⟩ → Calls Tryz.prog 39 #[.pointer (some ⟨d, 0, none⟩)] W fun e w' => e = .returned (.agg #[.int .i64 ak, .int .i64 an, .int .i64 0, .int .i64 0, .int .i64 0, .string ⟨#[]⟩, .slice none 0 0]) ∧ PB w' d ⟨T, k1, ere, out⟩ ∧ W.grownBy w' (some d)) (hcm : Cm1 T ak k1 nt k2 c nm)
    (hcase : (ak = 0 ∧ nt = false) ∨ (ak ≠ 0 ∧ nt = true)) (lo : Option Addr) (n lc : Nat) (hout : out = .slice lo n lc) (hn : n < 60) (P : World → Prop)
    (HM : ∀ W, PB W d ⟨T, k2 + 1, ere, out⟩ → w.grownBy W (some d) → Calls Tryz.prog 41 #[.pointer (some ⟨d, 0, none⟩), .agg (sedA ak an nt nm), .int .u8 (c : Nat), .int .i64 (k2 : Nat)] W fun e w' => e = .returned (.tuple #[]) ∧ P w') :
    Calls Tryz.prog 23 #[.pointer (some ⟨d, 0, none⟩)] w fun e w' => e = .returned (.tuple #[]) ∧ P w' := by
  have x1 : (w.alloc (.cells #[.int .i64 0, .int .i64 0, .int .i64 0, .int .i64 0, .int .i64 0, .string ⟨#[]⟩, .slice none 0 0, .int .i64 0, .int .i64 0, .int .i64 0, .int .i64 0, .int .i64 0, .string ⟨#[]⟩, .slice none 0 0, .bool false, .string ⟨#[]⟩, .string ⟨#[]⟩, .int .i64 0, .int .i64 0, .int .i64 0, .string ⟨#[]⟩, .slice none 0 0, .bool false, .bool false, .int .i64 0, .int .i64 0] 60)).heap[w.heap.size]? = some (.cells #[.int .i64 0, .int .i64 0, .int .i64 0, .int .i64 0, .int .i64 0, .string ⟨#[]⟩, .slice none 0 0, .int .i64 0, .int .i64 0, .int .i64 0, .int .i64 0, .int .i64 0, .string ⟨#[]⟩, .slice none 0 0, .bool false, .string ⟨#[]⟩, .string ⟨#[]⟩, .int .i64 0, .int .i64 0, .int .i64 0, .string ⟨#[]⟩, .slice none 0 0, .bool false, .bool false, .int .i64 0, .int .i64 0] 60 (0, 0)) := heap_alloc_new w _
  have x2 := setRow_heap (w.alloc (.cells #[.int .i64 0, .int .i64 0, .int .i64 0, .int .i64 0, .int .i64 0, .string ⟨#[]⟩, .slice none 0 0, .int .i64 0, .int .i64 0, .int .i64 0, .int .i64 0, .int .i64 0, .string ⟨#[]⟩, .slice none 0 0, .bool false, .string ⟨#[]⟩, .string ⟨#[]⟩, .int .i64 0, .int .i64 0, .int .i64 0, .string ⟨#[]⟩, .slice none 0 0, .bool false, .bool false, .int .i64 0, .int .i64 0] 60)) w.heap.size _ (sedA 0 0 false ⟨#[]⟩) 60 (0, 0) x1
  have ba : Below w.heap.size w (w.alloc (.cells #[.int .i64 0, .int .i64 0, .int .i64 0, .int .i64 0, .int .i64 0, .string ⟨#[]⟩, .slice none 0 0, .int .i64 0, .int .i64 0, .int .i64 0, .int .i64 0, .int .i64 0, .string ⟨#[]⟩, .slice none 0 0, .bool false, .string ⟨#[]⟩, .string ⟨#[]⟩, .int .i64 0, .int .i64 0, .int .i64 0, .string ⟨#[]⟩, .slice none 0 0, .bool false, .bool false, .int .i64 0, .int .i64 0] 60)) := more (Below.refl _ _) _
  have b2 : Below w.heap.size w ((w.alloc (.cells #[.int .i64 0, .int .i64 0, .int .i64 0, .int .i64 0, .int .i64 0, .string ⟨#[]⟩, .slice none 0 0, .int .i64 0, .int .i64 0, .int .i64 0, .int .i64 0, .int .i64 0, .string ⟨#[]⟩, .slice none 0 0, .bool false, .string ⟨#[]⟩, .string ⟨#[]⟩, .int .i64 0, .int .i64 0, .int .i64 0, .string ⟨#[]⟩, .slice none 0 0, .bool false, .bool false, .int .i64 0, .int .i64 0] 60)).setRow w.heap.size (sedA 0 0 false ⟨#[]⟩)) := ⟨ba.os, ba.tape, ba.output, by simp [World.setRow], fun j hj => (setRow_other _ _ _ _ (by omega)).trans (ba.block j hj)⟩
  obtain ⟨W0, hW0⟩ : ∃ W0, (w.alloc (.cells #[.int .i64 0, .int .i64 0, .int .i64 0, .int .i64 0, .int .i64 0, .string ⟨#[]⟩, .slice none 0 0, .int .i64 0, .int .i64 0, .int .i64 0, .int .i64 0, .int .i64 0, .string ⟨#[]⟩, .slice none 0 0, .bool false, .string ⟨#[]⟩, .string ⟨#[]⟩, .int .i64 0, .int .i64 0, .int .i64 0, .string ⟨#[]⟩, .slice none 0 0, .bool false, .bool false, .int .i64 0, .int .i64 0] 60)).setRow w.heap.size (sedA 0 0 false ⟨#[]⟩) = W0 := ⟨_, rfl⟩
  rw [hW0] at x2 b2
  have b0 := b2
  have x0 := x2
  have hd := h.lt
  have D0 : CS w d ⟨T, p, ere, out⟩ 0 0 false ⟨#[]⟩ W0 := ⟨h.below b0, x0, grown_of b0, hd⟩
  have c1 : W0.cell? ⟨d, 1, none⟩ = some (.int .i64 (p : Nat)) := D0.rb.c1
  have HA2 : Hid (Calls Tryz.prog 39 #[.pointer (some ⟨d, 0, none⟩)] W0 fun e w3 => e = .returned (.agg #[.int .i64 ak, .int .i64 an, .int .i64 0, .int .i64 0, .int .i64 0, .string ⟨#[]⟩, .slice none 0 0]) ∧ (w3.cell? ⟨w.heap.size, 0, none⟩ = some (.int .i64 0) ∧ w3.cell? ⟨w.heap.size, 1, none⟩ = some (.int .i64 0) ∧ w3.cell? ⟨w.heap.size, 2, none⟩ = some (.int .i64 0) ∧ w3.cell? ⟨w.heap.size, 3, none⟩ = some (.int .i64 0) ∧ w3.cell? ⟨w.heap.size, 4, none⟩ = some (.int .i64 0) ∧ w3.cell? ⟨w.heap.size, 5, none⟩ = some (.string ⟨#[]⟩) ∧ w3.cell? ⟨w.heap.size, 6, none⟩ = some (.slice none 0 0)) ∧ (w3.frozen? ⟨w.heap.size, 0, none⟩ = false ∧ w3.frozen? ⟨w.heap.size, 1, none⟩ = false ∧ w3.frozen? ⟨w.heap.size, 2, none⟩ = false ∧ w3.frozen? ⟨w.heap.size, 3, none⟩ = false ∧ w3.frozen? ⟨w.heap.size, 4, none⟩ = false ∧ w3.frozen? ⟨w.heap.size, 5, none⟩ = false ∧ w3.frozen? ⟨w.heap.size, 6, none⟩ = false) ∧ ∃ W4, Hid ((((((((w3.setCell ⟨w.heap.size, 0, none⟩ (.int .i64 ak)).setCell ⟨w.heap.size, 1, none⟩ (.int .i64 an)).setCell ⟨w.heap.size, 2, none⟩ (.int .i64 0)).setCell ⟨w.heap.size, 3, none⟩ (.int .i64 0)).setCell ⟨w.heap.size, 4, none⟩ (.int .i64 0)).setCell ⟨w.heap.size, 5, none⟩ (.string ⟨#[]⟩)).setCell ⟨w.heap.size, 6, none⟩ (.slice none 0 0)) = W4) ∧ Hid (CS w d ⟨T, k1, ere, out⟩ ak an false ⟨#[]⟩ W4)) := by
    refine (HA W0 D0.rb).mono ?_
    rintro e w3 ⟨rfl, r3, g3⟩
    have D3 := D0.call r3 g3
    obtain ⟨hc, hf, D4⟩ := D3.addr ak an
    obtain ⟨W4, hW4⟩ : ∃ W4, (((((((w3.setCell ⟨w.heap.size, 0, none⟩ (.int .i64 ak)).setCell ⟨w.heap.size, 1, none⟩ (.int .i64 an)).setCell ⟨w.heap.size, 2, none⟩ (.int .i64 0)).setCell ⟨w.heap.size, 3, none⟩ (.int .i64 0)).setCell ⟨w.heap.size, 4, none⟩ (.int .i64 0)).setCell ⟨w.heap.size, 5, none⟩ (.string ⟨#[]⟩)).setCell ⟨w.heap.size, 6, none⟩ (.slice none 0 0)) = W4 := ⟨_, rfl⟩
    rw [hW4] at D4
    exact ⟨rfl, hc, ⟨hf 0, hf 1, hf 2, hf 3, hf 4, hf 5, hf 6⟩, W4, hW4, D4⟩
  obtain ⟨hlt, hc, ⟨nz1, nz2, nz3⟩, hnm, hmk⟩ := hcm
  have hB : ByteAt T k2 c := .inl ⟨hlt, hc⟩
  -- what is done behind the mark
  have HZ : Hid (∀ W, CS w d ⟨T, k2, ere, out⟩ ak an nt ⟨#[]⟩ W → Calls Tryz.prog 21 #[.pointer (some ⟨d, 0, none⟩)] W fun e w5 => e = .returned (.int .u8 (c : Nat)) ∧ (w5.cell? ⟨d, 0, none⟩ = some (.string T) ∧ w5.cell? ⟨d, 1, none⟩ = some (.int .i64 (k2 : Nat)) ∧ w5.cell? ⟨w.heap.size, 15, none⟩ = some (.string ⟨#[]⟩) ∧ w5.frozen? ⟨w.heap.size, 15, none⟩ = false) ∧ ∃ W6, Hid (w5.drew.setCell ⟨w.heap.size, 15, none⟩ (.string nm) = W6) ∧ (W6.cell? ⟨d, 1, none⟩ = some (.int .i64 (k2 : Nat)) ∧ W6.frozen? ⟨d, 1, none⟩ = false) ∧ ∃ W7, Hid (W6.setCell ⟨d, 1, none⟩ (.int .i64 ((k2 : Int) + 1)) = W7) ∧ W7.cell? ⟨d, 5, none⟩ = some out ∧ Hid (W7.heap[w.heap.size]? = some (.cells (sedA ak an nt nm) 60 (0, 0))) ∧ Hid (Calls Tryz.prog 41 #[.pointer (some ⟨d, 0, none⟩), .agg (sedA ak an nt nm), .int .u8 (c : Nat), .int .i64 (k2 : Nat)] W7 fun e w' => e = .returned (.tuple #[]) ∧ Hid (P w'))) := by
    intro W hW
    refine (pv_next (Pv.refl hW.rb) (by show T.size ≤ 100000; omega) c hB).mono ?_
    rintro e w5 ⟨rfl, hm⟩
    have D5 := hW.pv hm
    refine ⟨rfl, ⟨D5.rb.c0, D5.rb.c1, cell_of D5.cb rfl, frozen_of D5.cb 15⟩, ?_⟩
    have D5m : CS w d ⟨T, k2, ere, out⟩ ak an nt ⟨#[]⟩ w5.drew := ⟨D5.rb, D5.cb, ⟨D5.gr.os, D5.gr.tape, D5.gr.output, D5.gr.size, D5.gr.block⟩, D5.lt⟩
    have D6 := D5m.name nm
    refine ⟨_, rfl, ⟨D6.rb.c1, D6.rb.fz 1⟩, _, rfl, ?_⟩
    have D7 := D6.step
    exact ⟨D7.rb.c5, D7.cb, HM _ D7.rb D7.gr⟩
  have HBl : Hid (∀ W k c' nt', CS w d ⟨T, k, ere, out⟩ ak an nt' ⟨#[]⟩ W → ByteAt T k c' → c' ≠ 32 → c' ≠ 9 → Calls Tryz.prog 40 #[.pointer (some ⟨d, 0, none⟩)] W fun e w' => e = .returned (.tuple #[]) ∧ Hid (CS w d ⟨T, k, ere, out⟩ ak an nt' ⟨#[]⟩ w')) := by
    intro W k c' nt' hW hb h1 h2
    refine (blanks_no (Pv.refl hW.rb) (by show T.size ≤ 100000; omega) c' hb h1 h2).mono ?_
    rintro e w' ⟨rfl, hm⟩
    exact ⟨rfl, hW.pv hm⟩
  have HNx : Hid (∀ W k c' nt', CS w d ⟨T, k, ere, out⟩ ak an nt' ⟨#[]⟩ W → ByteAt T k c' → Calls Tryz.prog 21 #[.pointer (some ⟨d, 0, none⟩)] W fun e w' => e = .returned (.int .u8 (c' : Nat)) ∧ Hid (CS w d ⟨T, k, ere, out⟩ ak an nt' ⟨#[]⟩ w')) := by
    intro W k c' nt' hW hb
    refine (pv_next (Pv.refl hW.rb) (by show T.size ≤ 100000; omega) c' hb).mono ?_
    rintro e w' ⟨rfl, hm⟩
    exact ⟨rfl, hW.pv hm⟩
  have hkT : k2 < 10000 := by omega
  have hkI : (k2 : Int) < (T.size : Int) := by omega
  have hkN : k2 + 1 ≤ T.size := by omega
  have hext : T.extract k2 (k2 + 1) = nm := hnm
  have q0 : ((c : Int) == 0) = false := by rw [beq_eq_false_iff_ne]; omega
  have q33 : nt = false → ((c : Int) == 33) = false := fun e => by rw [e] at hmk; simp only [Bool.false_eq_true, if_false] at hmk; rw [beq_eq_false_iff_ne]; omega
  have q44 : nt = false → ((c : Int) == 44) = false := fun e => by rw [e] at hmk; simp only [Bool.false_eq_true, if_false] at hmk; rw [beq_eq_false_iff_ne]; omega
  have hn60 : ((n : Int) == 60) = false := by rw [beq_eq_false_iff_ne]; omega
  have HBy := hide hB
  have HMk := hide hmk
  have HNZ := hide (And.intro nz2 nz3)
  obtain ⟨v, hv⟩ : ∃ v : Int, (c : Int) = v := ⟨_, rfl⟩
  have HV := hide hv
  rw [hv] at HZ q0 q33 q44
  subst hout
  have HX1 := hide x1
  clear x1 x2 ba b2
  clear h HA HM D0 b0 x0 hB hmk hnm hc hv nz1 nz2 nz3
  go_enter Tryz.func23, Tryz.ntmps23
  go_wp2_with (first
    | (refine wpList_sed0 rfl rfl ?_)
    | (refine wpList_store_row rfl 60 _ _ rfl w.heap.size (sedA 0 0 false ⟨#[]⟩) rfl rfl 60 _ HX1.out (size60 _ _ _ _) rfl (one_sed _ _ _ _) ?_))
  (try rw [hW0])
  refine HA2.out.mono ?_
  rintro e w3 ⟨rfl, ⟨u0, u1, u2, u3, u4, u5, u6⟩, ⟨f0, f1, f2, f4, f5, f6, f7⟩, W4, hW4, H4⟩
  clear HA2 hW0 c1 HX1
  have HC0 : Hid (W4.cell? ⟨w.heap.size, 0, none⟩ = some (.int .i64 ak)) := cell_of H4.out.cb rfl
  have hW4' := hW4.out
  rcases hcase with ⟨rfl, rfl⟩ | ⟨h0, rfl⟩
  · simp only [Bool.false_eq_true, if_false] at HMk
    obtain ⟨hk2, _, _⟩ := HMk.out
    subst hk2
    have HB1 := hide (HBl.out W4 k2 c false H4.out HBy.out HNZ.out.1 HNZ.out.2)
    have q33' := q33 rfl
    have hC0 := HC0.out
    clear HMk q44
    go_wp2_with fail
    (try rw [hW4'])
    refine HB1.out.mono ?_
    rintro e w6 ⟨rfl, H6⟩
    have HN1 := HNx.out w6 k2 c false H6.out HBy.out
    rw [HV.out] at HN1
    have HN1 := hide HN1
    clear HB1 hC0 HC0 hW4' hW4 H4 u0 u1 u2 u3 u4 u5 u6 f0 f1 f2 f4 f5 f6 f7
    go_wp2_with fail
    refine HN1.out.mono ?_
    rintro e WE ⟨rfl, HEE⟩
    clear HN1 H6
    have c1E : WE.cell? ⟨d, 1, none⟩ = some (.int .i64 (k2 : Nat)) := HEE.out.rb.c1
    have HZE := hide (HZ.out WE HEE.out)
    clear HZ HBl HNx HEE
    go_wp2_with fail
    refine HZE.out.mono ?_
    rintro e w5 ⟨rfl, ⟨y0, y1, y15, yf⟩, W6, hW6, ⟨z1, zf⟩, W7, hW7, z5, HX7, HC7⟩
    clear HZE c1E
    have hW6' := hW6.out
    have hW7' := hW7.out
    go_wp2_with fail
    go_region
    all_goals (
      (try rw [hext])
      (try rw [hW6'])
      clear y0 y1 y15 yf
      go_wp2_with (first
        | (refine wpList_load_row rfl _ _ rfl w.heap.size rfl 60 _ (0, 0) _ HX7.out Tryz.underlying60 rfl (size60 _ _ _ _) ?_)
        | (go_at_call 41; refine HC7.out.mono ?_; rintro e w9 ⟨rfl, HF⟩))
      go_end0
      exact ⟨rfl, HF.out⟩)
  · simp only [if_true] at HMk
    obtain ⟨hk2, hb33⟩ := HMk.out
    subst hk2
    have hb0 : (ak != 0) = true := by rw [bne_iff_ne]; exact h0
    have HB1 := hide (HBl.out W4 k1 33 false H4.out hb33 (by decide) (by decide))
    have hC0 := HC0.out
    clear HMk q44 q33 h0
    go_wp2_with fail
    (try rw [hW4'])
    refine HB1.out.mono ?_
    rintro e w6 ⟨rfl, H6⟩
    have HN1 := hide (HNx.out w6 k1 33 false H6.out hb33)
    clear HB1 hC0 HC0 hW4' hW4 H4 u0 u1 u2 u3 u4 u5 u6 f0 f1 f2 f4 f5 f6 f7 hb0
    go_wp2_with fail
    refine HN1.out.mono ?_
    rintro e w7 ⟨rfl, H7⟩
    have HB2 := hide (HBl.out w7 k1 33 false H7.out hb33 (by decide) (by decide))
    clear HN1 H6
    go_wp2_with fail
    refine HB2.out.mono ?_
    rintro e w8 ⟨rfl, H8⟩
    have HN2 := hide (HNx.out w8 k1 33 false H8.out hb33)
    clear HB2 H7
    go_wp2_with fail
    refine HN2.out.mono ?_
    rintro e w9 ⟨rfl, H9⟩
    have d14 : w9.cell? ⟨w.heap.size, 14, none⟩ = some (.bool false) := cell_of H9.out.cb rfl
    have f14 := frozen_of H9.out.cb 14
    have H10 := H9.out.mark true
    obtain ⟨Wa, hWa⟩ : ∃ Wa, w9.setCell ⟨w.heap.size, 14, none⟩ (.bool true) = Wa := ⟨_, rfl⟩
    rw [hWa] at H10
    have g1 : Wa.cell? ⟨d, 1, none⟩ = some (.int .i64 (k1 : Nat)) := H10.rb.c1
    have gf := H10.rb.fz 1
    have H11 := H10.step
    obtain ⟨Wb, hWb⟩ : ∃ Wb, Wa.setCell ⟨d, 1, none⟩ (.int .i64 ((k1 : Int) + 1)) = Wb := ⟨_, rfl⟩
    rw [hWb] at H11
    have HB3 := hide (HBl.out Wb (k1 + 1) c true H11 HBy.out HNZ.out.1 HNZ.out.2)
    clear HN2 H8 H9 H10 H11
    go_wp2_with fail
    (try rw [hWb])
    refine HB3.out.mono ?_
    rintro e WE ⟨rfl, HEE⟩
    clear HB3 d14 f14 g1 gf hWa hWb
    obtain ⟨k2, ek2⟩ : ∃ k2, k1 + 1 = k2 := ⟨_, rfl⟩
    rw [ek2] at HZ HEE hkT hkI hkN hext
    clear HBy ek2 hb33 hlt
    have c1E : WE.cell? ⟨d, 1, none⟩ = some (.int .i64 (k2 : Nat)) := HEE.out.rb.c1
    have HZE := hide (HZ.out WE HEE.out)
    clear HZ HBl HNx HEE
    go_wp2_with fail
    refine HZE.out.mono ?_
    rintro e w5 ⟨rfl, ⟨y0, y1, y15, yf⟩, W6, hW6, ⟨z1, zf⟩, W7, hW7, z5, HX7, HC7⟩
    clear HZE c1E
    have hW6' := hW6.out
    have hW7' := hW7.out
    go_wp2_with fail
    go_region
    all_goals (
      (try rw [hext])
      (try rw [hW6'])
      clear y0 y1 y15 yf
      go_wp2_with (first
        | (refine wpList_load_row rfl _ _ rfl w.heap.size rfl 60 _ (0, 0) _ HX7.out Tryz.underlying60 rfl (size60 _ _ _ _) ?_)
        | (go_at_call 41; refine HC7.out.mono ?_; rintro e w9 ⟨rfl, HF⟩))
      go_end0
      exact ⟨rfl, HF.out⟩)
end Go.Proofs.YtdhachmelgdknaaGreatDoor.spa

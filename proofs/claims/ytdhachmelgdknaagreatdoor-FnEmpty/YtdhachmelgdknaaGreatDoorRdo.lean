/- The reader of a script goes over bytes. -/
import Derived.Test.YtdhachmelgdknaaGreatDoorRdt
import Derived.Deep.LoopGhost
namespace Go.Proofs.YtdhachmelgdknaaGreatDoor.rdr
open Go.ChangeShapes Go.WideShapes Go.ChangeAt Go.RowKit
open Go.Proofs.YtdhachmelgdknaaGreatDoor.bas
set_option linter.unusedVariables false
/-- How many bytes from a place on are such. -/
def run (p : UInt8 → Bool) (T : ByteArray) (k : Nat) : Nat := ((T.data.toList.drop k).takeWhile p).length
theorem tw (p : UInt8 → Bool) : ∀ (l : List UInt8) (i : Nat), i ≤ (l.takeWhile p).length → (match l[i]? with | some c => p c | none => false) = decide (i < (l.takeWhile p).length)
  | [], i, h => by simp at h; subst h; rfl
  | a :: r, i, h => by
    cases hp : p a with
    | false =>
      rw [List.takeWhile_cons, hp] at h ⊢
      simp only [Bool.false_eq_true, if_false, List.length_nil, Nat.le_zero_eq] at h
      subst h
      simp [hp]
    | true =>
      rw [List.takeWhile_cons, hp] at h ⊢
      cases i with
      | zero => simp [hp]
      | succ i =>
        have := tw p r i (by simpa using h)
        simpa using this
theorem run_le (p : UInt8 → Bool) (T : ByteArray) (k : Nat) (h : k ≤ T.size) : k + run p T k ≤ T.size := by
  unfold run
  have h1 : ((T.data.toList.drop k).takeWhile p).length ≤ (T.data.toList.drop k).length := (List.takeWhile_sublist p).length_le
  rw [List.length_drop] at h1
  have h2 : T.data.toList.length = T.size := rfl
  omega
theorem run_in (S T : ByteArray) (k i : Nat) (h : i ≤ run (isIn S) T k) : seesP T S (k + i) = decide (i < run (isIn S) T k) := by
  have := tw (isIn S) (T.data.toList.drop k) i h
  rw [List.getElem?_drop] at this
  exact this
theorem run_out (S T : ByteArray) (k i : Nat) (h : i ≤ run (fun c => !isIn S c) T k) (hk : k ≤ T.size) : (!decide (k + i = T.size) && !seesP T S (k + i)) = decide (i < run (fun c => !isIn S c) T k) := by
  have := tw (fun c => !isIn S c) (T.data.toList.drop k) i h
  rw [List.getElem?_drop] at this
  refine Eq.trans ?_ this
  have hr := run_le (fun c => !isIn S c) T k hk
  unfold seesP
  by_cases hlt : k + i < T.size
  · rw [List.getElem?_eq_getElem (by exact hlt), decide_eq_false (by omega)]
    simp
  · rw [List.getElem?_eq_none (by show T.size ≤ _; omega), decide_eq_true (by omega)]
    rfl
set_option maxHeartbeats 1600000 in
theorem over_any0 (w : World) (d : Nat) (T : ByteArray) (ere : Bool) (p : Nat) (bg nm : Int) (tk ls op lb jp : Value) (S : ByteArray) (h : RB w d ⟨T, ere, p, bg, nm, tk, ls, op, lb, jp⟩) (hp : p ≤ T.size) (hT : T.size ≤ 100000) :
    Calls Tryz.prog 82 #[.pointer (some ⟨d, 0, none⟩), .string S] w fun e w' => AtE w d ⟨T, ere, p, bg, nm, tk, ls, op, lb, jp⟩ (p + run (isIn S) T p) (.string (T.extract p (p + run (isIn S) T p))) e w' := by
  have hrl := run_le (isIn S) T p hp
  have c2 := h.c2
  dsimp only at c2
  obtain ⟨M, eM⟩ : ∃ M, run (isIn S) T p = M := ⟨_, rfl⟩
  have HSee : Hid (∀ i, i ≤ M → seesP T S (p + i) = decide (i < M)) := fun i hi => by
    rw [← eM] at hi ⊢
    exact run_in S T p i hi
  rw [eM] at hrl ⊢
  have HQ : Hid (∀ (wr : World) (i : Nat), RB wr d ⟨T, ere, p + i, bg, nm, tk, ls, op, lb, jp⟩ → i ≤ M → Hid (Calls Tryz.prog 83 #[.pointer (some ⟨d, 0, none⟩), .string S] wr fun e w' => e = .returned (.bool (seesP T S (p + i))) ∧ ∃ n, w' = wr.drewN n)) := fun wr i hb hi => sees_any wr d ⟨T, ere, p + i, bg, nm, tk, ls, op, lb, jp⟩ S hb (by show p + i ≤ T.size; omega) hT
  have HT : Hid (∀ (wr : World) (i : Nat), RB wr d ⟨T, ere, p + i, bg, nm, tk, ls, op, lb, jp⟩ → wr.cell? ⟨d, 2, none⟩ = some (.int .i64 ((p : Int) + (i : Int))) ∧ wr.cell? ⟨d, 0, none⟩ = some (.string T) ∧ wr.frozen? ⟨d, 2, none⟩ = false) := fun wr i hb => ⟨by have := hb.c2; rw [this]; rfl, hb.c0, hb.fz 2⟩
  have HStep : Hid (∀ (wr : World) (i n : Nat), RB wr d ⟨T, ere, p + i, bg, nm, tk, ls, op, lb, jp⟩ → w.grownBy wr (some d) → RB ((wr.drewN n).setCell ⟨d, 2, none⟩ (.int .i64 ((p : Int) + (i : Int) + 1))) d ⟨T, ere, p + (i + 1), bg, nm, tk, ls, op, lb, jp⟩ ∧ w.grownBy ((wr.drewN n).setCell ⟨d, 2, none⟩ (.int .i64 ((p : Int) + (i : Int) + 1))) (some d)) := fun wr i n hb hg => ⟨by
    have := RB.set2 (w := wr.drewN n) hb (p + (i + 1))
    rw [show (((p + (i + 1) : Nat) : Nat) : Int) = (p : Int) + (i : Int) + 1 by omega] at this
    exact this, grown_set (grown_drew hg n) _ _⟩
  have HF : Hid (∀ (wr : World) (n : Nat), RB wr d ⟨T, ere, p + M, bg, nm, tk, ls, op, lb, jp⟩ → w.grownBy wr (some d) → AtE w d ⟨T, ere, p, bg, nm, tk, ls, op, lb, jp⟩ (p + M) (.string (T.extract p (p + M))) (.returned (.string (T.extract p (p + M)))) (wr.drewN n)) := fun wr n hb hg => ⟨rfl, hb, grown_drew hg n⟩
  have HB0 : Hid (RB w d ⟨T, ere, p + 0, bg, nm, tk, ls, op, lb, jp⟩ ∧ w.grownBy w (some d)) := ⟨h, grown_refl w d⟩
  clear h eM
  go_enter Tryz.func82, Tryz.ntmps82
  go_wp2
  go_loopg [10] M (fun gk s wr => ∃ i : Nat, gk = M - i ∧ i ≤ M ∧ Hid (RB wr d ⟨T, ere, p + i, bg, nm, tk, ls, op, lb, jp⟩ ∧ w.grownBy wr (some d)))
  case atStart => exact ⟨0, by omega, by omega, HB0⟩
  case round =>
    obtain ⟨i, hgk, hi, HI⟩ := hrel
    clear HB0 c2
    obtain ⟨x2, x0, xf⟩ := HT.out wr i HI.out.1
    have hsee := HSee.out i hi
    have HC := HQ.out wr i HI.out.1 hi
    by_cases hlt : i < M
    · rw [decide_eq_true hlt] at hsee
      rw [hsee] at HC
      go_wp2_with fail
      refine HC.out.mono ?_
      rintro e w1 ⟨rfl, n, rfl⟩
      clear HC hsee
      have HST := hide (HStep.out wr i n HI.out.1 HI.out.2)
      clear HI HQ HSee HT HStep HF x0
      have y2 : (wr.drewN n).cell? ⟨d, 2, none⟩ = some (.int .i64 ((p : Int) + (i : Int))) := x2
      have yf : (wr.drewN n).frozen? ⟨d, 2, none⟩ = false := xf
      go_wp2
      go_roundg (M - (i + 1))
      case rel => exact ⟨i + 1, rfl, by omega, HST⟩
      case measure => omega
    · rw [decide_eq_false hlt] at hsee
      have hiM : i = M := by omega
      subst hiM
      rw [hsee] at HC
      go_wp2_with fail
      refine HC.out.mono ?_
      rintro e w1 ⟨rfl, n, rfl⟩
      clear HC hsee
      have HX := hide (fun m => HF.out wr m HI.out.1 HI.out.2)
      clear HI HQ HSee HT HStep HF hlt
      have y2 : (wr.drewN n).cell? ⟨d, 2, none⟩ = some (.int .i64 ((p : Int) + (i : Int))) := x2
      have y0 : (wr.drewN n).cell? ⟨d, 0, none⟩ = some (.string T) := x0
      have yle : (p : Int) + (i : Int) ≤ (T.size : Int) := by omega
      go_wp2
      go_quiet (fail)
      go_wp2
      go_ret
      first | exact HX.out _ | (rw [World.drewN_drewN]; exact HX.out _)
theorem over_any (w : World) (d : Nat) (q : Q) (S : ByteArray) (h : RB w d q) (hp : q.pl ≤ q.T.size) (hT : q.T.size ≤ 100000) :
    Calls Tryz.prog 82 #[.pointer (some ⟨d, 0, none⟩), .string S] w fun e w' => AtE w d q (q.pl + run (isIn S) q.T q.pl) (.string (q.T.extract q.pl (q.pl + run (isIn S) q.T q.pl))) e w' := over_any0 w d _ _ _ _ _ _ _ _ _ _ S h hp hT
set_option maxHeartbeats 1600000 in
theorem upTo_any0 (w : World) (d : Nat) (T : ByteArray) (ere : Bool) (p : Nat) (bg nm : Int) (tk ls op lb jp : Value) (S : ByteArray) (h : RB w d ⟨T, ere, p, bg, nm, tk, ls, op, lb, jp⟩) (hp : p ≤ T.size) (hT : T.size ≤ 100000) :
    Calls Tryz.prog 84 #[.pointer (some ⟨d, 0, none⟩), .string S] w fun e w' => AtE w d ⟨T, ere, p, bg, nm, tk, ls, op, lb, jp⟩ (p + run (fun c => !isIn S c) T p) (.string (T.extract p (p + run (fun c => !isIn S c) T p))) e w' := by
  have hrl := run_le (fun c => !isIn S c) T p hp
  have c2 := h.c2
  dsimp only at c2
  obtain ⟨M, eM⟩ : ∃ M, run (fun c => !isIn S c) T p = M := ⟨_, rfl⟩
  have HSee : Hid (∀ i, i ≤ M → (!decide (p + i = T.size) && !seesP T S (p + i)) = decide (i < M)) := fun i hi => by
    rw [← eM] at hi ⊢
    exact run_out S T p i hi hp
  rw [eM] at hrl ⊢
  have HQ : Hid (∀ (wr : World) (i : Nat), RB wr d ⟨T, ere, p + i, bg, nm, tk, ls, op, lb, jp⟩ → i ≤ M → (Hid (Calls Tryz.prog 85 #[.pointer (some ⟨d, 0, none⟩)] wr fun e w' => e = .returned (.bool (decide (p + i = T.size))) ∧ ∃ n, w' = wr.drewN n) ∧ Hid (∀ m, Calls Tryz.prog 83 #[.pointer (some ⟨d, 0, none⟩), .string S] (wr.drewN m) fun e w' => e = .returned (.bool (seesP T S (p + i))) ∧ ∃ n, w' = (wr.drewN m).drewN n))) := fun wr i hb hi => ⟨ended_any wr d ⟨T, ere, p + i, bg, nm, tk, ls, op, lb, jp⟩ hb (by show p + i ≤ T.size; omega) hT, fun m => sees_any (wr.drewN m) d ⟨T, ere, p + i, bg, nm, tk, ls, op, lb, jp⟩ S hb (by show p + i ≤ T.size; omega) hT⟩
  have HT : Hid (∀ (wr : World) (i : Nat), RB wr d ⟨T, ere, p + i, bg, nm, tk, ls, op, lb, jp⟩ → wr.cell? ⟨d, 2, none⟩ = some (.int .i64 ((p : Int) + (i : Int))) ∧ wr.cell? ⟨d, 0, none⟩ = some (.string T) ∧ wr.frozen? ⟨d, 2, none⟩ = false) := fun wr i hb => ⟨by have := hb.c2; rw [this]; rfl, hb.c0, hb.fz 2⟩
  have HStep : Hid (∀ (wr : World) (i n : Nat), RB wr d ⟨T, ere, p + i, bg, nm, tk, ls, op, lb, jp⟩ → w.grownBy wr (some d) → RB ((wr.drewN n).setCell ⟨d, 2, none⟩ (.int .i64 ((p : Int) + (i : Int) + 1))) d ⟨T, ere, p + (i + 1), bg, nm, tk, ls, op, lb, jp⟩ ∧ w.grownBy ((wr.drewN n).setCell ⟨d, 2, none⟩ (.int .i64 ((p : Int) + (i : Int) + 1))) (some d)) := fun wr i n hb hg => ⟨by
    have := RB.set2 (w := wr.drewN n) hb (p + (i + 1))
    rw [show (((p + (i + 1) : Nat) : Nat) : Int) = (p : Int) + (i : Int) + 1 by omega] at this
    exact this, grown_set (grown_drew hg n) _ _⟩
  have HF : Hid (∀ (wr : World) (n : Nat), RB wr d ⟨T, ere, p + M, bg, nm, tk, ls, op, lb, jp⟩ → w.grownBy wr (some d) → AtE w d ⟨T, ere, p, bg, nm, tk, ls, op, lb, jp⟩ (p + M) (.string (T.extract p (p + M))) (.returned (.string (T.extract p (p + M)))) (wr.drewN n)) := fun wr n hb hg => ⟨rfl, hb, grown_drew hg n⟩
  have HB0 : Hid (RB w d ⟨T, ere, p + 0, bg, nm, tk, ls, op, lb, jp⟩ ∧ w.grownBy w (some d)) := ⟨h, grown_refl w d⟩
  clear h eM
  go_enter Tryz.func84, Tryz.ntmps84
  go_wp2
  go_loopg [10] M (fun gk s wr => ∃ i : Nat, gk = M - i ∧ i ≤ M ∧ Hid (RB wr d ⟨T, ere, p + i, bg, nm, tk, ls, op, lb, jp⟩ ∧ w.grownBy wr (some d)))
  case atStart => exact ⟨0, by omega, by omega, HB0⟩
  case round =>
    obtain ⟨i, hgk, hi, HI⟩ := hrel
    clear HB0 c2
    obtain ⟨x2, x0, xf⟩ := HT.out wr i HI.out.1
    have hsee := HSee.out i hi
    have HC := HQ.out wr i HI.out.1 hi
    by_cases hlt : i < M
    · rw [decide_eq_true hlt] at hsee
      obtain ⟨HE, HS⟩ := HC
      obtain ⟨b1, hb1⟩ : ∃ b1, decide (p + i = T.size) = b1 := ⟨_, rfl⟩
      obtain ⟨b2, hb2⟩ : ∃ b2, seesP T S (p + i) = b2 := ⟨_, rfl⟩
      rw [hb1] at HE hsee
      rw [hb2] at HS hsee
      clear hb1 hb2
      obtain ⟨rfl, rfl⟩ : b1 = false ∧ b2 = false := by revert hsee; cases b1 <;> cases b2 <;> simp
      go_wp2_with fail
      refine HE.out.mono ?_
      rintro e w1 ⟨rfl, n1, rfl⟩
      go_wp2_with fail
      refine (HS.out n1).mono ?_
      rintro e w1 ⟨rfl, n2, rfl⟩
      rw [World.drewN_drewN]
      obtain ⟨n, hn⟩ : ∃ n, n1 + n2 = n := ⟨_, rfl⟩
      rw [hn]
      clear hn HE HS hsee
      have HST := hide (HStep.out wr i n HI.out.1 HI.out.2)
      clear HI HQ HSee HT HStep HF x0
      have y2 : (wr.drewN n).cell? ⟨d, 2, none⟩ = some (.int .i64 ((p : Int) + (i : Int))) := x2
      have yf : (wr.drewN n).frozen? ⟨d, 2, none⟩ = false := xf
      go_wp2
      go_roundg (M - (i + 1))
      case rel => exact ⟨i + 1, rfl, by omega, HST⟩
      case measure => omega
    · rw [decide_eq_false hlt] at hsee
      have hiM : i = M := by omega
      subst hiM
      obtain ⟨HE, HS⟩ := HC
      obtain ⟨b1, hb1⟩ : ∃ b1, decide (p + i = T.size) = b1 := ⟨_, rfl⟩
      obtain ⟨b2, hb2⟩ : ∃ b2, seesP T S (p + i) = b2 := ⟨_, rfl⟩
      rw [hb1] at HE hsee
      rw [hb2] at HS hsee
      clear hb1 hb2
      cases b1 with
      | true =>
        have HX := hide (fun m => HF.out wr m HI.out.1 HI.out.2)
        clear HI HQ HSee HT HStep HF hlt HS hsee
        go_wp2_with fail
        refine HE.out.mono ?_
        rintro e w1 ⟨rfl, n, rfl⟩
        clear HE
        have y2 : (wr.drewN n).cell? ⟨d, 2, none⟩ = some (.int .i64 ((p : Int) + (i : Int))) := x2
        have y0 : (wr.drewN n).cell? ⟨d, 0, none⟩ = some (.string T) := x0
        have yle : (p : Int) + (i : Int) ≤ (T.size : Int) := by omega
        go_wp2
        go_quiet (fail)
        go_wp2
        go_ret
        first | exact HX.out _ | (rw [World.drewN_drewN]; exact HX.out _)
      | false =>
      obtain rfl : b2 = true := by revert hsee; cases b2 <;> simp
      go_wp2_with fail
      refine HE.out.mono ?_
      rintro e w1 ⟨rfl, n1, rfl⟩
      go_wp2_with fail
      refine (HS.out n1).mono ?_
      rintro e w1 ⟨rfl, n2, rfl⟩
      rw [World.drewN_drewN]
      obtain ⟨n, hn⟩ : ∃ n, n1 + n2 = n := ⟨_, rfl⟩
      rw [hn]
      clear hn HE HS hsee
      have HX := hide (fun m => HF.out wr m HI.out.1 HI.out.2)
      clear HI HQ HSee HT HStep HF hlt
      have y2 : (wr.drewN n).cell? ⟨d, 2, none⟩ = some (.int .i64 ((p : Int) + (i : Int))) := x2
      have y0 : (wr.drewN n).cell? ⟨d, 0, none⟩ = some (.string T) := x0
      have yle : (p : Int) + (i : Int) ≤ (T.size : Int) := by omega
      go_wp2
      go_quiet (fail)
      go_wp2
      go_ret
      first | exact HX.out _ | (rw [World.drewN_drewN]; exact HX.out _)
theorem upTo_any (w : World) (d : Nat) (q : Q) (S : ByteArray) (h : RB w d q) (hp : q.pl ≤ q.T.size) (hT : q.T.size ≤ 100000) :
    Calls Tryz.prog 84 #[.pointer (some ⟨d, 0, none⟩), .string S] w fun e w' => AtE w d q (q.pl + run (fun c => !isIn S c) q.T q.pl) (.string (q.T.extract q.pl (q.pl + run (fun c => !isIn S c) q.T q.pl))) e w' := upTo_any0 w d _ _ _ _ _ _ _ _ _ _ S h hp hT
end Go.Proofs.YtdhachmelgdknaaGreatDoor.rdr

/- The reader goes to a command, and behind one. -/
import Derived.Test.YtdhachmelgdknaaGreatDoorRdo
namespace Go.Proofs.YtdhachmelgdknaaGreatDoor.rdr
open Go.ChangeShapes Go.WideShapes Go.ChangeAt Go.RowKit
open Go.Proofs.YtdhachmelgdknaaGreatDoor.bas
set_option linter.unusedVariables false
abbrev sA : ByteArray := ⟨#[32, 9, 10, 59]⟩
abbrev sH : ByteArray := ⟨#[35]⟩
abbrev sL : ByteArray := ⟨#[10]⟩
abbrev sB : ByteArray := ⟨#[32, 9]⟩
abbrev sE : ByteArray := ⟨#[59, 10, 125]⟩
def ov (S T : ByteArray) (p : Nat) : Nat := p + run (isIn S) T p
def up (S T : ByteArray) (p : Nat) : Nat := p + run (fun c => !isIn S c) T p
theorem ov_le (S T : ByteArray) (p : Nat) (h : p ≤ T.size) : ov S T p ≤ T.size := run_le _ T p h
theorem up_le (S T : ByteArray) (p : Nat) (h : p ≤ T.size) : up S T p ≤ T.size := run_le _ T p h
/-- Over remarks. -/
def tcGo (T : ByteArray) : Nat → Nat → Option Nat
  | 0, p => if seesP T sH p then none else some p
  | f + 1, p => if seesP T sH p then tcGo T f (ov sA T (up sL T p)) else some p
theorem tc_stop {T : ByteArray} {f p R : Nat} (h : tcGo T f p = some R) (hs : seesP T sH p = false) : p = R := by
  cases f <;> (rw [tcGo, hs] at h; simpa using h)
theorem tc_more {T : ByteArray} {f p R : Nat} (h : tcGo T f p = some R) (hs : seesP T sH p = true) : ∃ g, f = g + 1 ∧ tcGo T g (ov sA T (up sL T p)) = some R := by
  cases f with
  | zero => rw [tcGo, hs] at h; simp at h
  | succ g => rw [tcGo, hs] at h; exact ⟨g, rfl, by simpa using h⟩
/-- The reader at a place, all else as it was. -/
structure Mv (w : World) (d : Nat) (q : Q) (k : Nat) (wr : World) : Prop where
  rb : RB wr d { q with pl := k }
  gr : w.grownBy wr (some d)
theorem Mv.refl {w : World} {d : Nat} {q : Q} (h : RB w d q) : Mv w d q q.pl w := ⟨h, grown_refl w d⟩
theorem mv_over {w : World} {d : Nat} {q : Q} {k : Nat} {wr : World} (S : ByteArray) (hm : Mv w d q k wr) (hk : k ≤ q.T.size) (hT : q.T.size ≤ 100000) : Calls Tryz.prog 82 #[.pointer (some ⟨d, 0, none⟩), .string S] wr fun e w' => e = .returned (.string (q.T.extract k (ov S q.T k))) ∧ Mv w d q (ov S q.T k) w' := by
  refine (over_any wr d { q with pl := k } S hm.rb hk hT).mono ?_
  rintro e w' ⟨rfl, h2, g2⟩
  exact ⟨rfl, h2, grown_tr hm.gr g2⟩
theorem mv_upTo {w : World} {d : Nat} {q : Q} {k : Nat} {wr : World} (S : ByteArray) (hm : Mv w d q k wr) (hk : k ≤ q.T.size) (hT : q.T.size ≤ 100000) : Calls Tryz.prog 84 #[.pointer (some ⟨d, 0, none⟩), .string S] wr fun e w' => e = .returned (.string (q.T.extract k (up S q.T k))) ∧ Mv w d q (up S q.T k) w' := by
  refine (upTo_any wr d { q with pl := k } S hm.rb hk hT).mono ?_
  rintro e w' ⟨rfl, h2, g2⟩
  exact ⟨rfl, h2, grown_tr hm.gr g2⟩
theorem mv_sees {w : World} {d : Nat} {q : Q} {k : Nat} {wr : World} (S : ByteArray) (hm : Mv w d q k wr) (hk : k ≤ q.T.size) (hT : q.T.size ≤ 100000) : Calls Tryz.prog 83 #[.pointer (some ⟨d, 0, none⟩), .string S] wr fun e w' => e = .returned (.bool (seesP q.T S k)) ∧ Mv w d q k w' := by
  refine (sees_any wr d { q with pl := k } S hm.rb hk hT).mono ?_
  rintro e w' ⟨rfl, n, rfl⟩
  exact ⟨rfl, hm.rb, grown_drew hm.gr n⟩
theorem mv_ended {w : World} {d : Nat} {q : Q} {k : Nat} {wr : World} (hm : Mv w d q k wr) (hk : k ≤ q.T.size) (hT : q.T.size ≤ 100000) : Calls Tryz.prog 85 #[.pointer (some ⟨d, 0, none⟩)] wr fun e w' => e = .returned (.bool (decide (k = q.T.size))) ∧ Mv w d q k w' := by
  refine (ended_any wr d { q with pl := k } hm.rb hk hT).mono ?_
  rintro e w' ⟨rfl, n, rfl⟩
  exact ⟨rfl, hm.rb, grown_drew hm.gr n⟩
theorem mv_takes {w : World} {d : Nat} {q : Q} {k : Nat} {wr : World} (S : ByteArray) (hm : Mv w d q k wr) (hk : k ≤ q.T.size) (hT : q.T.size ≤ 100000) : Calls Tryz.prog 87 #[.pointer (some ⟨d, 0, none⟩), .string S] wr fun e w' => e = .returned (.bool (seesP q.T S k)) ∧ Mv w d q (if seesP q.T S k then k + 1 else k) w' := by
  refine (takes_any wr d { q with pl := k } S hm.rb hk hT).mono ?_
  rintro e w' ⟨rfl, h2, g2⟩
  exact ⟨rfl, h2, grown_tr hm.gr g2⟩
theorem sees_lt {T S : ByteArray} {k : Nat} (h : seesP T S k = true) : k < T.size := by
  rcases Nat.lt_or_ge k T.size with h1 | h1
  · exact h1
  · rw [sees_end T S k h1] at h; cases h
set_option maxHeartbeats 1600000 in
theorem toCommand_any {w : World} {d : Nat} {q : Q} {k : Nat} {w0 : World} (hm : Mv w d q k w0) (hk : k ≤ q.T.size) (hT : q.T.size ≤ 100000) (f R : Nat) (hf : tcGo q.T f (ov sA q.T k) = some R) :
    Calls Tryz.prog 48 #[.pointer (some ⟨d, 0, none⟩)] w0 fun e w' => e = .returned (.bool (!decide (R = q.T.size))) ∧ Mv w d q R w' := by
  have H0 := hide (mv_over sA hm hk hT)
  have hp1 := ov_le sA q.T k hk
  have HG : Hid (tcGo q.T f (ov sA q.T k) = some R) := hf
  clear hm hf hk
  go_enter Tryz.func48, Tryz.ntmps48
  go_wp2_with fail
  refine H0.out.mono ?_
  rintro e w1 ⟨rfl, hm1⟩
  obtain ⟨k1, ek1⟩ : ∃ k1, ov sA q.T k = k1 := ⟨_, rfl⟩
  rw [ek1] at hm1 HG hp1 ⊢
  have HM1 := hide hm1
  clear H0 hm1 ek1
  go_wp2
  go_loopg [5] f (fun gk s wr => ∃ k : Nat, k ≤ q.T.size ∧ Hid (tcGo q.T gk k = some R ∧ Mv w d q k wr))
  case atStart => exact ⟨k1, hp1, HG.out, HM1.out⟩
  case round =>
    obtain ⟨k, hk, HI⟩ := hrel
    clear HG HM1
    have HS := hide (mv_sees sH HI.out.2 hk hT)
    cases hs : seesP q.T sH k with
    | true =>
      rw [hs] at HS
      obtain ⟨g, rfl, hg⟩ := tc_more HI.out.1 hs
      have HG := hide hg
      clear hg hs HI
      have hu := up_le sL q.T k hk
      have ho := ov_le sA q.T _ hu
      go_wp2_with fail
      refine HS.out.mono ?_
      rintro e w2 ⟨rfl, hm2⟩
      have HU := hide (mv_upTo sL hm2 hk hT)
      clear HS hm2
      go_wp2_with fail
      refine HU.out.mono ?_
      rintro e w3 ⟨rfl, hm3⟩
      have HO := hide (mv_over sA hm3 hu hT)
      clear HU hm3
      obtain ⟨k2, ek2⟩ : ∃ k2, up sL q.T k = k2 := ⟨_, rfl⟩
      rw [ek2] at HG hu ho HO ⊢
      go_wp2_with fail
      refine HO.out.mono ?_
      rintro e w4 ⟨rfl, hm4⟩
      obtain ⟨k3, ek3⟩ : ∃ k3, ov sA q.T k2 = k3 := ⟨_, rfl⟩
      rw [ek3] at HG ho hm4 ⊢
      have HM4 := hide hm4
      clear HO hm4 ek2 ek3
      go_wp2
      go_roundg g
      case rel => exact ⟨k3, ho, HG.out, HM4.out⟩
      case measure => omega
    | false =>
      rw [hs] at HS
      have hR := tc_stop HI.out.1 hs
      subst hR
      clear HI
      go_wp2_with fail
      refine HS.out.mono ?_
      rintro e w2 ⟨rfl, hm2⟩
      have HE := hide (mv_ended hm2 hk hT)
      clear HS hm2 hs
      go_wp2_with fail
      refine HE.out.mono ?_
      rintro e w3 ⟨rfl, hm3⟩
      have HM := hide hm3
      clear HE hm3
      obtain ⟨b, eb⟩ : ∃ b, decide (k = q.T.size) = b := ⟨_, rfl⟩
      rw [eb]
      go_wp2
      go_ret
      refine ⟨?_, HM.out⟩
      rw [eb]
      rfl
set_option maxHeartbeats 800000 in
/-- Nothing else stands behind a command. -/
theorem behind_any {w : World} {d : Nat} {q : Q} {k : Nat} {w0 : World} (hm : Mv w d q k w0) (hk : k ≤ q.T.size) (hT : q.T.size ≤ 100000) (hok : ov sB q.T k = q.T.size ∨ seesP q.T sE (ov sB q.T k) = true) :
    Calls Tryz.prog 110 #[.pointer (some ⟨d, 0, none⟩)] w0 fun e w' => e = .returned (.tuple #[]) ∧ Mv w d q (ov sB q.T k) w' := by
  have H0 := hide (mv_over sB hm hk hT)
  have hp1 := ov_le sB q.T k hk
  obtain ⟨k1, ek1⟩ : ∃ k1, ov sB q.T k = k1 := ⟨_, rfl⟩
  rw [ek1] at hp1 H0 hok ⊢
  clear hm ek1
  have HOK := hide hok
  clear hok
  go_enter Tryz.func110, Tryz.ntmps110
  go_wp2_with fail
  refine H0.out.mono ?_
  rintro e w1 ⟨rfl, hm1⟩
  have HE := hide (mv_ended hm1 hp1 hT)
  clear H0 hm1
  by_cases he : k1 = q.T.size
  · rw [decide_eq_true he] at HE
    clear HOK
    go_wp2_with fail
    refine HE.out.mono ?_
    rintro e w2 ⟨rfl, hm2⟩
    have HM := hide hm2
    clear HE hm2
    go_wp2
    go_end0
    exact ⟨rfl, HM.out⟩
  · rw [decide_eq_false he] at HE
    go_wp2_with fail
    refine HE.out.mono ?_
    rintro e w2 ⟨rfl, hm2⟩
    have HS := mv_sees sE hm2 hp1 hT
    rw [HOK.out.resolve_left he] at HS
    have HS := hide HS
    clear HE hm2 HOK
    go_wp2_with fail
    refine HS.out.mono ?_
    rintro e w3 ⟨rfl, hm3⟩
    have HM := hide hm3
    clear HS hm3
    go_wp2
    go_end0
    exact ⟨rfl, HM.out⟩
end Go.Proofs.YtdhachmelgdknaaGreatDoor.rdr

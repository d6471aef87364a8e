/- Contracts of the specification's reader of values: a number, a text. -/
import Derived.Test.YtdahnooehjdcgaaRdL
namespace Go.Proofs.Ytdahnooehjdcgaa.rds
open Go.ChangeShapes Go.WideShapes Go.ChangeAt Go.RowKit
open Go.Proofs.Ytdahnooehjdcgaa.bytes Go.Proofs.Ytdahnooehjdcgaa.pile Go.Proofs.Ytdahnooehjdcgaa.get Go.Proofs.Ytdahnooehjdcgaa.dec Go.Proofs.Ytdahnooehjdcgaa.jhelp Go.Proofs.Ytdahnooehjdcgaa.read Go.Proofs.Ytdahnooehjdcgaa.rdi Go.Proofs.Ytdahnooehjdcgaa.rdj Go.Proofs.Ytdahnooehjdcgaa.rdk Go.Proofs.Ytdahnooehjdcgaa.rdl
set_option linter.unusedVariables false

set_option maxHeartbeats 1600000 in
theorem number_s (w : World) (d : Nat) (ao : Option Addr) (cap : Nat) (xs : List Int) (a : Nat) (b : Bool) (h : Rdr 45 w d ao cap xs a b) (hl : xs.length ≤ 65536) :
    Calls Try.prog 20 #[.pointer (some ⟨d, 0, none⟩)] w fun r w' => r = .returned (.int .i64 (nS xs a b).1) ∧ Rdr 45 w' d ao cap xs (nS xs a b).2.1 (nS xs a b).2.2 ∧ w.grownBy w' (some d) := by
  have HH : Hid (Rdr 45 w d ao cap xs a b) := h
  have c0 : w.cell? ⟨d, 0, none⟩ = some (.slice ao xs.length cap) := cell_of h.1 rfl
  have c1 : w.cell? ⟨d, 1, none⟩ = some (.int .i64 a) := cell_of h.1 rfl
  have c2 : w.cell? ⟨d, 2, none⟩ = some (.bool b) := cell_of h.1 rfl
  have f1 := frozen_of h.1 1
  have f2 := frozen_of h.1 2
  cases b with
  | true =>
    rw [nS_true]
    clear h
    go_enter Try.func20, Try.ntmps20
    go_wp2
    go_ret
    exact ⟨rfl, HH.out, World.grownBy.refl _ _⟩
  | false =>
    rw [nS_false]
    have HC : Hid (∀ n, Calls Try.prog 32 #[.slice ao xs.length cap, .int .i64 a] (w.drewN n) fun e w' => e = .returned (.tuple #[.int .i64 (gotN xs a).1, .int .i64 (behind a (gotN xs a)), .int .i64 (gotN xs a).2.2]) ∧ w' = w.drewN n) := fun n => l01Get_any (w.drewN n) _ xs a h.2.1 (h.drew n).2.2.1 hl
    by_cases hg : (gotN xs a).2.2 = 0
    · rw [vI_yes hg]
      have HG : Hid (a + (gotN xs a).2.1 ≤ xs.length) := (gotN_ok h.2.1 hg).2
      have hbe : behind a (gotN xs a) = (a : Int) + ((gotN xs a).2.1 : Nat) := by unfold behind; rw [if_pos hg]
      rw [hg, hbe] at HC
      clear h hbe hg
      generalize gotN xs a = g at *
      obtain ⟨n, k, z⟩ := g
      simp only at HC HG ⊢
      have HP : Hid (∀ m, Rdr 45 ((w.drewN m).setCell ⟨d, 1, none⟩ (.int .i64 ((a : Int) + (k : Nat)))) d ao cap xs (a + k) false ∧ w.grownBy ((w.drewN m).setCell ⟨d, 1, none⟩ (.int .i64 ((a : Int) + (k : Nat)))) (some d)) := fun m => by
        have := HH.out.place m (a + k) HG.out
        have e1 : ((a + k : Nat) : Int) = (a : Int) + (k : Nat) := by omega
        rw [e1] at this
        exact this
      go_enter Try.func20, Try.ntmps20
      go_wp2
      go_quiet (first | (go_at_call 32; refine Calls.quiet_of_same (HC.out _)))
      go_wp2
      go_ret
      exact ⟨rfl, HP.out _⟩
    · rw [vI_no hg]
      have hz := gotN_bad hg
      have hbe : behind a (gotN xs a) = 0 := by unfold behind; rw [if_neg hg]
      rw [hz, hbe] at HC
      obtain ⟨st, hst⟩ : ∃ st, st = (gotN xs a).2.2 := ⟨_, rfl⟩
      rw [← hst] at HC hg
      have hne : (st != 0) = true := by simpa using hg
      have HP : Hid (∀ m, Rdr 45 ((w.drewN m).setCell ⟨d, 2, none⟩ (.bool true)) d ao cap xs a true ∧ w.grownBy ((w.drewN m).setCell ⟨d, 2, none⟩ (.bool true)) (some d)) := fun m => HH.out.mark m
      clear h hbe hst hz
      go_enter Try.func20, Try.ntmps20
      go_wp2
      go_quiet (first | (go_at_call 32; refine Calls.quiet_of_same (HC.out _)))
      go_wp2
      go_ret
      exact ⟨rfl, HP.out _⟩

theorem tS_long {xs : List Int} {a : Nat} {b : Bool} (h : (nS xs a b).2.2 = true ∨ (xs.length : Int) - (nS xs a b).2.1 < (nS xs a b).1) : tS xs a b = (⟨#[]⟩, (nS xs a b).2.1, true) := by rw [tS, if_pos h]
theorem tS_fits {xs : List Int} {a : Nat} {b : Bool} (h : ¬ ((nS xs a b).2.2 = true ∨ (xs.length : Int) - (nS xs a b).2.1 < (nS xs a b).1)) : tS xs a b = (strOf ((xs.drop (nS xs a b).2.1).take (nS xs a b).1.toNat), (nS xs a b).2.1 + (nS xs a b).1.toNat, false) := by rw [tS, if_neg h]

set_option maxHeartbeats 3200000 in
theorem text_s (w : World) (d : Nat) (ao : Option Addr) (cap : Nat) (xs : List Int) (a : Nat) (b : Bool) (h : Rdr 45 w d ao cap xs a b) (hl : xs.length ≤ 65536) :
    Calls Try.prog 21 #[.pointer (some ⟨d, 0, none⟩)] w fun r w' => r = .returned (.string (tS xs a b).1) ∧ Rdr 45 w' d ao cap xs (tS xs a b).2.1 (tS xs a b).2.2 ∧ w.grownBy w' (some d) := by
  have HC := number_s w d ao cap xs a b h hl
  have hv := nS_ok b h.2.1
  obtain ⟨hc1, hc2⟩ := h.bd
  unfold maxLen at hc2
  by_cases hlong : (nS xs a b).2.2 = true ∨ (xs.length : Int) - (nS xs a b).2.1 < (nS xs a b).1
  · rw [tS_long hlong]
    generalize nS xs a b = p at *
    obtain ⟨n, a1, b1⟩ := p
    simp only at HC hv hlong ⊢
    have HP : Hid (∀ w1 m, Rdr 45 w1 d ao cap xs a1 b1 → Rdr 45 ((w1.drewN m).setCell ⟨d, 2, none⟩ (.bool true)) d ao cap xs a1 true ∧ w1.grownBy ((w1.drewN m).setCell ⟨d, 2, none⟩ (.bool true)) (some d)) := fun w1 m hr => hr.mark m
    cases b1 with
    | true =>
      go_enter Try.func21, Try.ntmps21
      go_wp2_with fail
      refine HC.mono ?_
      rintro r w1 ⟨rfl, R1, g1⟩
      have HR : Hid (Rdr 45 w1 d ao cap xs a1 true ∧ w.grownBy w1 (some d)) := ⟨R1, g1⟩
      have c2 : w1.cell? ⟨d, 2, none⟩ = some (.bool true) := cell_of R1.1 rfl
      have f2 := frozen_of R1.1 2
      have hP := hide (fun m => HP.out w1 m R1)
      clear R1 g1 HC HP
      go_wp2
      go_quiet (fail)
      go_wp2
      go_ret
      exact ⟨rfl, (hP.out _).1, grown_trans HR.out.2 (hP.out _).2⟩
    | false =>
      have hlt : (xs.length : Int) - a1 < n := by rcases hlong with h | h; · cases h
                                                  exact h
      go_enter Try.func21, Try.ntmps21
      go_wp2_with fail
      refine HC.mono ?_
      rintro r w1 ⟨rfl, R1, g1⟩
      have HR : Hid (Rdr 45 w1 d ao cap xs a1 false ∧ w.grownBy w1 (some d)) := ⟨R1, g1⟩
      have c0 : w1.cell? ⟨d, 0, none⟩ = some (.slice ao xs.length cap) := cell_of R1.1 rfl
      have c1 : w1.cell? ⟨d, 1, none⟩ = some (.int .i64 a1) := cell_of R1.1 rfl
      have c2 : w1.cell? ⟨d, 2, none⟩ = some (.bool false) := cell_of R1.1 rfl
      have f2 := frozen_of R1.1 2
      have HPP := hide (fun m => HP.out w1 m R1)
      clear R1 g1 HC HP
      go_wp2
      go_quiet (fail)
      go_wp2
      go_ret
      exact ⟨rfl, (HPP.out _).1, grown_trans HR.out.2 (HPP.out _).2⟩
  · rw [tS_fits hlong]
    generalize nS xs a b = p at *
    obtain ⟨n, a1, b1⟩ := p
    simp only at HC hv hlong ⊢
    obtain ⟨k, rfl⟩ := Int.eq_ofNat_of_zero_le hv.1
    rw [Int.toNat_natCast]
    have hb1 : b1 = false := by cases b1; rfl; exact absurd (.inl rfl) hlong
    subst hb1
    have hlt : ¬ ((xs.length : Int) - a1 < (k : Int)) := fun h => hlong (.inr h)
    have hk : a1 + k ≤ xs.length := by omega
    have HK : Hid (a1 + k ≤ xs.length) := hk
    have hkI : (a1 : Int) + k ≤ cap := by omega
    by_cases hcap : cap = a1
    · obtain rfl : k = 0 := by omega
      have hv1 : cutV ao cap a1 0 = .slice ao 0 0 := by unfold cutV; rw [if_pos hcap]
      go_enter Try.func21, Try.ntmps21
      go_wp2_with fail
      refine HC.mono ?_
      rintro r w1 ⟨rfl, R1, g1⟩
      have HR : Hid (Rdr 45 w1 d ao cap xs a1 false ∧ w.grownBy w1 (some d)) := ⟨R1, g1⟩
      have c0 : w1.cell? ⟨d, 0, none⟩ = some (.slice ao xs.length cap) := cell_of R1.1 rfl
      have c1 : w1.cell? ⟨d, 1, none⟩ = some (.int .i64 a1) := cell_of R1.1 rfl
      have c2 : w1.cell? ⟨d, 2, none⟩ = some (.bool false) := cell_of R1.1 rfl
      have f1 := frozen_of R1.1 1
      have hs : ∀ n, (convert 25 9 (.slice ao 0 0)).run Try.prog (w1.drewN n) = .ok (.string (strOf ((xs.drop a1).take 0))) (w1.drewN n) := fun n => by rw [← hv1]; exact run_str (cut_rd (R1.drew n).2.2 HK.out)
      have hs' : ∀ n, (convert 25 9 (.slice ao (a1 + 0 - a1) 0)).run Try.prog (w1.drewN n) = .ok (.string (strOf ((xs.drop a1).take 0))) (w1.drewN n) := fun n => by rw [show a1 + 0 - a1 = 0 by omega]; exact hs n
      have HP : Hid (∀ m, Rdr 45 ((w1.drewN m).setCell ⟨d, 1, none⟩ (.int .i64 ((a1 : Int) + ((0 : Nat) : Int)))) d ao cap xs (a1 + 0) false ∧ w1.grownBy ((w1.drewN m).setCell ⟨d, 1, none⟩ (.int .i64 ((a1 : Int) + ((0 : Nat) : Int)))) (some d)) := fun m => by
        have := HR.out.1.place m (a1 + 0) HK.out
        have e1 : ((a1 + 0 : Nat) : Int) = (a1 : Int) + ((0 : Nat) : Int) := by omega
        rw [e1] at this
        exact this
      clear R1 g1 HC hv1
      obtain ⟨st, hst⟩ : ∃ st, st = strOf ((xs.drop a1).take 0) := ⟨_, rfl⟩
      rw [← hst] at hs hs'
      have HST : Hid (st = strOf ((xs.drop a1).take 0)) := hst
      clear hst
      go_wp2
      go_quiet (fail)
      go_wp2
      go_quiet (fail)
      go_wp2
      go_ret
      refine ⟨?_, (HP.out _).1, grown_trans HR.out.2 (HP.out _).2⟩
      show Ending.returned (.string st) = _
      rw [HST.out]
    · have hv1 : cutV ao cap a1 k = .slice (ao.map fun x => x.add a1) k (cap - a1) := by unfold cutV; rw [if_neg hcap]
      go_enter Try.func21, Try.ntmps21
      go_wp2_with fail
      refine HC.mono ?_
      rintro r w1 ⟨rfl, R1, g1⟩
      have HR : Hid (Rdr 45 w1 d ao cap xs a1 false ∧ w.grownBy w1 (some d)) := ⟨R1, g1⟩
      have c0 : w1.cell? ⟨d, 0, none⟩ = some (.slice ao xs.length cap) := cell_of R1.1 rfl
      have c1 : w1.cell? ⟨d, 1, none⟩ = some (.int .i64 a1) := cell_of R1.1 rfl
      have c2 : w1.cell? ⟨d, 2, none⟩ = some (.bool false) := cell_of R1.1 rfl
      have f1 := frozen_of R1.1 1
      have hs : ∀ n, (convert 25 9 (.slice (ao.map fun x => x.add a1) k (cap - a1))).run Try.prog (w1.drewN n) = .ok (.string (strOf ((xs.drop a1).take k))) (w1.drewN n) := fun n => by rw [← hv1]; exact run_str (cut_rd (R1.drew n).2.2 HK.out)
      have hs' : ∀ n, (convert 25 9 (.slice (ao.map fun x => x.add a1) (a1 + k - a1) (cap - a1))).run Try.prog (w1.drewN n) = .ok (.string (strOf ((xs.drop a1).take k))) (w1.drewN n) := fun n => by rw [show a1 + k - a1 = k by omega]; exact hs n
      have HP : Hid (∀ m, Rdr 45 ((w1.drewN m).setCell ⟨d, 1, none⟩ (.int .i64 ((a1 : Int) + (k : Nat)))) d ao cap xs (a1 + k) false ∧ w1.grownBy ((w1.drewN m).setCell ⟨d, 1, none⟩ (.int .i64 ((a1 : Int) + (k : Nat)))) (some d)) := fun m => by
        have := HR.out.1.place m (a1 + k) HK.out
        have e1 : ((a1 + k : Nat) : Int) = (a1 : Int) + (k : Nat) := by omega
        rw [e1] at this
        exact this
      clear R1 g1 HC hv1
      obtain ⟨st, hst⟩ : ∃ st, st = strOf ((xs.drop a1).take k) := ⟨_, rfl⟩
      rw [← hst] at hs hs'
      have HST : Hid (st = strOf ((xs.drop a1).take k)) := hst
      clear hst
      go_wp2
      go_quiet (fail)
      go_wp2
      go_quiet (fail)
      go_wp2
      go_ret
      refine ⟨?_, (HP.out _).1, grown_trans HR.out.2 (HP.out _).2⟩
      show Ending.returned (.string st) = _
      rw [HST.out]
end Go.Proofs.Ytdahnooehjdcgaa.rds

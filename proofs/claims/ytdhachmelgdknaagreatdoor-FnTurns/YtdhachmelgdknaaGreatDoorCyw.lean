/- All cycles of a run of p: the walk. -/
import Derived.Test.YtdhachmelgdknaaGreatDoorMF
namespace Go.Proofs.YtdhachmelgdknaaGreatDoor.run
open Go.ChangeShapes Go.WideShapes Go.ChangeAt Go.RowKit
open Go.Proofs.YtdhachmelgdknaaGreatDoor.bas Go.Proofs.YtdhachmelgdknaaGreatDoor.rdr Go.Proofs.YtdhachmelgdknaaGreatDoor.chk
set_option linter.unusedVariables false
set_option maxHeartbeats 3200000 in
theorem cycles_any {base d : Nat} {W : World} {u : U} {ls : List ByteArray} {m : Nat} {q : Bool} (hw : Wk base d W u ls m q) (w : World) (h : At base d W u ls m q 0 w) :
    Calls Tryz.prog 38 #[.pointer (some ⟨d, 0, none⟩)] w fun e w' => e = .returned (.tuple #[]) ∧ At base d W u ls m q ls.length w' := by
  have HW := hide hw
  have H0 := hide h
  have hm60 := hw.cmds
  clear hw h
  go_enter Tryz.func38, Tryz.ntmps38
  go_wp2
  go_step3
  go_wp2
  go_step3
  go_wp2
  go_loopg [2] ls.length (fun gk s wr => ∃ i : Nat, gk = ls.length - i ∧ i ≤ ls.length ∧ Hid (At base d W u ls m q i wr))
  case atStart => exact ⟨0, by omega, by omega, H0⟩
  case round =>
    obtain ⟨i, hgk, hi, HI⟩ := hrel
    clear H0
    rcases step_begin HW.out HI.out hi with ⟨he, hB⟩ | ⟨a, ha, hB⟩
    · have HB := hide hB
      clear hB HI
      go_wp2_with fail
      refine HB.out.mono ?_
      rintro e w1 ⟨rfl, h1⟩
      have H1 := hide h1
      clear HB h1
      go_wp2
      (try rw [Exit.noGoto_normal])
      go_end0
      refine ⟨rfl, ?_⟩
      rw [← he]
      exact H1.out
    · have HB := hide hB
      have hilt := (List.getElem?_eq_some_iff.1 ha).1
      have HA := hide ha
      clear hB HI ha
      go_wp2_with fail
      refine HB.out.mono ?_
      rintro e w1 ⟨rfl, h1⟩
      have H1 := hide h1
      clear HB h1
      go_wp2
      go_loopg [4] m (fun gk2 s wr => ∃ j : Nat, gk2 = m - j ∧ j ≤ m ∧ Hid (Mid base d W u ls m q i a j wr))
      case atStart => exact ⟨0, by omega, by omega, H1⟩
      case round =>
        obtain ⟨j, hgk2, hj, HJ⟩ := hrel
        clear H1
        obtain ⟨u', hR, e1, e2, e3, e4, e5, e6, e7, e8⟩ := HJ.out.ex
        obtain ⟨lo, lc, hls, _⟩ := HW.out.list
        have c12 := hR.ru.c12
        have c5 := hR.ru.c5
        rw [e8] at c12
        rw [e1, hls] at c5
        clear hR e1 e2 e3 e4 e5 e6 e7 e8 hls
        have HD : Hid (∀ n, Mid base d W u ls m q i a j (wr.drewN n)) := fun n => by
          obtain ⟨u', hR, f⟩ := HJ.out.ex
          refine ⟨⟨u', hR.grow hR.ru (grown_drew (grown_refl _ _) n) rfl hR.kp hR.ks, f⟩, HJ.out.kp.trans (KP.grown (grown_drew (grown_refl _ _) n) hR.bz)⟩
        by_cases hlt : j < m
        · have HL := hide (fun n => step_look HW.out HA.out (HD.out n) hlt)
          clear HD HJ
          go_wp2
          go_quiet (fail)
          go_wp2_with fail
          refine (HL.out _).mono ?_
          rintro e w2 ⟨rfl, h2⟩
          have H2 := hide h2
          clear HL h2
          go_wp2
          go_roundg (m - (j + 1))
          case rel => exact ⟨j + 1, rfl, by omega, H2⟩
          case measure => omega
        · have hjm : j = m := by omega
          subst hjm
          have HE := hide (fun n => step_end HW.out HA.out (HD.out n))
          clear HD HJ
          go_wp2
          go_quiet (fail)
          go_wp2_with fail
          refine (HE.out _).mono ?_
          rintro e w2 ⟨rfl, h2⟩
          have H2 := hide h2
          clear HE h2
          go_wp2
          go_roundg (ls.length - (i + 1))
          case rel => exact ⟨i + 1, rfl, by omega, H2⟩
          case measure => omega
end Go.Proofs.YtdhachmelgdknaaGreatDoor.run

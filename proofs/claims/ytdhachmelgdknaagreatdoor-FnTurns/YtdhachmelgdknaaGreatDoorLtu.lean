/- FnTurns's walk. -/
import Derived.Test.YtdhachmelgdknaaGreatDoorElt
import Derived.Test.YtdhachmelgdknaaGreatDoorTxs
namespace Go.Proofs.YtdhachmelgdknaaGreatDoor.law1
open Go.ChangeShapes Go.WideShapes Go.ChangeAt Go.RowKit
open Go.Proofs.YtdhachmelgdknaaGreatDoor.bas Go.Proofs.YtdhachmelgdknaaGreatDoor.rdr Go.Proofs.YtdhachmelgdknaaGreatDoor.run Go.Proofs.YtdhachmelgdknaaGreatDoor.texts Go.Proofs.YtdhachmelgdknaaGreatDoor.pile
set_option linter.unusedVariables false
set_option maxRecDepth 20000 in
set_option maxHeartbeats 4000000 in
theorem turns_any (w : World) (ao : Option Addr) (cap : Nat) (xs : List Int) (h : RdA w (.slice ao xs.length cap) xs) (mm : Int) (hm : w.cell? ⟨0, 0, none⟩ = some (.int .i64 mm)) :
    Calls Tryz.prog 4 #[.slice ao xs.length cap] w fun e w' => e = .returned (.bool true) ∧ Below w.heap.size w w' := by
  by_cases l1 : 1048576 < xs.length
  · have l1' : (1048576 : Int) < (xs.length : Int) := by omega
    have l1b : decide ((1048576 : Int) < (xs.length : Int)) = true := by simp [l1']
    go_enter Tryz.func4, Tryz.ntmps4
    go_wp2
    go_ret
    exact ⟨rfl, Below.refl _ _⟩
  have l1' : ¬ (1048576 : Int) < (xs.length : Int) := by omega
  have l1b : decide ((1048576 : Int) < (xs.length : Int)) = false := by simp; omega
  have HT := hide (textsOf_any w ao cap xs (by omega) h)
  clear h
  have HM := hide hm
  clear hm
  go_enter Tryz.func4, Tryz.ntmps4
  go_wp2_with fail
  refine HT.out.mono ?_
  rintro e w1 ⟨ls, rfl, hlen, hls, b1⟩
  have HB1 := hide b1
  have h6 : ∀ l ∈ ls, l.size ≤ 6 := fun l hl => (hls l hl).1
  have hno : ∀ l ∈ ls, NoNl l := fun l hl => (hls l hl).2
  have hz := szLe ls h6
  have hnr : ∀ l ∈ ls.reverse, NoNl l := fun l hl => hno l (List.mem_reverse.1 hl)
  have hzr := szRev ls
  have HE1 : Hid (∀ W, Below w.heap.size w W → Calls Tryz.prog 6 #[.string tA, .string (joinL ls), .bool false, .bool false] W fun e w' => EdE W (joinL ls.reverse) e w') := fun W hB => edit_t W ls tA false mm (cell_at hB HM.out (Nat.le_refl _)) hno (by omega) (by omega) (by decide) scr_a
  have HE2 : Hid (∀ W, Below w.heap.size w W → Calls Tryz.prog 6 #[.string tB, .string (joinL ls.reverse), .bool true, .bool false] W fun e w' => EdE W (joinL ls) e w') := fun W hB => by
    have := edit_t W ls.reverse tB true mm (cell_at hB HM.out (Nat.le_refl _)) hnr (by rw [List.length_reverse]; omega) (by omega) (by decide) scr_b
    rw [List.reverse_reverse] at this
    exact this
  have HE3 : Hid (∀ W, Calls Tryz.prog 7 #[.string tA, .string (joinL ls), .bool false, .bool false] W fun e w' => EdE W (joinL ls.reverse) e w') := fun W => sedit_t W ls hno (by omega) (by omega)
  obtain ⟨T, hT⟩ : ∃ T, joinL ls = T := ⟨_, rfl⟩
  obtain ⟨T2, hT2⟩ : ∃ T2, joinL ls.reverse = T2 := ⟨_, rfl⟩
  rw [hT] at HE1 HE2 HE3 hz hzr ⊢
  rw [hT2] at HE1 HE2 HE3 hzr
  clear hT hT2 hls h6 hno hnr b1 HT
  go_wp2_with fail
  refine (HE1.out w1 HB1.out).mono ?_
  rintro e w2 ⟨rfl, b2⟩
  have HB2 := hide (HB1.out.trans (b2.mono HB1.out.size))
  clear b2 HB1 HE1
  go_wp2_with fail
  refine (HE2.out w2 HB2.out).mono ?_
  rintro e w3 ⟨rfl, b3⟩
  have HB3 := hide (HB2.out.trans (b3.mono HB2.out.size))
  clear b3 HB2 HE2
  go_wp2_with fail
  refine (HE3.out w3).mono ?_
  rintro e w4 ⟨rfl, b4⟩
  have HB4 := hide (HB3.out.trans (b4.mono HB3.out.size))
  clear b4 HB3 HE3
  have e1 : (T.toList == T.toList) = true := by simp
  have e2 : (T2.toList == T2.toList) = true := by simp
  have k3 : ((T2.size : Int) == (T.size : Int)) = true := by rw [hzr]; simp
  have HZ := hide hzr
  have HL := hide hz
  clear hzr hz
  go_wp2
  go_ret
  exact ⟨rfl, HB4.out⟩
end Go.Proofs.YtdhachmelgdknaaGreatDoor.law1

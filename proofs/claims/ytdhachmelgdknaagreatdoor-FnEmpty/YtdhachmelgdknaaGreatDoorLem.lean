/- FnEmpty's walk. -/
import Derived.Test.YtdhachmelgdknaaGreatDoorElp
import Derived.Test.YtdhachmelgdknaaGreatDoorTxs
namespace Go.Proofs.YtdhachmelgdknaaGreatDoor.law1
open Go.ChangeShapes Go.WideShapes Go.ChangeAt Go.RowKit
open Go.Proofs.YtdhachmelgdknaaGreatDoor.bas Go.Proofs.YtdhachmelgdknaaGreatDoor.rdr Go.Proofs.YtdhachmelgdknaaGreatDoor.run Go.Proofs.YtdhachmelgdknaaGreatDoor.texts Go.Proofs.YtdhachmelgdknaaGreatDoor.pile
set_option linter.unusedVariables false
set_option maxRecDepth 20000 in
set_option maxHeartbeats 4000000 in
theorem empty_any (w : World) (ao : Option Addr) (cap : Nat) (xs : List Int) (h : RdA w (.slice ao xs.length cap) xs) (mm : Int) (hm : w.cell? ⟨0, 0, none⟩ = some (.int .i64 mm)) :
    Calls Tryz.prog 3 #[.slice ao xs.length cap] w fun e w' => e = .returned (.bool true) ∧ Below w.heap.size w w' := by
  by_cases l1 : 1048576 < xs.length
  · have l1' : (1048576 : Int) < (xs.length : Int) := by omega
    have l1b : decide ((1048576 : Int) < (xs.length : Int)) = true := by simp [l1']
    go_enter Tryz.func3, Tryz.ntmps3
    go_wp2
    go_ret
    exact ⟨rfl, Below.refl _ _⟩
  have l1' : ¬ (1048576 : Int) < (xs.length : Int) := by omega
  have l1b : decide ((1048576 : Int) < (xs.length : Int)) = false := by simp; omega
  have HT := hide (textsOf_any w ao cap xs (by omega) h)
  clear h
  have HM := hide hm
  clear hm
  go_enter Tryz.func3, Tryz.ntmps3
  go_wp2_with fail
  refine HT.out.mono ?_
  rintro e w1 ⟨ls, rfl, hlen, hls, b1⟩
  have HB1 := hide b1
  have h6 : ∀ l ∈ ls, l.size ≤ 6 := fun l hl => (hls l hl).1
  have hno : ∀ l ∈ ls, NoNl l := fun l hl => (hls l hl).2
  have hz := szLe ls h6
  have HE1 : Hid (∀ W, Below w.heap.size w W → Calls Tryz.prog 6 #[.string tNo, .string (joinL ls), .bool false, .bool false] W fun e w' => EdE W (joinL ls) e w') := by
    intro W hB
    have := edit_p W ls 0 tNo false false mm (cell_at hB HM.out (Nat.le_refl _)) hno h6 hlen (by omega) (by decide) scr_no
    have e : rp (0 + if false = true then 0 else 1) ls = ls := rp_one ls
    rw [e] at this
    exact this
  have HE2 : Hid (∀ W, Below w.heap.size w W → Calls Tryz.prog 6 #[.string tMt, .string (joinL ls), .bool true, .bool true] W fun e w' => EdE W bas.mt e w') := by
    intro W hB
    have := edit_p W ls 0 tMt true true mm (cell_at hB HM.out (Nat.le_refl _)) hno h6 hlen (by omega) (by decide) scr_mt
    have e : rp (0 + if true = true then 0 else 1) ls = [] := rp_zero ls
    rw [e] at this
    exact this
  obtain ⟨T2, hT2⟩ : ∃ T2, joinL (rp 2 ls) = T2 := ⟨_, rfl⟩
  have sT2 : T2.size = 2 * (joinL ls).size := by rw [← hT2, szRp]
  have HE3 : Hid (∀ W, Below w.heap.size w W → Calls Tryz.prog 6 #[.string tP, .string (joinL ls), .bool true, .bool false] W fun e w' => EdE W T2 e w') := by
    intro W hB
    have := edit_p W ls 1 tP true false mm (cell_at hB HM.out (Nat.le_refl _)) hno h6 hlen (by omega) (by decide) scr_p
    have e : rp (1 + if false = true then 0 else 1) ls = rp 2 ls := rfl
    rw [e, hT2] at this
    exact this
  have HE4 : Hid (∀ W, Below w.heap.size w W → Calls Tryz.prog 6 #[.string tP, .string (joinL ls), .bool true, .bool true] W fun e w' => EdE W (joinL ls) e w') := by
    intro W hB
    have := edit_p W ls 1 tP true true mm (cell_at hB HM.out (Nat.le_refl _)) hno h6 hlen (by omega) (by decide) scr_p
    have e : rp (1 + if true = true then 0 else 1) ls = ls := rp_one ls
    rw [e] at this
    exact this
  obtain ⟨T, hT⟩ : ∃ T, joinL ls = T := ⟨_, rfl⟩
  rw [hT] at HE1 HE2 HE3 HE4 hz sT2 ⊢
  clear hT hT2 hls h6 hno b1 HT
  go_wp2_with fail
  refine (HE1.out w1 HB1.out).mono ?_
  rintro e w2 ⟨rfl, b2⟩
  have HB2 := hide (HB1.out.trans (b2.mono HB1.out.size))
  clear b2 HB1 HE1
  go_wp2_with fail
  refine (HE2.out w2 HB2.out).mono ?_
  rintro e w3 ⟨rfl, b3⟩
  have HB3 := hide (HB2.out.trans (b3.mono HB2.out.size))
  clear b3 HB2 HE2
  go_wp2_with fail
  refine (HE3.out w3 HB3.out).mono ?_
  rintro e w4 ⟨rfl, b4⟩
  have HB4 := hide (HB3.out.trans (b4.mono HB3.out.size))
  clear b4 HB3 HE3
  go_wp2_with fail
  refine (HE4.out w4 HB4.out).mono ?_
  rintro e w5 ⟨rfl, b5⟩
  have HB5 := hide (HB4.out.trans (b5.mono HB4.out.size))
  clear b5 HB4 HE4
  have e1 : (T.toList == T.toList) = true := by simp
  have k2 : IntKind.i64.wrap (2 * (T.size : Int)) = ((T2.size : Nat) : Int) := by rw [IntKind.wrap_i64]; omega
  have k3 : ((T2.size : Int) == 2 * (T.size : Int)) = true := by rw [sT2]; simp
  have k4 : ((T2.size : Int) == (T2.size : Int)) = true := by simp
  have hmt2 : bas.mt.toList = [] := by rw [ByteArray.toList_eq]; rfl
  have hmt : bas.mt.toList.isEmpty = true := by rw [hmt2]; rfl
  have HZ := hide sT2
  have HL := hide hz
  clear sT2 hz
  go_wp2
  go_ret
  exact ⟨rfl, HB5.out⟩
end Go.Proofs.YtdhachmelgdknaaGreatDoor.law1

/- All cycles of a run that turns lines round: the walk. -/
import Derived.Test.YtdhachmelgdknaaGreatDoorCyt
import Derived.Test.YtdhachmelgdknaaGreatDoorNew
namespace Go.Proofs.YtdhachmelgdknaaGreatDoor.run
open Go.ChangeShapes Go.WideShapes Go.ChangeAt Go.RowKit
open Go.Proofs.YtdhachmelgdknaaGreatDoor.bas Go.Proofs.YtdhachmelgdknaaGreatDoor.rdr Go.Proofs.YtdhachmelgdknaaGreatDoor.chk
set_option linter.unusedVariables false
theorem Tm.drew {base d : Nat} {W : World} {u : U} {ls : List ByteArray} {i : Nat} {a : ByteArray} {j : Nat} {wr : World} (h : Tm base d W u ls i a j wr) (n : Nat) : Tm base d W u ls i a j (wr.drewN n) := by
  obtain ⟨u', hR, f⟩ := h.ex
  exact ⟨⟨u', hR.grow hR.ru (grown_drew (grown_refl _ _) n) rfl hR.kp hR.ks, f⟩, h.kp.trans (KP.grown (grown_drew (grown_refl _ _) n) hR.bz)⟩
theorem tlook {base d : Nat} {W : World} {u : U} {ls : List ByteArray} (hw : Tw base d W u ls) {i : Nat} {a : ByteArray} {wr : World} (ha : ls[i]? = some a) {j : Nat} (hj : j < 3) (h : Tm base d W u ls i a j wr) :
    Calls Tryz.prog 59 #[.pointer (some ⟨d, 0, none⟩)] wr fun e w' => e = .returned (.int .i64 (if j = 2 ∧ i + 1 ≠ ls.length then 1 else 0)) ∧ Tm base d W u ls i a (j + 1) w' := by
  match j, hj, h with
  | 0, _, h => exact tlook0 hw ha h
  | 1, _, h => exact tlook1 hw ha h
  | 2, _, h =>
    refine (tlook2 hw ha h).mono ?_
    rintro e w' ⟨rfl, h1⟩
    refine ⟨?_, h1⟩
    by_cases he : i + 1 = ls.length
    · rw [if_pos he, if_neg (by omega)]
    · rw [if_neg he, if_pos ⟨rfl, he⟩]
set_option maxHeartbeats 3200000 in
theorem tcycles {base d : Nat} {W : World} {u : U} {ls : List ByteArray} (hw : Tw base d W u ls) (w : World) (h : Ta base d W u ls 0 w) :
    Calls Tryz.prog 38 #[.pointer (some ⟨d, 0, none⟩)] w fun e w' => e = .returned (.tuple #[]) ∧ Ta base d W u ls ls.length w' := by
  have HW := hide hw
  have H0 := hide h
  clear hw h
  go_enter Tryz.func38, Tryz.ntmps38
  go_wp2
  go_step3
  go_wp2
  go_step3
  go_wp2
  go_loopg [2] ls.length (fun gk s wr => ∃ i : Nat, gk = ls.length - i ∧ i ≤ ls.length ∧ Hid (Ta base d W u ls i wr))
  case atStart => exact ⟨0, by omega, by omega, H0⟩
  case round =>
    obtain ⟨i, hgk, hi, HI⟩ := hrel
    clear H0
    rcases tbegin HW.out HI.out hi with ⟨he, hB⟩ | ⟨a, ha, hB⟩
    · have HB := hide hB
      clear hB HI
      go_wp2_with fail
      refine HB.out.mono ?_
      rintro e w1 ⟨rfl, h1⟩
      have H1 := hide h1
      clear HB h1
      go_wp2
      (try rw [Exit.noGoto_normal])
      go_end0
      refine ⟨rfl, ?_⟩
      rw [← he]
      exact H1.out
    · have HB := hide hB
      have hilt := (List.getElem?_eq_some_iff.1 ha).1
      have HA := hide ha
      clear hB HI ha
      go_wp2_with fail
      refine HB.out.mono ?_
      rintro e w1 ⟨rfl, h1⟩
      have H1 := hide h1
      clear HB h1
      go_wp2
      go_loopg [4] 3 (fun gk2 s wr => ∃ j : Nat, gk2 = 3 - j ∧ j ≤ 3 ∧ (j = 3 → i + 1 = ls.length) ∧ Hid (Tm base d W u ls i a j wr))
      case atStart => exact ⟨0, by omega, by omega, by omega, H1⟩
      case round =>
        obtain ⟨j, hgk2, hj, hj3, HJ⟩ := hrel
        clear H1
        obtain ⟨u', hR, e1, e2, e3, e4, e5, e6, e7, e8, e9⟩ := HJ.out.ex
        obtain ⟨g, lc, og, hls, _⟩ := HW.out.list
        have c12 := hR.ru.c12
        have c5 := hR.ru.c5
        rw [e9] at c12
        rw [e1, hls] at c5
        clear hR e1 e2 e3 e4 e5 e6 e7 e8 e9 hls
        by_cases hlt : j < 3
        · have HL := hide (fun n => tlook HW.out HA.out hlt (HJ.out.drew n))
          by_cases hend : j = 2 ∧ i + 1 ≠ ls.length
          · rw [if_pos hend] at HL
            have HK : Hid (∀ wx, Tm base d W u ls i a (j + 1) wx → Calls Tryz.prog 60 #[.pointer (some ⟨d, 2, none⟩)] wx fun e w' => e = .returned (.tuple #[]) ∧ Hid (Ta base d W u ls (i + 1) w')) := fun wx hx => by
              obtain ⟨rfl, hne⟩ := hend
              exact tkept HW.out HA.out hx hne
            clear HJ
            have hjI : decide ((j : Int) < 3) = true := by simp; omega
            go_wp2
            go_quiet (fail)
            go_wp2_with fail
            refine (HL.out _).mono ?_
            rintro e w2 ⟨rfl, h2⟩
            have HK2 := hide (HK.out _ h2)
            clear HL h2 HK
            go_wp2_with fail
            refine HK2.out.mono ?_
            rintro e w3 ⟨rfl, H3⟩
            clear HK2
            go_wp2
            go_roundg (ls.length - (i + 1))
            case rel => exact ⟨i + 1, rfl, by omega, H3⟩
            case measure => omega
          · rw [if_neg hend] at HL
            clear HJ
            go_wp2
            go_quiet (fail)
            go_wp2_with fail
            refine (HL.out _).mono ?_
            rintro e w2 ⟨rfl, h2⟩
            have H2 := hide h2
            clear HL h2
            go_wp2
            go_roundg (3 - (j + 1))
            case rel => exact ⟨j + 1, rfl, by omega, by omega, H2⟩
            case measure => omega
        · have hjm : j = 3 := by omega
          subst hjm
          have HE := hide (fun n => tend HW.out HA.out (HJ.out.drew n) (hj3 rfl))
          clear HJ
          go_wp2
          go_quiet (fail)
          go_wp2_with fail
          refine (HE.out _).mono ?_
          rintro e w2 ⟨rfl, h2⟩
          have H2 := hide h2
          clear HE h2
          go_wp2
          go_roundg (ls.length - (i + 1))
          case rel => exact ⟨i + 1, rfl, by omega, H2⟩
          case measure => omega
theorem new_turns {W1 wx : World} {g lc : Nat} {ls : List ByteArray} {d : Nat} (h : New W1 (.slice (some ⟨g, 0, none⟩) 3 lc) ls false d wx) {og : Obj} (hg : W1.heap[g]? = some og) (ho : isB og = false) (hL : Lst W1 g lc [cmG, cmH, cmD])
    (few : ls.length ≤ 100) (size : (joinL ls).size ≤ 900) :
    Calls Tryz.prog 38 #[.pointer (some ⟨d, 0, none⟩)] wx fun e w' => e = .returned (.tuple #[]) ∧ ∃ u', Rn W1.heap.size d w' u' (joinL ls.reverse) ∧ KP W1.heap.size d wx w' := by
  obtain ⟨gl, op, hr, hl, hne, hd, hb⟩ := h
  have hlt : g < W1.heap.size := (Array.getElem?_eq_some_iff.1 hg).1
  have hW : Tw W1.heap.size d wx ⟨⟨#[]⟩, ⟨#[]⟩, .slice none 0 0, .slice none 0 0, 0, .slice (some ⟨g, 0, none⟩) 3 lc, .slice (some ⟨gl, 0, none⟩) ls.length (ls.length + 1), false, 0, false, false, op, 0, 0⟩ ls := by
    refine ⟨⟨gl, _, _, rfl, hl, rfl, hne, fun k a ha => cell_of hl ?_⟩, ⟨g, lc, og, rfl, (hb.block g hlt).trans hg, ho, by omega, hL.below hb⟩, few, size⟩
    have hk : k < ls.length := (List.getElem?_eq_some_iff.1 ha).1
    rw [List.getElem?_toArray, List.getElem?_map, List.getElem?_append_left hk, ha]; rfl
  have hA : Ta W1.heap.size d wx ⟨⟨#[]⟩, ⟨#[]⟩, .slice none 0 0, .slice none 0 0, 0, .slice (some ⟨g, 0, none⟩) 3 lc, .slice (some ⟨gl, 0, none⟩) ls.length (ls.length + 1), false, 0, false, false, op, 0, 0⟩ ls 0 wx := by
    refine ⟨⟨_, ⟨hr, ?_, rfl, rfl, by have := hr.lt; omega⟩, rfl, rfl, rfl, rfl, rfl, rfl, rfl⟩, KP.refl _ _ _⟩
    have e : (if 0 = ls.length then joinL ls.reverse else bas.mt) = bas.mt := by
      split
      · rename_i h0
        have : ls = [] := List.length_eq_zero_iff.1 h0.symm
        rw [this]; rfl
      · rfl
    rw [e]
    simp [SD, World.ownsRow, Lib.strCells]
    rfl
  refine (tcycles hW wx hA).mono ?_
  rintro e w' ⟨rfl, ⟨⟨u', h1, _⟩, h2⟩⟩
  rw [if_pos rfl] at h1
  exact ⟨rfl, u', h1, h2⟩
end Go.Proofs.YtdhachmelgdknaaGreatDoor.run

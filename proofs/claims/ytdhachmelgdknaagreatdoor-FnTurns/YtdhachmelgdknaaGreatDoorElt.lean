/- Edit by the scripts that turn lines round, the program's and the specification's. -/
import Derived.Test.YtdhachmelgdknaaGreatDoorCyu
import Derived.Test.YtdhachmelgdknaaGreatDoorCog
import Derived.Test.YtdhachmelgdknaaGreatDoorElp
import Derived.Test.YtdhachmelgdknaaGreatDoorME
import Derived.Test.YtdhachmelgdknaaGreatDoorMC
namespace Go.Proofs.YtdhachmelgdknaaGreatDoor.run
open Go.ChangeShapes Go.WideShapes Go.ChangeAt Go.RowKit
open Go.Proofs.YtdhachmelgdknaaGreatDoor.bas Go.Proofs.YtdhachmelgdknaaGreatDoor.rdr Go.Proofs.YtdhachmelgdknaaGreatDoor.chk
set_option linter.unusedVariables false
set_option maxRecDepth 20000 in
theorem edit_t (w : World) (ls : List ByteArray) (sc : ByteArray) (ere : Bool) (mm : Int) (hm : w.cell? ⟨0, 0, none⟩ = some (.int .i64 mm)) (hno : ∀ l ∈ ls, NoNl l) (hlen : ls.length ≤ 100) (hz : (joinL ls).size ≤ 900) (hsz : sc.size ≤ 2000) (hs : Scr sc 0 [cmG, cmH, cmD]) :
    Calls Tryz.prog 6 #[.string sc, .string (joinL ls), .bool ere, .bool false] w fun e w' => EdE w (joinL ls.reverse) e w' := by
  refine edit_of w sc (joinL ls) ere false [cmG, cmH, cmD] _ (by omega) (parse_any w sc ere _ hsz hs (by decide)) ?_
  intro w1 lo lc b1 o
  have o' : w1.ownsRow w.heap.size 60 26 (.slice lo 3 lc) 3 ([cmG, cmH, cmD].flatMap fun c => c.cells.toList) := o
  show Calls Tryz.prog 13 #[.slice lo 3 lc, .string (joinL ls), .bool false] w1 fun e w' => RunE w1 (joinL ls.reverse) e w'
  obtain ⟨h1, ⟨e, hx⟩ | ⟨g, cap, cur, e, hb, hg, hle, hr⟩⟩ := o'
  · cases hx
  · simp only [Value.slice.injEq] at e
    obtain ⟨rfl, _, rfl⟩ := e
    have hL : Lst w1 g lc [cmG, cmH, cmD] := Lst.of (base := w.heap.size) o
    have hok : Calls Tryz.prog 19 #[.slice (some ⟨g, 0, none⟩) 3 lc] w1 fun e w' => e = .returned (.bool true) ∧ Below w1.heap.size w1 w' := sedOK_any w1 g lc [cmG, cmH, cmD] hL (by decide) hle ok_turn
    refine runSed_of w1 (some ⟨g, 0, none⟩) 3 lc _ false _ (by omega) (by omega) hok ?_
    intro w2 b2
    have hc0 : w2.cell? ⟨0, 0, none⟩ = some (.int .i64 mm) := cell_at b2 (cell_at b1 hm (Nat.le_refl _)) (Nat.le_refl _)
    refine runScript_of w2 ls 3 false (some ⟨g, 0, none⟩) lc mm hc0 hno (by omega) (by omega) (by omega) _ ?_
    intro W1 bb d wx hN
    have hg2 : W1.heap[g]? = some (.cells cur 60 (0, 0)) := (bb.block g (by have := (Array.getElem?_eq_some_iff.1 hg).1; have := b2.size; omega)).trans ((b2.block g (Array.getElem?_eq_some_iff.1 hg).1).trans hg)
    exact new_turns hN hg2 rfl ((hL.below b2).below bb) hlen hz
set_option maxRecDepth 20000 in
set_option maxHeartbeats 1600000 in
theorem sedit_of (w : World) (sc T : ByteArray) (ere q : Bool) (S : ByteArray) (hT : T.size ≤ 65536)
    (hpar : Calls Tryz.prog 14 #[.string sc, .bool ere] w fun e w1 => ∃ g cap, e = .returned (.tuple #[.slice (some ⟨g, 0, none⟩) 3 cap, .int .i64 0, .int .i64 0]) ∧ Below w.heap.size w w1 ∧ Calls Tryz.prog 15 #[.slice (some ⟨g, 0, none⟩) 3 cap, .string T, .bool q] w1 fun e w' => RunE w1 S e w') :
    Calls Tryz.prog 7 #[.string sc, .string T, .bool ere, .bool q] w fun e w' => EdE w S e w' := by
  have h2 : decide (65536 < (T.size : Int)) = false := by simp; omega
  have HP := hide hpar
  clear hpar hT
  go_enter Tryz.func7, Tryz.ntmps7
  go_wp2_with fail
  refine HP.out.mono ?_
  rintro e w1 ⟨g, cap, rfl, b1, hQ⟩
  have HB := hide b1
  have HQ := hide hQ
  clear b1 HP hQ
  go_wp2_with fail
  refine HQ.out.mono ?_
  rintro e w2 ⟨rfl, b2⟩
  have HB2 := hide b2
  clear b2 HQ
  go_wp2
  go_ret3
  exact ⟨rfl, HB.out.trans (HB2.out.mono HB.out.size)⟩
theorem sedit_t (w : World) (ls : List ByteArray) (hno : ∀ l ∈ ls, NoNl l) (hlen : ls.length ≤ 100) (hz : (joinL ls).size ≤ 900) :
    Calls Tryz.prog 7 #[.string tA, .string (joinL ls), .bool false, .bool false] w fun e w' => EdE w (joinL ls.reverse) e w' := by
  refine sedit_of w tA (joinL ls) false false _ (by omega) ?_
  refine (spa.sparse_any w).mono ?_
  rintro e w1 ⟨g, cap, rfl, o, b1⟩
  refine ⟨g, cap, rfl, b1, ?_⟩
  have hL : Lst w1 g cap [cmG, cmH, cmD] := Lst.of (base := w.heap.size) o
  obtain ⟨h1, ⟨e, hx⟩ | ⟨g', cap', cur, e, hb, hg, hle, hr⟩⟩ := o
  · cases hx
  · simp only [Value.slice.injEq, Option.some.injEq, Addr.mk.injEq, and_true, true_and] at e
    obtain ⟨rfl, rfl⟩ := e
    exact srn.sed_any w1 ls g cap hno hlen hz hg rfl hL
end Go.Proofs.YtdhachmelgdknaaGreatDoor.run

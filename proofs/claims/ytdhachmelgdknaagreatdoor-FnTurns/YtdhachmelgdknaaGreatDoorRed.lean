/- RunSed and Edit over what they call. -/
import Derived.Test.YtdhachmelgdknaaGreatDoorPse
namespace Go.Proofs.YtdhachmelgdknaaGreatDoor.run
open Go.ChangeShapes Go.WideShapes Go.ChangeAt Go.RowKit
open Go.Proofs.YtdhachmelgdknaaGreatDoor.bas Go.Proofs.YtdhachmelgdknaaGreatDoor.rdr
set_option linter.unusedVariables false
/-- What a run answers. -/
def RunE (w : World) (S : ByteArray) (e : Ending) (w' : World) : Prop := e = .returned (.tuple #[.string S, .int .i64 0]) ∧ Below w.heap.size w w'
set_option maxRecDepth 20000 in
set_option maxHeartbeats 1600000 in
theorem runSed_of (w : World) (lo : Option Addr) (n lc : Nat) (T : ByteArray) (q : Bool) (S : ByteArray) (hn : n ≤ 60) (hT : T.size ≤ 65536)
    (hok : Calls Tryz.prog 19 #[.slice lo n lc] w fun e w' => e = .returned (.bool true) ∧ Below w.heap.size w w')
    (hrun : ∀ w1, Below w.heap.size w w1 → Calls Tryz.prog 20 #[.slice lo n lc, .string T, .bool q] w1 fun e w' => RunE w1 S e w') :
    Calls Tryz.prog 13 #[.slice lo n lc, .string T, .bool q] w fun e w' => RunE w S e w' := by
  have h1 : decide (4096 < (n : Int)) = false := by simp; omega
  have h2 : decide (65536 < (T.size : Int)) = false := by simp; omega
  have HO := hide hok
  have HR := hide hrun
  clear hok hrun hn hT
  go_enter Tryz.func13, Tryz.ntmps13
  go_wp2_with fail
  refine HO.out.mono ?_
  rintro e w1 ⟨rfl, b1⟩
  have HB := hide b1
  clear b1 HO
  go_wp2_with fail
  refine (HR.out w1 HB.out).mono ?_
  rintro e w2 ⟨rfl, b2⟩
  have HB2 := hide b2
  clear b2 HR
  go_wp2
  go_ret2
  exact ⟨rfl, HB.out.trans (HB2.out.mono HB.out.size)⟩
/-- What an edit answers. -/
def EdE (w : World) (S : ByteArray) (e : Ending) (w' : World) : Prop := e = .returned (.tuple #[.string S, .int .i64 0, .int .i64 0]) ∧ Below w.heap.size w w'
set_option maxRecDepth 20000 in
set_option maxHeartbeats 1600000 in
theorem edit_of (w : World) (sc T : ByteArray) (ere q : Bool) (cs : List Cm) (S : ByteArray) (hT : T.size ≤ 65536)
    (hpar : Calls Tryz.prog 12 #[.string sc, .bool ere] w fun e w' => PsE w cs e w')
    (hrun : ∀ w1 lo lc, Below w.heap.size w w1 → w1.ownsRow w.heap.size 60 26 (.slice lo cs.length lc) cs.length (cs.flatMap fun c => c.cells.toList) → Calls Tryz.prog 13 #[.slice lo cs.length lc, .string T, .bool q] w1 fun e w' => RunE w1 S e w') :
    Calls Tryz.prog 6 #[.string sc, .string T, .bool ere, .bool q] w fun e w' => EdE w S e w' := by
  have h2 : decide (65536 < (T.size : Int)) = false := by simp; omega
  have HP := hide hpar
  have HR := hide hrun
  clear hpar hrun hT
  go_enter Tryz.func6, Tryz.ntmps6
  go_wp2_with fail
  refine HP.out.mono ?_
  rintro e w1 ⟨lo, lc, rfl, o, b1⟩
  have HB := hide b1
  have HQ := hide (HR.out w1 lo lc b1 o)
  obtain ⟨n, hn⟩ : ∃ n, cs.length = n := ⟨_, rfl⟩
  rw [hn] at HQ ⊢
  clear b1 HP HR o hn
  go_wp2_with fail
  refine HQ.out.mono ?_
  rintro e w2 ⟨rfl, b2⟩
  have HB2 := hide b2
  clear b2 HQ
  go_wp2
  go_ret3
  exact ⟨rfl, HB.out.trans (HB2.out.mono HB.out.size)⟩
end Go.Proofs.YtdhachmelgdknaaGreatDoor.run

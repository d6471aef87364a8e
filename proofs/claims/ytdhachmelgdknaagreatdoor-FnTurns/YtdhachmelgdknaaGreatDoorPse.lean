/- ParseSed at scripts whose commands are known; the scripts. -/
import Derived.Test.YtdhachmelgdknaaGreatDoorRsc
namespace Go.Proofs.YtdhachmelgdknaaGreatDoor.rdr
open Go.ChangeShapes Go.WideShapes Go.ChangeAt Go.RowKit
open Go.Proofs.YtdhachmelgdknaaGreatDoor.bas Go.Proofs.YtdhachmelgdknaaGreatDoor.tak
set_option linter.unusedVariables false
def PsE (w : World) (cs : List Cm) (e : Ending) (w' : World) : Prop :=
  ∃ lo lc, e = .returned (.tuple #[.slice lo cs.length lc, .int .i64 0, .int .i64 0]) ∧ w'.ownsRow w.heap.size 60 26 (.slice lo cs.length lc) cs.length (cs.flatMap fun c => c.cells.toList) ∧ Below w.heap.size w w'
set_option maxHeartbeats 1600000 in
theorem parse_any (w : World) (T : ByteArray) (ere : Bool) (cs : List Cm) (hT : T.size ≤ 2000) (hs : Scr T 0 cs) (hn : cs.length < 60) :
    Calls Tryz.prog 12 #[.string T, .bool ere] w fun e w' => PsE w cs e w' := by
  have HR : Hid (Calls Tryz.prog 18 #[.string T, .bool ere] w fun e w1 => ∃ lo lc, e = .returned (.tuple #[.slice lo cs.length lc, .agg #[.int .i64 0, .int .i64 0]]) ∧ ∃ W2, Hid (w1.alloc (.cells #[.int .i64 0, .int .i64 0] 42) = W2) ∧ (W2.cell? ⟨w1.heap.size, 0, none⟩ = some (.int .i64 0) ∧ W2.cell? ⟨w1.heap.size, 1, none⟩ = some (.int .i64 0)) ∧ Hid (∀ n, PsE w cs (.returned (.tuple #[.slice lo cs.length lc, .int .i64 0, .int .i64 0])) (W2.drewN n))) := by
    refine (readScript_any w T ere cs hT hs hn).mono ?_
    rintro e w1 ⟨v, rfl, o, b⟩
    obtain ⟨lo, lc, rfl⟩ : ∃ lo lc, v = .slice lo cs.length lc := by
      obtain ⟨h1, ⟨e, hx⟩ | ⟨g, cap, cur, e, _⟩⟩ := o
      · exact ⟨none, 0, by rw [e, hx]⟩
      · exact ⟨_, _, e⟩
    have x := heap_alloc_new w1 (.cells #[.int .i64 0, .int .i64 0] 42)
    refine ⟨lo, lc, rfl, _, rfl, ⟨cell_of x rfl, cell_of x rfl⟩, ?_⟩
    intro n
    exact ⟨lo, lc, rfl, o.alloc _, below_drewN (b.alloc b.size _) n⟩
  have h1 : decide (65536 < (T.size : Int)) = false := by simp; omega
  have h2 : decide (2000 < (T.size : Int)) = false := by simp; omega
  clear hs hT
  go_enter Tryz.func12, Tryz.ntmps12
  go_wp2_with fail
  refine HR.out.mono ?_
  rintro e w1 ⟨lo, lc, rfl, W2, hW2, ⟨c0, c1⟩, HX⟩
  clear HR
  go_wp2
  rw [hW2.out]
  go_quiet (fail)
  go_wp2
  go_ret3
  exact HX.out _
abbrev tNo : ByteArray := ⟨#[35, 32, 110, 111, 116, 104, 105, 110, 103]⟩
abbrev tMt : ByteArray := ⟨#[]⟩
abbrev tP : ByteArray := ⟨#[112]⟩
theorem scr_no : Scr tNo 0 [] := .fin (f := 1) (by decide +kernel)
theorem scr_mt : Scr tMt 0 [] := .fin (f := 0) (by decide +kernel)
def cmP : Cm := ⟨0, 0, false, ⟨#[112]⟩⟩
theorem scr_p : Scr tP 0 [cmP] := by
  refine .cons (p' := 1) ⟨0, 0, 0, 0, 112, 8, by decide +kernel, by decide, ?_, ?_, ⟨by decide, by decide +kernel⟩, by decide, by decide +kernel, fun W => ⟨by kernel_rfl, by kernel_rfl⟩, .inl (by decide +kernel), by decide +kernel⟩ (.fin (f := 0) (by decide +kernel))
  · intro d q W h1 h2 h3
    have hs : ∀ S, seesP tP S 0 = seesP q.T S q.pl := fun S => by rw [h1, h2]
    have := address_none h3 (by rw [h1, h2]; decide) (by rw [h1]; decide) (by rw [← hs]; decide +kernel) (by rw [← hs]; decide +kernel) (by rw [← hs]; decide +kernel)
    have e : ({ q with pl := 0 } : Q) = q := by
      cases q
      simp at h2
      subst h2
      rfl
    rw [e]
    exact this
  · exact ⟨by decide, fun h => absurd rfl h, by decide +kernel, by decide +kernel⟩
end Go.Proofs.YtdhachmelgdknaaGreatDoor.rdr

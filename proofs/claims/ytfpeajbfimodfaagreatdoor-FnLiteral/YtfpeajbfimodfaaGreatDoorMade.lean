/- Reaches are made. -/
import Derived.Test.YtfpeajbfimodfaaGreatDoorLeaf
namespace Go.Proofs.YtfpeajbfimodfaaGreatDoor.made
open Go.ChangeShapes Go.WideShapes Go.ChangeAt Go.RowKit
open Go.Proofs.YtfpeajbfimodfaaGreatDoor.bytes Go.Proofs.YtfpeajbfimodfaaGreatDoor.letters Go.Proofs.YtfpeajbfimodfaaGreatDoor.read Go.Proofs.YtfpeajbfimodfaaGreatDoor.places Go.Proofs.YtfpeajbfimodfaaGreatDoor.sets Go.Proofs.YtfpeajbfimodfaaGreatDoor.leaf
set_option linter.unusedVariables false

theorem mf (fn : Fn) (first cap : Array Value) (w : World) : (Instr.makeFunc fn first cap).run Tryz.prog w = .ok (.func fn first cap) w := rfl
set_option maxHeartbeats 2000000 in
theorem byteReach_any (w : World) (S : ByteArray) (fv : Value) (hv : fv.oneCell' = true) (rb : Nat) (hfv : fv = .func (.func 69) #[] #[.pointer (some ⟨rb, 0, none⟩)]) :
    Calls Tryz.prog 68 #[.string S, fv] w fun e w' => e = .returned (.func (.func 83) #[] #[.pointer (some ⟨w.heap.size, 0, none⟩), .pointer (some ⟨w.heap.size + 1, 0, none⟩)]) ∧ w' = (w.alloc (.cells #[.string S] 9)).alloc (.cells #[fv] 131) := by
  subst hfv
  have hmf := mf
  go_enter Tryz.func68, Tryz.ntmps68
  go_wp2
  go_ret
  exact ⟨rfl, rfl⟩
set_option maxHeartbeats 4000000 in
theorem leafReach_any (w : World) (ts : List Int) (y : Int) :
    Calls Tryz.prog 43 #[.agg #[.int .i64 1, .int .i64 y, .int .i64 0, .string ⟨#[]⟩, .slice none 0 0], .string (strOfNums ts)] w fun e w' => e = .returned (.func (.func 83) #[] #[.pointer (some ⟨w.heap.size + 1, 0, none⟩), .pointer (some ⟨w.heap.size + 2, 0, none⟩)]) ∧ Leaf w' (w.heap.size + 1) (w.heap.size + 2) w.heap.size ts y ∧ Below w.heap.size w w' := by
  have hmf := mf
  have HB := hide (fun W S rb => byteReach_any W S (.func (.func 69) #[] #[.pointer (some ⟨rb, 0, none⟩)]) rfl rb rfl)
  obtain ⟨S, hS⟩ : ∃ S, S = strOfNums ts := ⟨_, rfl⟩
  rw [← hS]
  go_enter Tryz.func43, Tryz.ntmps43
  go_wp2_with fail
  refine (HB.out _ _ _).mono ?_
  rintro e w1 ⟨rfl, hw1⟩
  have hF : Leaf w1 (w.heap.size + 1) (w.heap.size + 2) w.heap.size ts y ∧ Below w.heap.size w w1 := by
    rw [hw1]
    try rw [hS]
    refine ⟨⟨?_, ?_, ?_⟩, (((Below.refl _ _).alloc (Nat.le_refl _) _).alloc (by simp) _).alloc (by simp; omega) _⟩
    · simp [go_sem]
    · simp [go_sem]
    · simp [go_sem]
  have HF := hide hF
  clear hF hw1 HB
  go_wp2
  go_ret
  refine ⟨?_, HF.out.1, HF.out.2⟩
  simp
set_option maxHeartbeats 2000000 in
theorem known_any (w : World) (S : ByteArray) (fn : Fn) (cp : Array Value) :
    Calls Tryz.prog 58 #[.string S, .func fn #[] cp] w fun e w' => e = .returned (.func (.func 78) #[] #[.pointer (some ⟨w.heap.size + 2, 0, none⟩), .pointer (some ⟨w.heap.size, 0, none⟩), .pointer (some ⟨w.heap.size + 3, 0, none⟩), .pointer (some ⟨w.heap.size + 1, 0, none⟩)]) ∧ w' = (((w.alloc (.cells #[.string S] 9)).alloc (.cells #[.func fn #[] cp] 49)).alloc (.cells #[.slice none 0 0] 139)).alloc (.cells #[.slice none 0 0] 140) := by
  have hmf := mf
  go_enter Tryz.func58, Tryz.ntmps58
  go_wp2
  go_ret
  exact ⟨rfl, rfl⟩
end Go.Proofs.YtfpeajbfimodfaaGreatDoor.made

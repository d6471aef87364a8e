/- Contract of the laws' own comparison of two states of a log: states that read alike are the same. -/
import Derived.Test.YtipcdioolafkpaaSame
import Derived.Test.YtipcdioolafkpaaLogCells
import Derived.Test.YtipcdioolafkpaaWalHelp
namespace Go.Proofs.Ytipcdioolafkpaa.samewal
open Go.ChangeShapes Go.WideShapes Go.ChangeAt Go.RowKit
open Go.Proofs.Ytipcdioolafkpaa.bytes Go.Proofs.Ytipcdioolafkpaa.pile Go.Proofs.Ytipcdioolafkpaa.reader Go.Proofs.Ytipcdioolafkpaa.choice Go.Proofs.Ytipcdioolafkpaa.same Go.Proofs.Ytipcdioolafkpaa.recrows Go.Proofs.Ytipcdioolafkpaa.logcells Go.Proofs.Ytipcdioolafkpaa.walhelp
set_option linter.unusedVariables false

theorem same_below (w : World) (n : Nat) : Below w.heap.size w (w.drewN n) := ⟨rfl, rfl, rfl, Nat.le_refl _, fun _ _ => rfl⟩
set_option maxRecDepth 20000 in
set_option maxHeartbeats 2000000 in
theorem sameRecs_any (w : World) (a b : Value) (rl : List Rec3) (us vs : List Value) (ha : RdRecs w a rl us) (hb : RdRecs w b rl vs) :
    Calls Try.prog 55 #[a, b] w fun e w' => e = .returned (.bool true) ∧ ∃ n, w' = w.drewN n := by
  have HT : Hid (RdRecs w a rl us ∧ RdRecs w b rl vs) := ⟨ha, hb⟩
  obtain ⟨ao, ca, rfl, ha1, ha2, ha3⟩ := ha.row
  obtain ⟨bo, cb, rfl, hb1, hb2, hb3⟩ := hb.row
  unfold maxLen at ha2 hb2
  clear ha hb
  have hne : (((rl.length : Nat) : Int) != ((rl.length : Nat) : Int)) = false := by simp
  go_enter Try.func55, Try.ntmps55
  go_wp2
  go_loopw [5] (fun i wr => ∃ k m : Nat, k ≤ rl.length ∧ i = .int .i64 k ∧ wr = w.drewN m) (fun i _ => rl.length - (intOf i).toNat)
  case atStart => exact ⟨0, 0, by omega, rfl, rfl⟩
  case round =>
    obtain ⟨k, m, hk, rfl, rfl⟩ := hrel
    by_cases hlt : k < rl.length
    · obtain ⟨ab, aoff, rfl, hca⟩ := ha3 (by omega)
      obtain ⟨bb, boff, rfl, hcb⟩ := hb3 (by omega)
      obtain ⟨p0, p1, p2⟩ := hca k hlt
      obtain ⟨q0, q1, q2⟩ := hcb k hlt
      have hk1 : ∀ x, (convert 22 9 (us.getD k (.slice none 0 0))).run Try.prog (w.drewN x) = .ok (.string (strOf (rl.getD k zRec).d)) (w.drewN x) := fun x => run_str ((HT.out.1.each k hlt).below (same_below w x) (Nat.le_refl _))
      have hk2 : ∀ x, (convert 22 9 (vs.getD k (.slice none 0 0))).run Try.prog (w.drewN x) = .ok (.string (strOf (rl.getD k zRec).d)) (w.drewN x) := fun x => run_str ((HT.out.2.each k hlt).below (same_below w x) (Nat.le_refl _))
      clear hca hcb ha3 hb3
      generalize strOf (rl.getD k zRec).d = s at hk1 hk2
      generalize (rl.getD k zRec).t = ti at p0 q0
      generalize (rl.getD k zRec).i = ii at p1 q1
      have hti : (ti != ti) = false := by simp
      have hii : (ii != ii) = false := by simp
      generalize us.getD k (.slice none 0 0) = u at p2 hk1
      generalize vs.getD k (.slice none 0 0) = v at q2 hk2
      go_wp2
      go_quiet (fail)
      go_wp2
      go_roundw
      case rel => exact ⟨k + 1, _, by omega, by go_num, rfl⟩
      case measure => simp [intOf]; omega
    · go_wp2
      go_ret
      exact ⟨rfl, m, rfl⟩

set_option maxHeartbeats 2000000 in
theorem sameWal_any (w : World) (a : Wal5) (g1 g2 : Int) (u v : Value) (rl : List Rec3) (us vs : List Value) (hu : RdRecs w u rl us) (hv : RdRecs w v rl vs) :
    Calls Try.prog 30 #[.agg #[.int .i64 a.T, .int .i64 a.V, .int .i64 a.B, .int .i64 a.BT, u, .int .i64 g1], .agg #[.int .i64 a.T, .int .i64 a.V, .int .i64 a.B, .int .i64 a.BT, v, .int .i64 g2]] w fun e w' => e = .returned (.bool true) ∧ Below w.heap.size w w' := by
  obtain ⟨uo, uc, rfl, _⟩ := hu.row
  obtain ⟨vo, vc, rfl, _⟩ := hv.row
  have b1 : ∀ o1 o2, Below w.heap.size w ((w.alloc o1).alloc o2) := fun o1 o2 => ((Below.refl _ _).alloc (Nat.le_refl _) _).alloc (by simp) _
  have HC : Hid (∀ o1 o2, Calls Try.prog 55 #[.slice uo rl.length uc, .slice vo rl.length vc] ((w.alloc o1).alloc o2) fun e w' => e = .returned (.bool true) ∧ Below w.heap.size w w') := fun o1 o2 => by
    refine (sameRecs_any _ _ _ rl us vs (hu.below (b1 o1 o2) (Nat.le_refl _)) (hv.below (b1 o1 o2) (Nat.le_refl _))).mono ?_
    rintro e w' ⟨rfl, n, rfl⟩
    exact ⟨rfl, (b1 o1 o2).trans ((same_below _ n).mono (by simp; omega))⟩
  clear hu hv b1
  go_enter Try.func30, Try.ntmps30
  go_wp2_with fail
  refine (HC.out _ _).mono ?_
  rintro e w1 ⟨rfl, b2⟩
  have HB := hide b2
  clear b2
  go_wp2
  go_ret
  exact ⟨rfl, HB.out⟩
end Go.Proofs.Ytipcdioolafkpaa.samewal

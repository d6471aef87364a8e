/- Contracts of EntryRecord, of the program and of the specification. -/
import Derived.Test.YtipcdioolafkpaaEntPays
namespace Go.Proofs.Ytipcdioolafkpaa.implent
open Go.ChangeShapes Go.WideShapes Go.ChangeAt Go.RowKit
open Go.Proofs.Ytipcdioolafkpaa.bytes Go.Proofs.Ytipcdioolafkpaa.pile Go.Proofs.Ytipcdioolafkpaa.put Go.Proofs.Ytipcdioolafkpaa.crcs Go.Proofs.Ytipcdioolafkpaa.join Go.Proofs.Ytipcdioolafkpaa.frames Go.Proofs.Ytipcdioolafkpaa.votes Go.Proofs.Ytipcdioolafkpaa.pays Go.Proofs.Ytipcdioolafkpaa.recs Go.Proofs.Ytipcdioolafkpaa.steps Go.Proofs.Ytipcdioolafkpaa.entries Go.Proofs.Ytipcdioolafkpaa.entpays
set_option linter.unusedVariables false

set_option maxRecDepth 20000 in
set_option maxHeartbeats 1000000 in
theorem entry_frame (w : World) (t i : Int) (u : Value) (ys : List Int) (hu : RdA w u ys) :
    Calls Try.prog 83 #[.iface 122 (.agg #[.int .i64 t, .int .i64 i, u])] w fun e w' => ∃ v, e = .returned (.tuple #[v, .int .i64 (entC t i ys)]) ∧ Own w' w.heap.size v (entA t i ys) ∧ Below w.heap.size w w' := by
  have HU : Hid (RdA w u ys) := hu
  obtain ⟨⟨uo, uc, rfl, h1, h2, _⟩, _⟩ := hu
  have HM : Hid (ys.length ≤ maxLen) := by show _ ≤ _; omega
  clear h1 h2
  have hm1 : ∀ (w : World) (a b : Int) (o : Option Addr) (n c : Nat), (method 248 122 (.agg #[.int .i64 a, .int .i64 b, .slice o n c]) "loop.example/g00142/impl.inBounds").run Try.prog w = .ok (82, .agg #[.int .i64 a, .int .i64 b, .slice o n c]) w := fun _ _ _ _ _ _ => by kernel_rfl
  have hm2 : ∀ (w : World) (a b : Int) (o : Option Addr) (n c : Nat), (method 248 122 (.agg #[.int .i64 a, .int .i64 b, .slice o n c]) "loop.example/g00142/impl.payload").run Try.prog w = .ok (108, .agg #[.int .i64 a, .int .i64 b, .slice o n c]) w := fun _ _ _ _ _ _ => by kernel_rfl
  rcases Bool.eq_false_or_eq_true (recOK t i ys.length) with hy | hy
  · rw [(ent_yes hy).1, (ent_yes hy).2]
    have HY : Hid (recOK t i ys.length = true) := hy
    obtain ⟨⟨T, rfl, hT⟩, ⟨I, rfl, hI, _⟩, hn⟩ := recOK_yes hy
    rw [Int.toNat_natCast, Int.toNat_natCast]
    obtain ⟨l1, l2⟩ := pay_len T I hT hI
    clear hy
    go_enter Try.func83, Try.ntmps83
    go_wp2_with fail
    refine (entry_in w T I uo ys.length uc HM.out).mono ?_
    rintro e w1 ⟨rfl, b1⟩
    rw [HY.out]
    have s1 := b1.size
    go_wp2_with fail
    refine (entry_pay w1 T I _ ys hT hI (HU.out.below b1 (Nat.le_refl _)) hn).mono ?_
    rintro e w2 ⟨v2, rfl, HO2, b2⟩
    have s2 := b2.size
    go_wp2_with fail
    refine (implFrame_good w2 _ (2 :: (putN T ++ (putN I ++ ys))) (by simp; omega) (Own.rdA HO2)).mono ?_
    rintro e w3 ⟨v3, rfl, HO3, b3⟩
    have HF : Hid (Own w3 w.heap.size v3 (frameN (2 :: (putN T ++ (putN I ++ ys)))) ∧ Below w.heap.size w w3) := ⟨HO3.mono (by omega), (b1.trans (b2.mono s1)).trans (b3.mono (by omega))⟩
    clear HO2 HO3 b2 b3 b1
    go_wp2
    go_ret2
    exact ⟨_, rfl, HF.out⟩
  · rw [(ent_no hy).1, (ent_no hy).2]
    have HY : Hid (recOK t i ys.length = false) := hy
    clear hy
    go_enter Try.func83, Try.ntmps83
    go_wp2_with fail
    refine (entry_in w t i uo ys.length uc HM.out).mono ?_
    rintro e w1 ⟨rfl, b1⟩
    rw [HY.out]
    go_wp2
    go_ret2
    exact ⟨_, rfl, ⟨by simp, World.ownsRow_nil _ _ _ _⟩, b1⟩

set_option maxHeartbeats 1000000 in
theorem implEntry (w : World) (t i : Int) (u : Value) (ys : List Int) (hu : RdA w u ys) :
    Calls Try.prog 59 #[.agg #[.int .i64 t, .int .i64 i, u]] w fun e w' => ∃ v, e = .returned (.tuple #[v, .int .i64 (entC t i ys)]) ∧ Own w' w.heap.size v (entA t i ys) ∧ Below w.heap.size w w' := by
  have HU : Hid (RdA w u ys) := hu
  obtain ⟨⟨uo, uc, rfl, _⟩, _⟩ := hu
  have HB : Hid (Below w.heap.size w (w.alloc (.cells #[.int .i64 t, .int .i64 i, .slice uo ys.length uc] 92))) := (Below.refl _ _).alloc (Nat.le_refl _) _
  go_enter Try.func59, Try.ntmps59
  go_wp2_with fail
  refine (entry_frame _ t i _ ys (HU.out.below HB.out (Nat.le_refl _))).mono ?_
  rintro e w1 ⟨v, rfl, HO, hb⟩
  have HF : Hid (Own w1 w.heap.size v (entA t i ys) ∧ Below w.heap.size w w1) := ⟨HO.mono (by simp), HB.out.trans (hb.mono (by simp))⟩
  clear HO hb
  go_wp2
  go_ret2
  exact ⟨_, rfl, HF.out⟩
end Go.Proofs.Ytipcdioolafkpaa.implent

/- Contracts of EntryRecord, of the program and of the specification. -/
import Derived.Test.YtipcdioolafkpagEntPays
namespace Go.Proofs.Ytipcdioolafkpag.implent
open Go.ChangeShapes Go.WideShapes Go.ChangeAt Go.RowKit
open Go.Proofs.Ytipcdioolafkpag.bytes Go.Proofs.Ytipcdioolafkpag.pile Go.Proofs.Ytipcdioolafkpag.put Go.Proofs.Ytipcdioolafkpag.crcs Go.Proofs.Ytipcdioolafkpag.join Go.Proofs.Ytipcdioolafkpag.frames Go.Proofs.Ytipcdioolafkpag.votes Go.Proofs.Ytipcdioolafkpag.pays Go.Proofs.Ytipcdioolafkpag.recs Go.Proofs.Ytipcdioolafkpag.steps Go.Proofs.Ytipcdioolafkpag.entries Go.Proofs.Ytipcdioolafkpag.entpays
set_option linter.unusedVariables false

set_option maxHeartbeats 1000000 in
theorem specEntry (w : World) (t i : Int) (u : Value) (ys : List Int) (hu : RdA w u ys) :
    Calls Try.prog 22 #[.agg #[.int .i64 t, .int .i64 i, u]] w fun e w' => ∃ v, e = .returned (.tuple #[v, .int .i64 (entC t i ys)]) ∧ Own w' w.heap.size v (entA t i ys) ∧ Below w.heap.size w w' := by
  have HU : Hid (RdA w u ys) := hu
  obtain ⟨⟨uo, uc, rfl, h1, h2, _⟩, _⟩ := hu
  have hm : ys.length ≤ maxLen := by omega
  have HM : Hid (ys.length ≤ maxLen) := hm
  clear h1 h2 hm
  obtain ⟨W, hW⟩ : ∃ W, W = w.alloc (.cells #[.int .i64 t, .int .i64 i, .slice uo ys.length uc] 43) := ⟨_, rfl⟩
  have hb0 : Below w.heap.size w W := by rw [hW]; exact (Below.refl _ _).alloc (Nat.le_refl _) _
  have hk : W.heap[w.heap.size]? = some (.cells #[.int .i64 t, .int .i64 i, .slice uo ys.length uc] 43 (0, 0)) := by rw [hW]; exact heap_alloc_new w _
  have hC := rec_any W t i uo ys.length uc HM.out
  rw [hW] at hC
  rcases Bool.eq_false_or_eq_true (recOK t i ys.length) with hy | hy
  · rw [(ent_yes hy).1, (ent_yes hy).2]
    have HY : Hid (recOK t i ys.length = true) := hy
    obtain ⟨⟨T, rfl, hT⟩, ⟨I, rfl, hI, _⟩, hn⟩ := recOK_yes hy
    rw [Int.toNat_natCast, Int.toNat_natCast]
    clear hy
    go_enter Try.func22, Try.ntmps22
    go_wp2_with fail
    refine hC.mono ?_
    rw [← hW]
    rintro e w1 ⟨rfl, b1⟩
    rw [HY.out]
    have B1 : Hid (Below w.heap.size w w1) := hb0.trans (b1.mono hb0.size)
    have k1 : w1.heap[w.heap.size]? = some (.cells #[.int .i64 T, .int .i64 I, .slice uo ys.length uc] 43 (0, 0)) := kept b1 hk (Nat.le_refl _)
    have c0 : w1.cell? ⟨w.heap.size, 0, none⟩ = some (.int .i64 T) := by simp [World.cell?, k1]
    have c1 : w1.cell? ⟨w.heap.size, 1, none⟩ = some (.int .i64 I) := by simp [World.cell?, k1]
    have c2 : w1.cell? ⟨w.heap.size, 2, none⟩ = some (.slice uo ys.length uc) := by simp [World.cell?, k1]
    have hs1 := B1.out.size
    clear hC hW b1 hk k1 hb0
    go_wp2_with fail
    refine (entry_spec w1 T I _ ys hT hI (HU.out.below B1.out (Nat.le_refl _)) hn).mono ?_
    rintro e w2 ⟨v2, rfl, O2, b2⟩
    have HF : Hid (Own w2 w.heap.size v2 (frameN (2 :: (putN T ++ (putN I ++ ys)))) ∧ Below w.heap.size w w2) := ⟨O2.mono hs1, B1.out.trans (b2.mono hs1)⟩
    clear O2 b2
    go_wp2
    go_ret2
    exact ⟨_, rfl, HF.out⟩
  · rw [(ent_no hy).1, (ent_no hy).2]
    have HY : Hid (recOK t i ys.length = false) := hy
    clear hy
    go_enter Try.func22, Try.ntmps22
    go_wp2_with fail
    refine hC.mono ?_
    rw [← hW]
    rintro e w1 ⟨rfl, b1⟩
    rw [HY.out]
    have B1 : Hid (Below w.heap.size w w1) := hb0.trans (b1.mono hb0.size)
    have HF : Hid (Own (w1.alloc (.cells #[] 5)) w.heap.size (.slice (some ⟨w1.heap.size, 0, none⟩) 0 0) [] ∧ Below w.heap.size w (w1.alloc (.cells #[] 5))) := ⟨⟨by simp, World.ownsRow_lit _ #[] 0 B1.out.size (by simp [maxLen]) (by simp)⟩, B1.out.alloc B1.out.size _⟩
    clear hC hW b1 hk hb0
    go_wp2
    go_ret2
    exact ⟨_, rfl, HF.out⟩

set_option maxRecDepth 20000 in
set_option maxHeartbeats 1000000 in
theorem entry_frame (w : World) (t i : Int) (u : Value) (ys : List Int) (hu : RdA w u ys) :
    Calls Try.prog 52 #[.iface 83 (.agg #[.int .i64 t, .int .i64 i, u])] w fun e w' => ∃ v, e = .returned (.tuple #[v, .int .i64 (entC t i ys)]) ∧ Own w' w.heap.size v (entA t i ys) ∧ Below w.heap.size w w' := by
  have HU : Hid (RdA w u ys) := hu
  obtain ⟨⟨uo, uc, rfl, h1, h2, _⟩, _⟩ := hu
  have HM : Hid (ys.length ≤ maxLen) := by show _ ≤ _; omega
  clear h1 h2
  have hm1 : ∀ (w : World) (a b : Int) (o : Option Addr) (n c : Nat), (method 246 83 (.agg #[.int .i64 a, .int .i64 b, .slice o n c]) "loop.example/g00142/impl.inBounds").run Try.prog w = .ok (79, .agg #[.int .i64 a, .int .i64 b, .slice o n c]) w := fun _ _ _ _ _ _ => by kernel_rfl
  have hm2 : ∀ (w : World) (a b : Int) (o : Option Addr) (n c : Nat), (method 246 83 (.agg #[.int .i64 a, .int .i64 b, .slice o n c]) "loop.example/g00142/impl.payload").run Try.prog w = .ok (114, .agg #[.int .i64 a, .int .i64 b, .slice o n c]) w := fun _ _ _ _ _ _ => by kernel_rfl
  rcases Bool.eq_false_or_eq_true (recOK t i ys.length) with hy | hy
  · rw [(ent_yes hy).1, (ent_yes hy).2]
    have HY : Hid (recOK t i ys.length = true) := hy
    obtain ⟨⟨T, rfl, hT⟩, ⟨I, rfl, hI, _⟩, hn⟩ := recOK_yes hy
    rw [Int.toNat_natCast, Int.toNat_natCast]
    obtain ⟨l1, l2⟩ := pay_len T I hT hI
    clear hy
    go_enter Try.func52, Try.ntmps52
    go_wp2_with fail
    refine (entry_in w T I uo ys.length uc HM.out).mono ?_
    rintro e w1 ⟨rfl, b1⟩
    rw [HY.out]
    have s1 := b1.size
    go_wp2_with fail
    refine (entry_pay w1 T I _ ys hT hI (HU.out.below b1 (Nat.le_refl _)) hn).mono ?_
    rintro e w2 ⟨v2, rfl, HO2, b2⟩
    have s2 := b2.size
    go_wp2_with fail
    refine (implFrame_good w2 _ (2 :: (putN T ++ (putN I ++ ys))) (by simp; omega) (Own.rdA HO2)).mono ?_
    rintro e w3 ⟨v3, rfl, HO3, b3⟩
    have HF : Hid (Own w3 w.heap.size v3 (frameN (2 :: (putN T ++ (putN I ++ ys)))) ∧ Below w.heap.size w w3) := ⟨HO3.mono (by omega), (b1.trans (b2.mono s1)).trans (b3.mono (by omega))⟩
    clear HO2 HO3 b2 b3 b1
    go_wp2
    go_ret2
    exact ⟨_, rfl, HF.out⟩
  · rw [(ent_no hy).1, (ent_no hy).2]
    have HY : Hid (recOK t i ys.length = false) := hy
    clear hy
    go_enter Try.func52, Try.ntmps52
    go_wp2_with fail
    refine (entry_in w t i uo ys.length uc HM.out).mono ?_
    rintro e w1 ⟨rfl, b1⟩
    rw [HY.out]
    go_wp2
    go_ret2
    exact ⟨_, rfl, ⟨by simp, World.ownsRow_nil _ _ _ _⟩, b1⟩

set_option maxHeartbeats 1000000 in
theorem implEntry (w : World) (t i : Int) (u : Value) (ys : List Int) (hu : RdA w u ys) :
    Calls Try.prog 24 #[.agg #[.int .i64 t, .int .i64 i, u]] w fun e w' => ∃ v, e = .returned (.tuple #[v, .int .i64 (entC t i ys)]) ∧ Own w' w.heap.size v (entA t i ys) ∧ Below w.heap.size w w' := by
  have HU : Hid (RdA w u ys) := hu
  obtain ⟨⟨uo, uc, rfl, _⟩, _⟩ := hu
  have HB : Hid (Below w.heap.size w (w.alloc (.cells #[.int .i64 t, .int .i64 i, .slice uo ys.length uc] 43))) := (Below.refl _ _).alloc (Nat.le_refl _) _
  go_enter Try.func24, Try.ntmps24
  go_wp2_with fail
  refine (entry_frame _ t i _ ys (HU.out.below HB.out (Nat.le_refl _))).mono ?_
  rintro e w1 ⟨v, rfl, HO, hb⟩
  have HF : Hid (Own w1 w.heap.size v (entA t i ys) ∧ Below w.heap.size w w1) := ⟨HO.mono (by simp), HB.out.trans (hb.mono (by simp))⟩
  clear HO hb
  go_wp2
  go_ret2
  exact ⟨_, rfl, HF.out⟩
end Go.Proofs.Ytipcdioolafkpag.implent

/- What FnDisk rests on: the acts drawn, rows of numbers equal, the run's disk, what a crash leaves. -/
import Derived.Test.YtipcdioolafkpaaDiskActs
import Derived.Test.YtipcdioolafkpaaSpecRun
import Derived.Test.YtipcdioolafkpaaImplCrash
import Derived.Test.YtipcdioolafkpaaPieces
import Derived.Test.YtipcdioolafkpaaChoice
import Derived.Test.YtipcdioolafkpaaSame
namespace Go.Proofs.Ytipcdioolafkpaa.dlaw
open Go.ChangeShapes Go.WideShapes Go.ChangeAt Go.RowKit
open Go.Proofs.Ytipcdioolafkpaa.bytes Go.Proofs.Ytipcdioolafkpaa.put Go.Proofs.Ytipcdioolafkpaa.pile Go.Proofs.Ytipcdioolafkpaa.join Go.Proofs.Ytipcdioolafkpaa.frames Go.Proofs.Ytipcdioolafkpaa.reader Go.Proofs.Ytipcdioolafkpaa.one Go.Proofs.Ytipcdioolafkpaa.many Go.Proofs.Ytipcdioolafkpaa.draws Go.Proofs.Ytipcdioolafkpaa.payloads Go.Proofs.Ytipcdioolafkpaa.bytefn Go.Proofs.Ytipcdioolafkpaa.drawsfn Go.Proofs.Ytipcdioolafkpaa.acts Go.Proofs.Ytipcdioolafkpaa.implrun Go.Proofs.Ytipcdioolafkpaa.disks Go.Proofs.Ytipcdioolafkpaa.actsfn Go.Proofs.Ytipcdioolafkpaa.diskacts Go.Proofs.Ytipcdioolafkpaa.specdisk Go.Proofs.Ytipcdioolafkpaa.crashes Go.Proofs.Ytipcdioolafkpaa.crashans Go.Proofs.Ytipcdioolafkpaa.doside Go.Proofs.Ytipcdioolafkpaa.specrows Go.Proofs.Ytipcdioolafkpaa.choice Go.Proofs.Ytipcdioolafkpaa.lists Go.Proofs.Ytipcdioolafkpaa.sizes Go.Proofs.Ytipcdioolafkpaa.diskof Go.Proofs.Ytipcdioolafkpaa.pieces
set_option linter.unusedVariables false

set_option maxHeartbeats 1000000 in
theorem diskActsOf_fn (w : World) (ao : Option Addr) (cap : Nat) (xs : List Int) (h : RdA w (.slice ao xs.length cap) xs) :
    Calls Try.prog 21 #[.slice ao xs.length cap] w fun e w' => ∃ o n c, e = .returned (.slice o n c) ∧ RdActs w' (.slice o n c) (actsOf xs) ∧ Below w.heap.size w w' := by
  have HR : Hid (RdA w (.slice ao xs.length cap) xs) := h
  clear h
  go_enter Try.func21, Try.ntmps21
  go_wp2_with fail
  refine (source_fn w ao cap xs HR.out).mono ?_
  rintro e w1 ⟨rfl, hlt, b1, S1⟩
  go_wp2_with fail
  refine (diskActs_fn w1 _ ao cap xs S1).mono ?_
  rintro e w2 ⟨v, rfl, hA, hg⟩
  have HA : Hid (RdActs w2 v (actsOf xs)) := hA
  obtain ⟨vo, vc, rfl, _⟩ := hA
  have HB : Hid (Below w.heap.size w w2) := b1.grown hg (by omega) (fun j hj => by simp only [Option.some.injEq] at hj; omega)
  clear hg b1 S1
  go_wp2
  go_ret
  exact ⟨_, _, _, rfl, HA.out, HB.out⟩

/-- The slice value v reads, in world w, as these numbers. -/
def RdN (w : World) (v : Value) (ns : List Int) : Prop :=
  ∃ ao cap, v = .slice ao ns.length cap ∧ ns.length ≤ cap ∧ cap ≤ maxLen ∧
    (0 < ns.length → ∃ b off, ao = some ⟨b, off, none⟩ ∧ ∀ i, i < ns.length → w.cell? ⟨b, off + i, none⟩ = some (.int .i64 (ns.getD i 0)))
def OwnN (w : World) (base : Nat) (v : Value) (ns : List Int) : Prop := w.ownsRow base 3 1 v ns.length (ns.map (Value.int .i64))
theorem OwnN.rd {w : World} {base : Nat} {v : Value} {xs : List Int} (h : OwnN w base v xs) : RdN w v xs := by
  have h' := h
  obtain ⟨h1, ⟨rfl, h2⟩ | ⟨g, cap, cur, rfl, hb, hg, hnc, hcm, hcs, htake⟩⟩ := h
  · exact ⟨none, 0, by rw [h2], by omega, by simp [maxLen], fun hp => by omega⟩
  · refine ⟨_, cap, rfl, hnc, hcm, fun hp => ⟨g, 0, rfl, fun i hi => ?_⟩⟩
    have := World.ownsRow.cellAt h' i (by omega)
    rw [Nat.zero_add, this]
    simp [hi]
theorem OwnN.below {w w' : World} {base B : Nat} {v : Value} {xs : List Int} (h : OwnN w base v xs) (hb : Below B w w') (hB : w.heap.size ≤ B) : OwnN w' base v xs := by
  obtain ⟨h1, h2 | ⟨g, cap, cur, rfl, hbg, hg, r⟩⟩ := h
  · exact ⟨h1, .inl h2⟩
  · exact ⟨h1, .inr ⟨g, cap, cur, rfl, hbg, (hb.block g (by have := (Array.getElem?_eq_some_iff.1 hg).1; omega)).trans hg, r⟩⟩
theorem RdN.below {w w' : World} {B : Nat} {v : Value} {xs : List Int} (h : RdN w v xs) (hb : Below B w w') (hB : w.heap.size ≤ B) : RdN w' v xs := by
  obtain ⟨ao, cap, rfl, h1, h2, h4⟩ := h
  refine ⟨ao, cap, rfl, h1, h2, fun hp => ?_⟩
  obtain ⟨b, off, rfl, hc⟩ := h4 hp
  exact ⟨b, off, rfl, fun i hi => (hb.cell (by have := cell_lt (hc i hi); simp at this ⊢; omega)).trans (hc i hi)⟩

set_option maxHeartbeats 400000 in
theorem sameInts_same (w : World) (a b : Value) (xs : List Int) (ha : RdN w a xs) (hb : RdN w b xs) :
    Calls Try.prog 23 #[a, b] w fun e w' => e = .returned (.bool true) ∧ ∃ n, w' = w.drewN n := by
  obtain ⟨ao, ca, rfl, ha1, ha2, ha3⟩ := ha
  obtain ⟨bo, cb, rfl, hb1, hb2, hb3⟩ := hb
  unfold maxLen at ha2 hb2
  have hne : (((xs.length : Nat) : Int) != ((xs.length : Nat) : Int)) = false := by simp
  go_enter Try.func23, Try.ntmps23
  go_wp2
  go_loopw [5] (fun i wr => ∃ k m : Nat, k ≤ xs.length ∧ i = .int .i64 k ∧ wr = w.drewN m) (fun i _ => xs.length - (intOf i).toNat)
  case atStart => exact ⟨0, 0, by omega, rfl, rfl⟩
  case round =>
    obtain ⟨k, m, hk, rfl, rfl⟩ := hrel
    by_cases hlt : k < xs.length
    · obtain ⟨ab, aoff, rfl, hca⟩ := ha3 (by omega)
      obtain ⟨bb, boff, rfl, hcb⟩ := hb3 (by omega)
      have hca' := hca k hlt
      have hcb' := hcb k hlt
      clear hca hcb ha3 hb3
      generalize xs.getD k 0 = x at hca' hcb'
      have hnx : (x != x) = false := by simp
      go_wp2
      go_quiet (fail)
      go_wp2
      go_roundw
      case rel => exact ⟨k + 1, _, by omega, by go_num, rfl⟩
      case measure => simp [intOf]; omega
    · go_wp2
      go_ret
      exact ⟨rfl, m, rfl⟩


theorem run_facts (xs : List Int) : ∃ codes X cs, runA (actsOf xs) = (codes, X, cs, 0) ∧ Right X cs := by
  have h := actsOf_fit xs
  have h2 := runD_small (actsOf xs) [] [] (by simp)
  refine ⟨(runD [] [] (actsOf xs)).1, (runD [] [] (actsOf xs)).2.1, (runD [] [] (actsOf xs)).2.2, ?_, ?_⟩
  · unfold runA
    rw [if_neg (by omega), if_neg (by omega)]
  · exact ⟨by have := h2.2.1; simp at this; omega, h2.1⟩
theorem crash_facts {X : List Int} {cs : List (List Int)} (h : Right X cs) (K T : Nat) : (X ++ cs.flatten).take (crashF X cs K T).length = crashF X cs K T ∧ X.length ≤ (crashF X cs K T).length ∧ (crashF X cs K T).length ≤ (X ++ cs.flatten).length ∧ Right (crashF X cs K T) [] := by
  have h1 := crash_take X cs K T
  have hle : (crashF X cs K T).length ≤ (X ++ cs.flatten).length := by rw [← h1, List.length_take]; omega
  refine ⟨?_, ?_, hle, by simp, ?_⟩
  · conv => rhs; rw [← h1]
    rw [← h1, List.length_take, List.take_eq_take_iff]
    omega
  · unfold crashF
    simp only [List.length_append]
    omega
  · have := h.2
    simp only [List.flatten_nil, List.length_nil, List.length_append] at hle ⊢
    omega
end Go.Proofs.Ytipcdioolafkpaa.dlaw

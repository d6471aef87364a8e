/- Contracts of the program's crash of a track, and of the disk that is left. -/
import Derived.Test.YtipcdioolafkpaaCrashes
import Derived.Deep.RegionLaw
namespace Go.Proofs.Ytipcdioolafkpaa.crashed
open Go.ChangeShapes Go.WideShapes Go.ChangeAt Go.RowKit
open Go.Proofs.Ytipcdioolafkpaa.bytes Go.Proofs.Ytipcdioolafkpaa.pile Go.Proofs.Ytipcdioolafkpaa.reader Go.Proofs.Ytipcdioolafkpaa.lists Go.Proofs.Ytipcdioolafkpaa.sizes Go.Proofs.Ytipcdioolafkpaa.marked Go.Proofs.Ytipcdioolafkpaa.disks Go.Proofs.Ytipcdioolafkpaa.diskmarks Go.Proofs.Ytipcdioolafkpaa.specdisk Go.Proofs.Ytipcdioolafkpaa.tracks Go.Proofs.Ytipcdioolafkpaa.trackof Go.Proofs.Ytipcdioolafkpaa.crashes
set_option linter.unusedVariables false

set_option maxHeartbeats 400000 in
theorem crash_bad (w : World) (d : Nat) (K torn : Int) (h : K < 0 ∨ torn < 0) :
    Calls Try.prog 51 #[.pointer (some ⟨d, 0, none⟩), .int .i64 K, .int .i64 torn] w fun e w' => e = .returned (.int .i64 5) ∧ w' = w := by
  by_cases hK : K < 0
  · go_enter Try.func51, Try.ntmps51
    go_wp2
    go_ret
    exact ⟨rfl, rfl⟩
  · have ht : torn < 0 := by omega
    go_enter Try.func51, Try.ntmps51
    go_wp2
    go_ret
    exact ⟨rfl, rfl⟩

set_option maxHeartbeats 400000 in
theorem crash_ok (w : World) (base d : Nat) (av : Value) (xs : List Int) (ev : Value) (cs : List (List Int)) (h : TS w base d av (xs ++ cs.flatten) xs.length ev (endsTo xs.length cs cs.length)) (K torn : Nat) (hr : Right xs cs) (hK : K ≤ 9223372036854775807) (ht : torn ≤ 9223372036854775807) :
    Calls Try.prog 51 #[.pointer (some ⟨d, 0, none⟩), .int .i64 K, .int .i64 torn] w fun e w' => e = .returned (.int .i64 0) ∧ TS w' base d (.slice (some ⟨w.heap.size, 0, none⟩) (keptN xs.length cs K torn) (keptN xs.length cs K torn)) (crashF xs cs K torn) (keptN xs.length cs K torn : Nat) (.slice none 0 0) [] ∧ Below base w w' := by
  have HT : Hid (TS w base d av (xs ++ cs.flatten) xs.length ev (endsTo xs.length cs cs.length)) := h
  have HK := kept_any w base d av _ xs.length ev cs h K torn (by have := hr.2; omega) hK ht (by have := hr.1; omega)
  have HC := cut_ok w base d av _ _ ev _ h (keptN xs.length cs K torn) (kept_le xs cs K torn) (by rw [List.length_append]; exact hr.2)
  rw [crash_take] at HC
  clear h
  generalize keptN xs.length cs K torn = M at HK HC ⊢
  have h1 : ¬ (K : Int) < 0 := by omega
  have h2 : ¬ (torn : Int) < 0 := by omega
  go_enter Try.func51, Try.ntmps51
  go_wp2_with fail
  refine HK.mono ?_
  rintro e w1 ⟨rfl, hw1⟩
  have hw1' := hw1.symm
  subst hw1'
  go_wp2_with fail
  refine HC.mono ?_
  rintro e w2 ⟨rfl, T2, b2⟩
  have HF : Hid (TS w2 base d (.slice (some ⟨w.heap.size, 0, none⟩) M M) (crashF xs cs K torn) M (.slice none 0 0) [] ∧ Below base w w2) := ⟨T2, b2⟩
  clear T2 b2 HC HK
  go_wp2
  go_ret
  exact ⟨rfl, HF.out⟩

set_option maxRecDepth 20000 in
set_option maxHeartbeats 1000000 in
theorem disk_none (w : World) (base d g M : Nat) (zs : List Int) (h : TS w base d (.slice (some ⟨g, 0, none⟩) M M) zs M (.slice none 0 0) []) (hM : M ≤ 8192) :
    Calls Try.prog 47 #[.pointer (some ⟨d, 0, none⟩)] w fun e w' => e = .returned (.agg #[.slice (some ⟨g, 0, none⟩) M M, .slice none 0 0]) ∧ Below w.heap.size w w' := by
  have c0 := cell_of h.blk (i := 0) rfl
  have c1 := cell_of h.blk (i := 1) rfl
  have c2 := cell_of h.blk (i := 2) rfl
  have hd := h.lt
  clear h
  have h0 : (0 : Int) ≤ M := by omega
  have h1 : (M : Int) ≤ M := by omega
  have HB : Hid (Below w.heap.size w ((w.alloc (.cells #[.slice (some ⟨g, 0, none⟩) M M, .slice none 0 0] 40)).alloc (.cells #[.slice (some ⟨g, 0, none⟩) M M, .slice none 0 0] 40)).drew) := ⟨rfl, rfl, rfl, by simp; omega, fun k hk => by
    show ((w.alloc _).alloc _).heap[k]? = _
    rw [Below.heap_alloc _ _ _ (by simp; omega), Below.heap_alloc _ _ _ hk]⟩
  go_enter Try.func47, Try.ntmps47
  go_wp2
  go_region_law (fail)
  all_goals
    go_wp2
    go_loopw [30] (fun i wr => i = .int .i64 0 ∧ wr = ((w.alloc (.cells #[.slice none 0 0, .slice none 0 0] 40)).alloc (.cells #[.slice (some ⟨g, 0, none⟩) M M, .slice none 0 0] 40)).drew) (fun _ _ => 0)
    case atStart => exact ⟨rfl, rfl⟩
    case round =>
      obtain ⟨rfl, rfl⟩ := hrel
      go_wp2
      exact bodyPost_ret (v := .agg #[.slice (some ⟨g, 0, none⟩) M M, .slice none 0 0]) (by simp [results, Try.results47, go_sem]) rfl ⟨rfl, HB.out⟩
end Go.Proofs.Ytipcdioolafkpaa.crashed

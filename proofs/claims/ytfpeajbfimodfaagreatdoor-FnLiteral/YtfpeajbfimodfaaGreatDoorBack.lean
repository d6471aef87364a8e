/- slices.Backward over a slice of ways. -/
import Derived.RangeFuncNested
import Derived.RangeFuncBound
import Derived.RangeFuncCalls
import Derived.RangeFuncLeaves
import Derived.Shelf.Abstract
import Derived.Shelf.RegionOpen
import Derived.WalkKit
import Derived.OwnWalkIn
import Derived.TacticsInMore
import Derived.LoopNIn
import Derived.LoopIn
import Derived.Test.YtfpeajbfimodfaaGreatDoorBytes
namespace Go.Proofs.YtfpeajbfimodfaaGreatDoor.back
open Go.RowKit Go.Shelf Go.Proofs.YtfpeajbfimodfaaGreatDoor.bytes
attribute [local go_sem] Oper.semAt_some
set_option linter.unusedVariables false

/-- What a round must keep: the box of the slice, and its row. -/
def Kp (Bs kR : Nat) (W W' : World) : Prop := W'.heap[Bs]? = W.heap[Bs]? ∧ W'.heap[kR]? = W.heap[kR]?
theorem Kp.refl (Bs kR : Nat) (W : World) : Kp Bs kR W W := ⟨rfl, rfl⟩
theorem Kp.trans {Bs kR : Nat} {A B C : World} (h : Kp Bs kR A B) (k : Kp Bs kR B C) : Kp Bs kR A C := ⟨k.1.trans h.1, k.2.trans h.2⟩
/-- The numbers that have come when m rounds are over. -/
def dn (n m : Nat) : List Nat := (List.range m).map fun j => n - 1 - j
theorem dn_succ (n m : Nat) : dn n (m + 1) = dn n m ++ [n - 1 - m] := by simp [dn, List.range_succ]
theorem dn_length (n m : Nat) : (dn n m).length = m := by simp [dn]
def kidV (tb fb : Nat → Nat) (k : Nat) : Value := .agg #[.func (.func 83) #[] #[.pointer (some ⟨tb k, 0, none⟩), .pointer (some ⟨fb k, 0, none⟩)], .func (.func 44) #[] #[]]
set_option maxRecDepth 100000 in
set_option maxHeartbeats 4000000 in
theorem back77 (F : Fence) (N : Nat) (h7 : F.fn 77) (hro : F.round = none) (hN : 1 ≤ N) (l Bs kR n : Nat) (tb fb : Nat → Nat) (hn8 : n ≤ 8) (J Jx : List { k : Nat // k < n } → World → Prop)
    (hY : ∀ pre x W, J pre W → pre.length < n → YieldAt F (N - 1) Tryz.prog l #[.int .i64 (x.1 : Int), kidV tb fb x.1] W fun e W' =>
      (e = .returned (.bool true) ∧ J (pre ++ [x]) W' ∧ Kp Bs kR W W') ∨ (e = .returned (.bool false) ∧ Jx (pre ++ [x]) W'))
    (W : World) (hBs : W.cell? ⟨Bs, 0, none⟩ = some (.slice (some ⟨kR, 0, none⟩) n n))
    (hc : ∀ k, k < n → W.cell? ⟨kR, k * 2, none⟩ = some (.func (.func 83) #[] #[.pointer (some ⟨tb k, 0, none⟩), .pointer (some ⟨fb k, 0, none⟩)]) ∧ W.cell? ⟨kR, k * 2 + 1, none⟩ = some (.func (.func 44) #[] #[])) (h0 : J [] W) :
    CallsIn F N Tryz.prog 77 #[.func (.yield l) #[] #[], .pointer (some ⟨Bs, 0, none⟩)] W fun e W' => (∃ v, e = .returned v) ∧
      ((∃ ys, ys.map (·.1) = dn n n ∧ J ys W') ∨ (∃ pre, True ∧ Jx pre W')) := by
  refine callsIn_of_wp Tryz.func77 rfl h7 ?_ hro
  simp only [Tryz.ntmps77, List.size_toArray, List.length_cons, List.length_nil, Nat.reduceAdd, Nat.reduceSub, Array.replicate_succ, Array.replicate_zero, List.push_toArray, List.append_toArray, List.nil_append, List.cons_append]
  gi_wp2
  gi_loopw [3] (fun i wr => ∃ (m : Nat) (pre : List { k : Nat // k < n }), m ≤ n ∧ i = .int .i64 ((n : Int) - 1 - (m : Int)) ∧ pre.map (·.1) = dn n m ∧ J pre wr ∧ Kp Bs kR W wr)
    (fun i _ => (intOf i + 1).toNat)
  case atStart => exact ⟨0, [], Nat.zero_le _, by simp, rfl, h0, Kp.refl _ _ _⟩
  case round =>
    obtain ⟨m, pre, hm, rfl, hpre, hJs, hk⟩ := hrel
    have hBx := (World.cell?_of_block (a := ⟨Bs, 0, none⟩) hk.1).trans hBs
    by_cases hlt : m < n
    · obtain ⟨k, hkm⟩ : ∃ k : Nat, k = n - 1 - m := ⟨_, rfl⟩
      have hkn : k < n := by omega
      have hki : (n : Int) - 1 - (m : Int) = (k : Int) := by omega
      rw [hki]
      have hc1 := (World.cell?_of_block (a := ⟨kR, k * 2, none⟩) hk.2).trans (hc k hkn).1
      have hc2 := (World.cell?_of_block (a := ⟨kR, k * 2 + 1, none⟩) hk.2).trans (hc k hkn).2
      have hpl : pre.length = m := by have := congrArg List.length hpre; simpa [dn_length] using this
      obtain ⟨fn, tmps, assign, body, hy, hR⟩ := hY pre ⟨k, hkn⟩ wr hJs (by omega)
      dsimp only [kidV] at hy
      have hki2 : (k : Int) < (n : Int) := by omega
      have HM := hide (And.intro hki (And.intro hpre hkm))
      clear hki hpre hpl hkm
      gi_wp2
      refine hR.mono ?_
      rintro e W3 (⟨rfl, hJ3, hk3⟩ | ⟨rfl, hJx3⟩)
      · gi_wp2
        go_roundw
        case rel => exact ⟨m + 1, pre ++ [⟨k, hkn⟩], by omega, congrArg (Value.int IntKind.i64) (by have := HM.out.1; omega), by rw [List.map_append, HM.out.2.1, dn_succ, ← HM.out.2.2]; rfl, hJ3, hk.trans hk3⟩
        case measure => simp [intOf]
      · gi_wp2
        refine bodyPost_ret (results_none rfl _ _ _) rfl ?_
        exact ⟨⟨_, rfl⟩, .inr ⟨_, trivial, hJx3⟩⟩
    · obtain rfl : m = n := by omega
      have hneg : ¬ (0 : Int) ≤ (m : Int) - 1 - (m : Int) := by omega
      gi_wp2
      go_end0
      exact ⟨⟨_, rfl⟩, .inl ⟨_, hpre, hJs⟩⟩
set_option maxHeartbeats 1000000 in
theorem back57 (F : Fence) (N : Nat) (h57 : F.fn 57) (hro : F.round = none) (a : Option Addr) (len cap : Nat) (w : World) :
    CallsIn F N Tryz.prog 57 #[.slice a len cap] w fun e w' => e = .returned (.func (.func 77) #[] #[.pointer (some ⟨w.heap.size, 0, none⟩)]) ∧ w' = w.alloc (.cells #[.slice a len cap] 109) := by
  have hmf : ∀ (fn : Fn) (first cap : Array Value) (w : World), (Instr.makeFunc fn first cap).run Tryz.prog w = .ok (.func fn first cap) w := fun _ _ _ _ => rfl
  refine callsIn_of_wp Tryz.func57 rfl h57 ?_ hro
  simp only [Tryz.ntmps57, List.size_toArray, List.length_cons, List.length_nil, Nat.reduceAdd, Nat.reduceSub, Array.replicate_succ, Array.replicate_zero, List.push_toArray, List.append_toArray, List.nil_append, List.cons_append]
  gi_wp2
  go_ret
  exact ⟨rfl, rfl⟩
theorem back_stops (F : Fence) (N : Nat) (h7 : F.fn 77) (hro : F.round = none) (hN : 1 ≤ N) (Bs kR n : Nat) (tb fb : Nat → Nat) (hn8 : n ≤ 8) (w : World) (hBs : w.cell? ⟨Bs, 0, none⟩ = some (.slice (some ⟨kR, 0, none⟩) n n)) (h1 : Bs < w.heap.size) (h2 : kR < w.heap.size)
    (hc : ∀ k, k < n → w.cell? ⟨kR, k * 2, none⟩ = some (.func (.func 83) #[] #[.pointer (some ⟨tb k, 0, none⟩), .pointer (some ⟨fb k, 0, none⟩)]) ∧ w.cell? ⟨kR, k * 2 + 1, none⟩ = some (.func (.func 44) #[] #[])) :
    SeqStopsK F N Tryz.prog 77 #[.pointer (some ⟨Bs, 0, none⟩)] (fun x : { k : Nat // k < n } => #[Value.int .i64 (x.1 : Int), kidV tb fb x.1]) (Kp Bs kR) (fun ys => ys.map (·.1) = dn n n) (fun _ => True) n w := fun l J Jx W hW _ _ hY h0 =>
  back77 F N h7 hro hN l Bs kR n tb fb hn8 J Jx hY W ((hW.cell (p := ⟨Bs, 0, none⟩) h1).trans hBs) (fun k hk => ⟨(hW.cell (p := ⟨kR, k * 2, none⟩) h2).trans (hc k hk).1, (hW.cell (p := ⟨kR, k * 2 + 1, none⟩) h2).trans (hc k hk).2⟩) h0
end Go.Proofs.YtfpeajbfimodfaaGreatDoor.back

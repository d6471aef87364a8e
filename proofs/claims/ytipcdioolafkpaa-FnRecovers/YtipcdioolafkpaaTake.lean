/- Contracts of the decoder's take and of the sum that four bytes are. -/
import Derived.Test.YtipcdioolafkpaaDec
import Derived.Test.YtipcdioolafkpaaPile
namespace Go.Proofs.Ytipcdioolafkpaa.take
open Go.ChangeShapes Go.WideShapes Go.ChangeAt Go.RowKit
open Go.Proofs.Ytipcdioolafkpaa.bytes Go.Proofs.Ytipcdioolafkpaa.pile Go.Proofs.Ytipcdioolafkpaa.get Go.Proofs.Ytipcdioolafkpaa.dec
set_option linter.unusedVariables false

theorem ret_slice {a : Option Addr} {n m c : Nat} (h : n = m) : Ending.returned (.slice a n c) = .returned (.slice a m c) := by rw [h]

/-- The value of a cut of a slice. -/
def cutV (ao : Option Addr) (cap at_ n : Nat) : Value := if cap = at_ then .slice ao n 0 else .slice (ao.map fun x => x.add at_) n (cap - at_)

theorem cut_rd {w : World} {ao : Option Addr} {cap at_ n : Nat} {xs : List Int} (h : RdA w (.slice ao xs.length cap) xs) (hn : at_ + n ≤ xs.length) : RdA w (cutV ao cap at_ n) ((xs.drop at_).take n) := by
  obtain ⟨⟨ao', cap', e, h1, h2, h3, h4⟩, hnil⟩ := h
  simp only [Value.slice.injEq, true_and] at e
  obtain ⟨rfl, rfl⟩ := e
  have hl : ((xs.drop at_).take n).length = n := by simp; omega
  have hx : ∀ x ∈ (xs.drop at_).take n, 0 ≤ x ∧ x ≤ 255 := fun x hx => h3 x (List.mem_of_mem_drop (List.mem_of_mem_take hx))
  unfold cutV
  split
  · rename_i hc
    have hn0 : n = 0 := by omega
    subst hn0
    refine ⟨⟨ao, 0, by rw [hl], by omega, by simp [maxLen], hx, fun hp => by omega⟩, fun n c e => ?_⟩
    simp only [Value.slice.injEq] at e
    obtain ⟨rfl, _, _⟩ := e
    rfl
  · rename_i hc
    have hao : ao ≠ none := fun e0 => by
      subst e0
      have := hnil _ _ rfl
      simp only [Value.slice.injEq, true_and] at this
      omega
    obtain ⟨a, rfl⟩ := Option.ne_none_iff_exists'.1 hao
    refine ⟨⟨_, cap - at_, by rw [hl], by omega, by omega, hx, fun hp => ?_⟩, fun n c e => by simp at e⟩
    obtain ⟨b, off, e, hcell⟩ := h4 (by omega)
    simp only [Option.some.injEq] at e
    subst e
    refine ⟨b, off + at_, by simp [add_at], fun i hi => ?_⟩
    have := hcell (at_ + i) (by omega)
    rw [show off + at_ + i = off + (at_ + i) by omega, this]
    have hi' : i < n := by omega
    simp [List.getD_eq_getElem?_getD, hi']

set_option maxHeartbeats 400000 in
theorem take_any (w : World) (d : Nat) (ao : Option Addr) (L cap at_ n : Nat) (h1 : at_ + n ≤ L) (h2 : L ≤ cap) (h3 : cap ≤ maxLen) (h4 : L ≤ 65536)
    (hd : w.cell? ⟨d, 0, none⟩ = some (.slice ao L cap)) (ha : w.cell? ⟨d, 1, none⟩ = some (.int .i64 at_)) (hf : w.frozen? ⟨d, 1, none⟩ = false) :
    Calls Try.prog 44 #[.pointer (some ⟨d, 0, none⟩), .int .i64 n] w fun e w' => e = .returned (cutV ao cap at_ n) ∧ ∃ m, w' = (w.drewN m).setCell ⟨d, 1, none⟩ (.int .i64 ((at_ : Int) + n)) := by
  unfold maxLen at h3
  by_cases hc : cap = at_
  · have hv : cutV ao cap at_ n = .slice ao n 0 := by unfold cutV; rw [if_pos hc]
    rw [hv]
    go_enter Try.func44, Try.ntmps44
    go_wp2
    go_quiet (fail)
    go_wp2
    go_ret
    exact ⟨ret_slice (by omega), _, rfl⟩
  · have hv : cutV ao cap at_ n = .slice (ao.map fun x => x.add at_) n (cap - at_) := by unfold cutV; rw [if_neg hc]
    rw [hv]
    go_enter Try.func44, Try.ntmps44
    go_wp2
    go_quiet (fail)
    go_wp2
    go_ret
    exact ⟨ret_slice (by omega), _, rfl⟩

theorem or_join (a b k : Nat) (ha : a < 2 ^ k) (hb : 2 ^ k * b + a < 4611686018427387904) : bits .or .i64 (a : Int) ((2 ^ k * b : Nat) : Int) = ((2 ^ k * b + a : Nat) : Int) := by
  have h1 : (BitVec.ofInt 64 (a : Int)).toNat = a := by rw [BitVec.toNat_ofInt]; omega
  have h2 : (BitVec.ofInt 64 ((2 ^ k * b : Nat) : Int)).toNat = 2 ^ k * b := by rw [BitVec.toNat_ofInt]; omega
  have key : (BitVec.ofInt 64 (a : Int) ||| BitVec.ofInt 64 ((2 ^ k * b : Nat) : Int)).toNat = 2 ^ k * b + a := by
    rw [BitVec.toNat_or, h1, h2, Nat.or_comm, ← Nat.two_pow_add_eq_or_of_lt ha]
  show IntKind.i64.wrap ((BitVec.ofInt 64 (a : Int) ||| BitVec.ofInt 64 ((2 ^ k * b : Nat) : Int)).toNat : Nat) = _
  rw [key, IntKind.wrap_i64]
  omega
theorem sum_join (c0 c1 c2 c3 : Int) (h0 : 0 ≤ c0 ∧ c0 ≤ 255) (h1 : 0 ≤ c1 ∧ c1 ≤ 255) (h2 : 0 ≤ c2 ∧ c2 ≤ 255) (h3 : 0 ≤ c3 ∧ c3 ≤ 255) :
    bits .or .i64 (bits .or .i64 (bits .or .i64 c0 (c1 * 256)) (c2 * 65536)) (c3 * 16777216) = c0 + c1 * 256 + c2 * 65536 + c3 * 16777216 := by
  obtain ⟨a0, rfl⟩ := Int.eq_ofNat_of_zero_le h0.1
  obtain ⟨a1, rfl⟩ := Int.eq_ofNat_of_zero_le h1.1
  obtain ⟨a2, rfl⟩ := Int.eq_ofNat_of_zero_le h2.1
  obtain ⟨a3, rfl⟩ := Int.eq_ofNat_of_zero_le h3.1
  have e1 := or_join a0 a1 8 (by omega) (by omega)
  have e2 := or_join (2 ^ 8 * a1 + a0) a2 16 (by omega) (by omega)
  have e3 := or_join (2 ^ 16 * a2 + (2 ^ 8 * a1 + a0)) a3 24 (by omega) (by omega)
  rw [show (a1 : Int) * 256 = ((2 ^ 8 * a1 : Nat) : Int) by omega, e1, show (a2 : Int) * 65536 = ((2 ^ 16 * a2 : Nat) : Int) by omega, e2, show (a3 : Int) * 16777216 = ((2 ^ 24 * a3 : Nat) : Int) by omega, e3]
  omega

set_option maxHeartbeats 400000 in
theorem sumOf_any (w : World) (b : Value) (c0 c1 c2 c3 : Int) (hb : Rd w b [c0, c1, c2, c3]) :
    Calls Try.prog 84 #[b] w fun e w' => e = .returned (.int .i64 (c0 + c1 * 256 + c2 * 65536 + c3 * 16777216)) ∧ ∃ m, w' = w.drewN m := by
  obtain ⟨ao, ca, rfl, ha1, ha2, hx, ha3⟩ := hb
  unfold maxLen at ha2
  obtain ⟨ab, aoff, rfl, hca⟩ := ha3 (by simp)
  have k0 := hca 0 (by simp)
  have k1 := hca 1 (by simp)
  have k2 := hca 2 (by simp)
  have k3 := hca 3 (by simp)
  simp at k0 k1 k2 k3 ha1 hx
  clear hca ha3
  have HJ : Hid (bits .or .i64 (bits .or .i64 (bits .or .i64 c0 (c1 * 256)) (c2 * 65536)) (c3 * 16777216) = c0 + c1 * 256 + c2 * 65536 + c3 * 16777216) := sum_join c0 c1 c2 c3 hx.1 hx.2.1 hx.2.2.1 hx.2.2.2
  go_enter Try.func84, Try.ntmps84
  go_wp2
  go_quiet (fail)
  go_wp2
  go_ret
  exact ⟨ret_int HJ.out, _, rfl⟩
end Go.Proofs.Ytipcdioolafkpaa.take

/- A number is read back from its bytes, and from all but the last of them it is not: about lists alone. -/
import Derived.Test.YtipcdioolafkpaaPut
import Derived.Test.YtipcdioolafkpaaGet
import Derived.Test.YtipcdioolafkpaaPile
namespace Go.Proofs.Ytipcdioolafkpaa.back
open Go.Proofs.Ytipcdioolafkpaa.bytes Go.Proofs.Ytipcdioolafkpaa.put Go.Proofs.Ytipcdioolafkpaa.get Go.Proofs.Ytipcdioolafkpaa.pile

theorem put_pos (n : Nat) : 0 < (putN n).length := by
  by_cases h : n < 128
  · rw [putN_lt h]; simp
  · rw [putN_ge (by omega)]; simp

theorem getR_put (n : Nat) : ∀ (f k : Nat) (acc : Int) (r : List Int), (putN n).length ≤ f → (k = 0 ∨ 0 < n) →
    getR f k acc (putN n ++ r) = (acc + (n : Int) * 128 ^ k, k + (putN n).length, 0) := by
  induction n using putN.induct with
  | case1 n h =>
    intro f k acc r hf hk
    rw [putN_lt h] at hf ⊢
    simp only [List.length_cons, List.length_nil] at hf
    obtain ⟨f', rfl⟩ : ∃ f', f = f' + 1 := ⟨f - 1, by omega⟩
    rw [List.cons_append, List.nil_append, getR_last (by omega) (by omega), show (n : Int) % 128 = n by omega]
    rfl
  | case2 n h ih =>
    intro f k acc r hf hk
    rw [putN_ge (by omega)] at hf ⊢
    simp only [List.length_cons] at hf
    obtain ⟨f', rfl⟩ : ∃ f', f = f' + 1 := ⟨f - 1, by omega⟩
    rw [List.cons_append, getR_more (by omega), ih f' (k + 1) _ r (by omega) (.inr (by omega))]
    have h1 : (((n % 128 + 128 : Nat) : Int) % 128) = (n : Int) % 128 := by omega
    have h2 : (n : Int) = (n : Int) % 128 + ((n / 128 : Nat) : Int) * 128 := by omega
    have h3 : acc + (n : Int) % 128 * 128 ^ k + ((n / 128 : Nat) : Int) * 128 ^ (k + 1) = acc + (n : Int) * 128 ^ k := by
      have hp : (128 : Int) ^ (k + 1) = 128 * 128 ^ k := by rw [Int.pow_succ, Int.mul_comm]
      conv => rhs; rw [h2, Int.add_mul, Int.mul_assoc]
      rw [hp, Int.add_assoc]
    rw [h1, h3, List.length_cons]
    refine Prod.ext rfl (Prod.ext ?_ rfl)
    show k + 1 + (putN (n / 128)).length = k + ((putN (n / 128)).length + 1)
    omega

theorem getR_cut (n : Nat) : ∀ (f k : Nat) (acc : Int), (putN n).length ≤ f → getR f k acc (putN n).dropLast = (0, 0, 1) := by
  induction n using putN.induct with
  | case1 n h =>
    intro f k acc hf
    rw [putN_lt h] at hf ⊢
    simp only [List.length_cons, List.length_nil] at hf
    obtain ⟨f', rfl⟩ : ∃ f', f = f' + 1 := ⟨f - 1, by omega⟩
    rfl
  | case2 n h ih =>
    intro f k acc hf
    rw [putN_ge (by omega)] at hf ⊢
    simp only [List.length_cons] at hf
    obtain ⟨f', rfl⟩ : ∃ f', f = f' + 1 := ⟨f - 1, by omega⟩
    have hne : putN (n / 128) ≠ [] := by
      have := put_pos (n / 128)
      intro e
      rw [e] at this
      simp at this
    rw [List.dropLast_cons_of_ne_nil hne, getR_more (by omega)]
    exact ih f' (k + 1) _ (by omega)

/-- Of a number's bytes behind others. -/
theorem gotN_put (pre : List Int) (n : Nat) (r : List Int) (h : n < 9223372036854775808) : gotN (pre ++ putN n ++ r) pre.length = ((n : Int), (putN n).length, 0) := by
  have hl := putN_len 8 n (by omega)
  unfold gotN
  rw [List.append_assoc, List.drop_left, getR_put n 9 0 0 r hl (.inl rfl)]
  simp
theorem gotN_cut (n : Nat) (h : n < 9223372036854775808) : gotN ((putN n).take ((putN n).length - 1)) 0 = (0, 0, 1) := by
  have hl := putN_len 8 n (by omega)
  unfold gotN
  rw [List.drop_zero, ← List.dropLast_eq_take]
  exact getR_cut n 9 0 0 hl

theorem Rd.take {w : Go.World} {ao : Option Go.Addr} {n cap : Nat} {xs : List Int} (h : Rd w (.slice ao n cap) xs) (m : Nat) (hm : m ≤ xs.length) : Rd w (.slice ao m cap) (xs.take m) := by
  obtain ⟨ao', cap', e, h1, h2, h3, h4⟩ := h
  simp only [Go.Value.slice.injEq] at e
  obtain ⟨rfl, rfl, rfl⟩ := e
  have hl : (xs.take m).length = m := by simp; omega
  refine ⟨ao, cap, by rw [hl], by omega, h2, fun x hx => h3 x (List.mem_of_mem_take hx), fun hp => ?_⟩
  obtain ⟨b, off, rfl, hc⟩ := h4 (by omega)
  refine ⟨b, off, rfl, fun i hi => ?_⟩
  rw [hc i (by omega)]
  have hi' : i < m := by omega
  simp [List.getD_eq_getElem?_getD, hi']
end Go.Proofs.Ytipcdioolafkpaa.back

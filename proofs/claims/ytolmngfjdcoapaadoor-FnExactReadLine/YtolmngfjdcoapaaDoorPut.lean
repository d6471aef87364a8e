/- Contracts of the functions that write a number's bytes: for every number from 0 on, its pieces of seven bits. -/
import Derived.Test.YtolmngfjdcoapaaDoorBytes
namespace Go.Proofs.YtolmngfjdcoapaaDoor.put
open Go.ChangeShapes Go.WideShapes Go.ChangeAt Go.RowKit
open Go.Proofs.YtolmngfjdcoapaaDoor.bytes
set_option linter.unusedVariables false

/-- A number's bytes. -/
def putN (n : Nat) : List Int := if n < 128 then [(n : Int)] else ((n % 128 + 128 : Nat) : Int) :: putN (n / 128)
termination_by n
decreasing_by omega

theorem putN_lt {n : Nat} (h : n < 128) : putN n = [(n : Int)] := by rw [putN, if_pos h]
theorem putN_ge {n : Nat} (h : 128 ≤ n) : putN n = ((n % 128 + 128 : Nat) : Int) :: putN (n / 128) := by rw [putN, if_neg (by omega)]
theorem putN_len (k : Nat) : ∀ n, n < 128 ^ (k + 1) → (putN n).length ≤ k + 1 := by
  induction k with
  | zero => intro n h; rw [putN_lt (by omega)]; simp
  | succ k ih =>
    intro n h
    by_cases h1 : n < 128
    · rw [putN_lt h1]; simp
    · rw [putN_ge (by omega)]
      have := ih (n / 128) (Nat.div_lt_of_lt_mul (by rw [Nat.pow_succ, Nat.mul_comm] at h; exact h))
      simp; omega
theorem putN_bd (n : Nat) : ∀ x ∈ putN n, 0 ≤ x ∧ x ≤ 255 := by
  induction n using putN.induct with
  | case1 n h => rw [putN_lt h]; simp; omega
  | case2 n h ih => rw [putN_ge (by omega)]; simp only [List.mem_cons]; rintro x (rfl | hx); · omega
                    exact ih x hx

theorem i64_and127 (n : Int) : bits .and .i64 n 127 = n % 128 := by
  have h127 : (BitVec.ofInt 64 127).toNat = 2 ^ 7 - 1 := by decide
  have key : (BitVec.ofInt 64 n &&& BitVec.ofInt 64 127).toNat = (n % ((2 ^ 64 : Nat) : Int)).toNat % 2 ^ 7 := by
    rw [BitVec.toNat_and, BitVec.toNat_ofInt, h127, Nat.and_two_pow_sub_one_eq_mod]
  show IntKind.i64.wrap ((BitVec.ofInt 64 n &&& BitVec.ofInt 64 127).toNat : Nat) = n % 128
  rw [key, IntKind.wrap_i64]
  omega

theorem i64_or128 (n : Int) : bits .or .i64 (n % 128) 128 = n % 128 + 128 := by
  obtain ⟨a, ha⟩ := Int.eq_ofNat_of_zero_le (show 0 ≤ n % 128 by omega)
  rw [ha]
  have hlt : a < 2 ^ 7 := by omega
  have key : (BitVec.ofInt 64 (a : Int) ||| BitVec.ofInt 64 128).toNat = a + 128 := by
    have h1 : (BitVec.ofInt 64 (a : Int)).toNat = a := by rw [BitVec.toNat_ofInt]; omega
    have h2 : (BitVec.ofInt 64 128).toNat = 128 := by decide
    rw [BitVec.toNat_or, h1, h2, Nat.or_comm, show (128 : Nat) = 2 ^ 7 * 1 from rfl, ← Nat.two_pow_add_eq_or_of_lt hlt]
    omega
  show IntKind.i64.wrap ((BitVec.ofInt 64 (a : Int) ||| BitVec.ofInt 64 128).toNat : Nat) = _
  rw [key, IntKind.wrap_i64]
  omega

theorem put_len {n m : Nat} {pre : List Int} (hn : n ≤ 2 ^ 63 - 1) (h : pre ++ putN m = putN n) : pre.length < 10 := by
  have h1 := putN_len 9 n (by omega)
  rw [← h] at h1
  have h2 : 0 < (putN m).length := by
    by_cases h : m < 128
    · rw [putN_lt h]; simp
    · rw [putN_ge (by omega)]; simp
  simp at h1; omega

/-- One byte more behind what is owned. -/
theorem own_snoc {w w' : World} {base : Nat} {v' : Value} {pre : List Int} {x : Int} (hpre : ∀ y ∈ pre, 0 ≤ y ∧ y ≤ 255) (hx : 0 ≤ x ∧ x ≤ 255)
    (h : w'.ownsRow base 5 1 v' (pre.length + 1) (pre.map (Value.int .u8) ++ [.int .u8 x])) : Own w' base v' (pre ++ [x]) := by
  refine ⟨?_, by simpa using h⟩
  intro y hy
  simp only [List.mem_append, List.mem_singleton] at hy
  rcases hy with hy | rfl
  · exact hpre y hy
  · exact hx

theorem below_snoc {w wr w1 : World} {o : Obj} {row : Option Nat} (hb : Below w.heap.size w wr) (hg : (wr.alloc o).grownBy w1 row) (hr : ∀ k, row = some k → w.heap.size ≤ k) : Below w.heap.size w w1 :=
  (hb.alloc hb.size o).grown hg (by have := hb.size; simp; omega) hr

set_option maxHeartbeats 400000 in
theorem numberBytes_own (n : Nat) (w : World) (hn : n ≤ maxLen) :
    Calls Tryd.prog 54 #[.int .i64 n] w fun e w' => ∃ v, e = .returned v ∧ Own w' w.heap.size v (putN n) ∧ Below w.heap.size w w' := by
  unfold maxLen at hn
  obtain ⟨i0, hi, hz0, hz1, hz2⟩ := info_parts info5
  have HI : Hid (Tryd.prog.info? 5 = some i0 ∧ i0.zero = some (.int .u8 0) ∧ i0.size = 1 ∧ i0.bytes = 1) := ⟨hi, hz0, hz1, hz2⟩
  clear hi hz0 hz1 hz2
  go_enter Tryd.func54, Tryd.ntmps54
  go_wp2
  go_loopw [0, 3] (fun n' v wr => ∃ (m : Nat) (pre : List Int), m ≤ n ∧ n' = .int .i64 m ∧ Hid (pre ++ putN m = putN n ∧ Own wr w.heap.size v pre ∧ Below w.heap.size w wr)) (fun n' _ _ => (intOf n').toNat)
  case atStart => exact ⟨n, [], by omega, rfl, hide ⟨by simp, ⟨by simp, World.ownsRow_nil _ _ _ _⟩, Below.refl _ _⟩⟩
  case round =>
    obtain ⟨m, pre, hm, rfl, HR⟩ := hrel
    have hpl := put_len hn HR.out.1
    have hsz := HR.out.2.2.size
    by_cases hlt : (128 : Int) ≤ m
    · have hb := i64_and127 (m : Int)
      have ho := i64_or128 (m : Int)
      go_wp2_with (at_builtin; refine wpList_append_own _ rfl _ _ 22 rfl w.heap.size 5 i0 (.int .u8 0) 1 1 Tryd.underlying22 HI.out.1 HI.out.2.1 HI.out.2.2.1 HI.out.2.2.2 rfl (by decide) _ _ _ rfl (HR.out.2.1.2.alloc _) ⟨wr.heap.size, 0, none⟩ 1 1 [.int .u8 ((m : Int) % 128 + 128)] rfl rfl (cell_one_new _ _ _) ?c2 ?c3 ?c4 ?c5 ?_)
      case c2 => intro u hu; simp at hu; subst hu; rfl
      case c3 => unfold maxLen; omega
      case c4 => omega
      case c5 => first | omega | (simp; omega)
      intro v' w1 hown' hgrow _
      have HS : Hid ((pre ++ [(m : Int) % 128 + 128]) ++ putN (m / 128) = putN n ∧ Own w1 w.heap.size v' (pre ++ [(m : Int) % 128 + 128]) ∧ Below w.heap.size w w1) := by
        refine hide ⟨?_, own_snoc (w := wr) HR.out.2.1.1 (by omega) hown', below_snoc HR.out.2.2 hgrow (fun k hk => (HR.out.2.1.lt k hk).1)⟩
        rw [← HR.out.1, putN_ge (n := m) (by omega)]
        simp
      clear hown' hgrow HR HI hb ho
      go_wp2
      go_roundw
      case rel => exact ⟨m / 128, _, by omega, by go_num, HS⟩
      case measure => simp [intOf]; omega
    · go_wp2_with (at_builtin; refine wpList_append_own _ rfl _ _ 22 rfl w.heap.size 5 i0 (.int .u8 0) 1 1 Tryd.underlying22 HI.out.1 HI.out.2.1 HI.out.2.2.1 HI.out.2.2.2 rfl (by decide) _ _ _ rfl (HR.out.2.1.2.alloc _) ⟨wr.heap.size, 0, none⟩ 1 1 [.int .u8 (m : Int)] rfl rfl (cell_one_new _ _ _) ?d2 ?d3 ?d4 ?d5 ?_)
      case d2 => first | (intro u hu; simp at hu; subst hu; rfl) | rfl
      case d3 => unfold maxLen; omega
      case d4 => omega
      case d5 => first | omega | (simp; omega)
      intro v' w1 hown' hgrow _
      have HS : Hid (Own w1 w.heap.size v' (putN n) ∧ Below w.heap.size w w1) := by
        refine hide ⟨?_, below_snoc HR.out.2.2 hgrow (fun k hk => (HR.out.2.1.lt k hk).1)⟩
        rw [← HR.out.1, putN_lt (n := m) (by omega)]
        exact own_snoc (w := wr) HR.out.2.1.1 (by omega) hown'
      clear hown' hgrow HR HI
      go_wp2
      go_ret
      exact ⟨_, rfl, HS.out⟩
theorem u8_or128 (n : Int) : bits .or .u8 (n % 128) 128 = n % 128 + 128 := by
  obtain ⟨a, ha⟩ := Int.eq_ofNat_of_zero_le (show 0 ≤ n % 128 by omega)
  rw [ha]
  have hlt : a < 2 ^ 7 := by omega
  have key : (BitVec.ofInt 8 (a : Int) ||| BitVec.ofInt 8 128).toNat = a + 128 := by
    have h1 : (BitVec.ofInt 8 (a : Int)).toNat = a := by rw [BitVec.toNat_ofInt]; omega
    have h2 : (BitVec.ofInt 8 128).toNat = 128 := by decide
    rw [BitVec.toNat_or, h1, h2, Nat.or_comm, show (128 : Nat) = 2 ^ 7 * 1 from rfl, ← Nat.two_pow_add_eq_or_of_lt hlt]
    omega
  show IntKind.u8.wrap ((BitVec.ofInt 8 (a : Int) ||| BitVec.ofInt 8 128).toNat : Nat) = _
  rw [key]
  simp [IntKind.wrap, IntKind.bits, IntKind.signed]
  omega

set_option maxHeartbeats 400000 in
theorem l01Put_own (n : Nat) (w : World) (hn : n ≤ maxLen) :
    Calls Tryd.prog 24 #[.int .i64 n] w fun e w' => ∃ v, e = .returned v ∧ Own w' w.heap.size v (putN n) ∧ Below w.heap.size w w' := by
  unfold maxLen at hn
  obtain ⟨i0, hi, hz0, hz1, hz2⟩ := info_parts info5
  have HI : Hid (Tryd.prog.info? 5 = some i0 ∧ i0.zero = some (.int .u8 0) ∧ i0.size = 1 ∧ i0.bytes = 1) := ⟨hi, hz0, hz1, hz2⟩
  clear hi hz0 hz1 hz2
  go_enter Tryd.func24, Tryd.ntmps24
  go_wp2
  go_loopw [0, 3] (fun n' v wr => ∃ (m : Nat) (pre : List Int), m ≤ n ∧ n' = .int .i64 m ∧ Hid (pre ++ putN m = putN n ∧ Own wr w.heap.size v pre ∧ Below w.heap.size w wr)) (fun n' _ _ => (intOf n').toNat)
  case atStart => exact ⟨n, [], by omega, rfl, hide ⟨by simp, ⟨by simp, World.ownsRow_lit _ #[] 0 (Nat.le_refl _) (by simp [maxLen]) (by simp)⟩, (Below.refl _ _).alloc (Nat.le_refl _) _⟩⟩
  case round =>
    obtain ⟨m, pre, hm, rfl, HR⟩ := hrel
    have hpl := put_len hn HR.out.1
    have hsz := HR.out.2.2.size
    by_cases hlt : (128 : Int) ≤ m
    · have ho := u8_or128 (m : Int)
      go_wp2_with (at_builtin; refine wpList_append_own _ rfl _ _ 22 rfl w.heap.size 5 i0 (.int .u8 0) 1 1 Tryd.underlying22 HI.out.1 HI.out.2.1 HI.out.2.2.1 HI.out.2.2.2 rfl (by decide) _ _ _ rfl (HR.out.2.1.2.alloc _) ⟨wr.heap.size, 0, none⟩ 1 1 [.int .u8 ((m : Int) % 128 + 128)] rfl rfl (cell_one_new _ _ _) ?c2 ?c3 ?c4 ?c5 ?_)
      case c2 => intro u hu; simp at hu; subst hu; rfl
      case c3 => unfold maxLen; omega
      case c4 => omega
      case c5 => first | omega | (simp; omega)
      intro v' w1 hown' hgrow _
      have HS : Hid ((pre ++ [(m : Int) % 128 + 128]) ++ putN (m / 128) = putN n ∧ Own w1 w.heap.size v' (pre ++ [(m : Int) % 128 + 128]) ∧ Below w.heap.size w w1) := by
        refine hide ⟨?_, own_snoc (w := wr) HR.out.2.1.1 (by omega) hown', below_snoc HR.out.2.2 hgrow (fun k hk => (HR.out.2.1.lt k hk).1)⟩
        rw [← HR.out.1, putN_ge (n := m) (by omega)]
        simp
      clear hown' hgrow HR HI ho
      go_wp2
      go_roundw
      case rel => exact ⟨m / 128, _, by omega, by go_num, HS⟩
      case measure => simp [intOf]; omega
    · go_wp2_with (at_builtin; refine wpList_append_own _ rfl _ _ 22 rfl w.heap.size 5 i0 (.int .u8 0) 1 1 Tryd.underlying22 HI.out.1 HI.out.2.1 HI.out.2.2.1 HI.out.2.2.2 rfl (by decide) _ _ _ rfl (HR.out.2.1.2.alloc _) ⟨wr.heap.size, 0, none⟩ 1 1 [.int .u8 (m : Int)] rfl rfl (cell_one_new _ _ _) ?d2 ?d3 ?d4 ?d5 ?_)
      case d2 => first | (intro u hu; simp at hu; subst hu; rfl) | rfl
      case d3 => unfold maxLen; omega
      case d4 => omega
      case d5 => first | omega | (simp; omega)
      intro v' w1 hown' hgrow _
      have HS : Hid (Own w1 w.heap.size v' (putN n) ∧ Below w.heap.size w w1) := by
        refine hide ⟨?_, below_snoc HR.out.2.2 hgrow (fun k hk => (HR.out.2.1.lt k hk).1)⟩
        rw [← HR.out.1, putN_lt (n := m) (by omega)]
        exact own_snoc (w := wr) HR.out.2.1.1 (by omega) hown'
      clear hown' hgrow HR HI
      go_wp2
      go_ret
      exact ⟨_, rfl, HS.out⟩
end Go.Proofs.YtolmngfjdcoapaaDoor.put

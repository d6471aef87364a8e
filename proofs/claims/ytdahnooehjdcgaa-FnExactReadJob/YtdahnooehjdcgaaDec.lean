/- Contracts of the decoder's methods: how many bytes are left; a number off its bytes. -/
import Derived.Test.YtdahnooehjdcgaaGet
namespace Go.Proofs.Ytdahnooehjdcgaa.dec
open Go.ChangeShapes Go.WideShapes Go.ChangeAt Go.RowKit
open Go.Proofs.Ytdahnooehjdcgaa.bytes Go.Proofs.Ytdahnooehjdcgaa.get
set_option linter.unusedVariables false

set_option maxHeartbeats 400000 in
theorem left_any (w : World) (d : Nat) (ao : Option Addr) (n cap : Nat) (at_ : Int) (h0 : 0 ≤ at_) (hn : at_ ≤ n) (hm : n ≤ maxLen)
    (hd : w.cell? ⟨d, 0, none⟩ = some (.slice ao n cap)) (ha : w.cell? ⟨d, 1, none⟩ = some (.int .i64 at_)) :
    Calls Try.prog 38 #[.pointer (some ⟨d, 0, none⟩)] w fun e w' => e = .returned (.int .i64 (n - at_)) ∧ ∃ m, w' = w.drewN m := by
  unfold maxLen at hm
  go_enter Try.func38, Try.ntmps38
  go_wp2
  go_quiet (fail)
  go_wp2
  go_ret
  exact ⟨rfl, _, rfl⟩

theorem u8_and127 (n : Int) (h0 : 0 ≤ n) (h1 : n ≤ 255) : bits .and .u8 n 127 = n % 128 := by
  have h127 : (BitVec.ofInt 8 127).toNat = 2 ^ 7 - 1 := by decide
  have key : (BitVec.ofInt 8 n &&& BitVec.ofInt 8 127).toNat = (n % ((2 ^ 8 : Nat) : Int)).toNat % 2 ^ 7 := by
    rw [BitVec.toNat_and, BitVec.toNat_ofInt, h127, Nat.and_two_pow_sub_one_eq_mod]
  show IntKind.u8.wrap ((BitVec.ofInt 8 n &&& BitVec.ofInt 8 127).toNat : Nat) = n % 128
  rw [key]
  simp [IntKind.wrap, IntKind.bits, IntKind.signed]
  omega

theorem wrap_of {x : Int} (h0 : 0 ≤ x) (h1 : x ≤ 9223372036854775807) : wrap64 x = x := by
  unfold wrap64
  omega

/-- Seven bits more above a number that is below them. -/
theorem join_eq {k : Nat} {N c : Int} (hk : k < 9) (h0 : 0 ≤ N) (hN : N < 128 ^ k) (hc : 0 ≤ c ∧ c ≤ 255) :
    bits .or .i64 N (wrap64 (wrap64 (bits .and .u8 c 127) * 2 ^ (7 * k))) = N + c % 128 * 128 ^ k := by
  have hb := step_bd (c := c) hk h0 hN rfl
  rw [show min k 8 = k by omega] at hb
  have hp : (2 : Int) ^ (7 * k) = 128 ^ k := by rw [Int.pow_mul]; rfl
  rw [u8_and127 c hc.1 hc.2, wrap_of (x := c % 128) (by omega) (by omega), hp, wrap_of hb.1 (by omega)]
  obtain ⟨a, rfl⟩ := Int.eq_ofNat_of_zero_le h0
  obtain ⟨b, hb'⟩ := Int.eq_ofNat_of_zero_le (show 0 ≤ c % 128 by omega)
  rw [hb'] at hb ⊢
  have hbb : b < 128 := by omega
  have hpn : (128 : Int) ^ k = ((2 ^ (7 * k) : Nat) : Int) := by rw [← hp]; simp
  rw [hpn] at hb hN ⊢
  have hax : a < 2 ^ (7 * k) := by omega
  generalize hP : 2 ^ (7 * k) = P at hb hN hax ⊢
  have hmul : ((b : Int) * (P : Int)) = ((P * b : Nat) : Int) := by rw [Int.natCast_mul, Int.mul_comm]
  rw [hmul] at hb ⊢
  have key : (BitVec.ofInt 64 (a : Int) ||| BitVec.ofInt 64 ((P * b : Nat) : Int)).toNat = a + P * b := by
    have h1 : (BitVec.ofInt 64 (a : Int)).toNat = a := by rw [BitVec.toNat_ofInt]; omega
    have h2 : (BitVec.ofInt 64 ((P * b : Nat) : Int)).toNat = P * b := by rw [BitVec.toNat_ofInt]; omega
    rw [BitVec.toNat_or, h1, h2, Nat.or_comm, ← hP, ← Nat.two_pow_add_eq_or_of_lt (by omega)]
    omega
  show IntKind.i64.wrap ((BitVec.ofInt 64 (a : Int) ||| BitVec.ofInt 64 ((P * b : Nat) : Int)).toNat : Nat) = _
  rw [key, IntKind.wrap_i64]
  omega

set_option maxHeartbeats 800000 in
theorem number_any (w : World) (d : Nat) (ao : Option Addr) (cap at_ : Nat) (xs : List Int) (hat : at_ ≤ xs.length) (hl : xs.length ≤ 65536)
    (hb : Rd w (.slice ao xs.length cap) xs) (hd : w.cell? ⟨d, 0, none⟩ = some (.slice ao xs.length cap)) (ha : w.cell? ⟨d, 1, none⟩ = some (.int .i64 at_)) (hf : w.frozen? ⟨d, 1, none⟩ = false) :
    Calls Try.prog 37 #[.pointer (some ⟨d, 0, none⟩)] w fun e w' => e = .returned (.tuple #[.int .i64 (gotN xs at_).1, .int .i64 (gotN xs at_).2.2]) ∧
      ((gotN xs at_).2.2 = 0 → ∃ m, w' = (w.drewN m).setCell ⟨d, 1, none⟩ (.int .i64 (at_ + (gotN xs at_).2.1))) ∧ ((gotN xs at_).2.2 ≠ 0 → ∃ m, w' = w.drewN m) := by
  obtain ⟨ao', ca, e, ha1, ha2, hx, ha3⟩ := hb
  obtain ⟨rfl, _, rfl⟩ : ao' = ao ∧ True ∧ ca = cap := by simp at e; exact ⟨e.1.symm, trivial, e.2.symm⟩
  clear e
  unfold maxLen at ha2
  have hml : xs.length ≤ maxLen := by unfold maxLen; omega
  go_enter Try.func37, Try.ntmps37
  go_wp2
  go_loopw [4, 7] (fun n i wr => ∃ (k m : Nat) (N : Int), k ≤ 9 ∧ at_ + k ≤ xs.length ∧ i = .int .i64 k ∧ n = .int .i64 N ∧ 0 ≤ N ∧ wr = w.drewN m ∧ Hid ((N : Int) < 128 ^ k ∧ gotN xs at_ = getR (9 - k) k N (xs.drop (at_ + k)))) (fun _ i _ => 9 - (intOf i).toNat)
  case atStart => exact ⟨0, 0, 0, by omega, by omega, rfl, rfl, by omega, rfl, hide ⟨by simp, by simp [gotN]⟩⟩
  case round =>
    obtain ⟨k, m, N, hk, hka, rfl, rfl, hN, rfl, HR⟩ := hrel
    by_cases hk9 : k < 9
    · by_cases hlt : at_ + k < xs.length
      · obtain ⟨ab, aoff, rfl, hca⟩ := ha3 (by omega)
        have hc := hca (at_ + k) hlt
        have hcb := getD_bd hx (at_ + k)
        have hdrop := drop_at hlt
        generalize xs.getD (at_ + k) 0 = c at hc hcb hdrop
        have HD : Hid (xs.drop (at_ + k) = c :: xs.drop (at_ + k + 1)) := hdrop
        clear hdrop hca ha3
        have hne : (((xs.length : Nat) : Int) - at_ == k) = false := beq_eq_false_iff_ne.2 (by omega)
        have HJ : Hid (bits .or .i64 N (wrap64 (wrap64 (bits .and .u8 c 127) * 2 ^ (7 * k))) = N + c % 128 * 128 ^ k ∧ 0 ≤ N + c % 128 * 128 ^ k ∧ N + c % 128 * 128 ^ k < 128 ^ (k + 1)) := by
          have h1 := step_bd (c := c) hk9 hN HR.out.1 rfl
          rw [show min k 8 = k by omega] at h1
          exact hide ⟨join_eq hk9 hN HR.out.1 hcb, by omega, h1.2.2.2.2.1⟩
        by_cases h128 : 128 ≤ c
        · have HG : Hid (gotN xs at_ = getR (9 - (k + 1)) (k + 1) (N + c % 128 * 128 ^ k) (xs.drop (at_ + (k + 1)))) := by
            have h1 := HR.out.2
            rw [HD.out, show 9 - k = (9 - (k + 1)) + 1 by omega, getR_more h128] at h1
            exact hide h1
          go_wp2_with (go_at_call 38; refine (left_any _ _ _ _ _ at_ (by omega) (by omega) hml (by exact hd) (by exact ha)).mono ?_; rintro e w' ⟨rfl, m1, rfl⟩)
          go_quiet (fail)
          go_wp2
          go_roundw
          case rel => exact ⟨k + 1, _, _, by omega, by omega, by go_num, by rw [HJ.out.1], HJ.out.2.1, rfl, hide ⟨HJ.out.2.2, HG.out⟩⟩
          case measure => simp [intOf]; omega
        · by_cases hz : 0 < k ∧ c = 0
          · obtain ⟨hk0, hz⟩ := hz
            have HG : Hid (gotN xs at_ = (0, 0, 2)) := by
              have h1 := HR.out.2
              rw [HD.out, show 9 - k = (9 - (k + 1)) + 1 by omega, getR_zero hz hk0] at h1
              exact hide h1
            have hk0' : (0 : Int) < k := by omega
            subst hz
            go_wp2_with (go_at_call 38; refine (left_any _ _ _ _ _ at_ (by omega) (by omega) hml (by exact hd) (by exact ha)).mono ?_; rintro e w' ⟨rfl, m1, rfl⟩)
            go_quiet (fail)
            go_wp2
            go_ret2
            rw [HG.out]
            exact ⟨rfl, fun h => absurd h (by decide), fun _ => ⟨_, rfl⟩⟩
          · have HG : Hid (gotN xs at_ = (N + c % 128 * 128 ^ k, k + 1, 0)) := by
              have h1 := HR.out.2
              rw [HD.out, show 9 - k = (9 - (k + 1)) + 1 by omega, getR_last (by omega) hz] at h1
              exact hide h1
            rcases Bool.eq_false_or_eq_true (c == 0) with hcz | hcz
            · have hk0 : ¬ (0 : Int) < k := by simp at hcz; omega
              go_wp2_with (go_at_call 38; refine (left_any _ _ _ _ _ at_ (by omega) (by omega) hml (by exact hd) (by exact ha)).mono ?_; rintro e w' ⟨rfl, m1, rfl⟩)
              go_quiet (fail)
              go_wp2
              go_ret2
              rw [HG.out]
              refine ⟨by rw [HJ.out.1]; rfl, fun _ => ⟨m + m1 + nq, ?_⟩, fun h => absurd rfl h⟩
              rfl
            · go_wp2_with (go_at_call 38; refine (left_any _ _ _ _ _ at_ (by omega) (by omega) hml (by exact hd) (by exact ha)).mono ?_; rintro e w' ⟨rfl, m1, rfl⟩)
              go_quiet (fail)
              go_wp2
              go_ret2
              rw [HG.out]
              refine ⟨by rw [HJ.out.1]; rfl, fun _ => ⟨m + m1 + nq, ?_⟩, fun h => absurd rfl h⟩
              rfl
      · have HG : Hid (gotN xs at_ = (0, 0, 1)) := by
          have h1 := HR.out.2
          rw [List.drop_eq_nil_of_le (by omega), show 9 - k = (9 - (k + 1)) + 1 by omega] at h1
          exact hide h1
        have hye : (((xs.length : Nat) : Int) - at_ == k) = true := beq_iff_eq.2 (by omega)
        go_wp2_with (go_at_call 38; refine (left_any _ _ _ _ _ at_ (by omega) (by omega) hml (by exact hd) (by exact ha)).mono ?_; rintro e w' ⟨rfl, m1, rfl⟩)
        go_ret2
        rw [HG.out]
        exact ⟨rfl, fun h => absurd h (by decide), fun _ => ⟨_, rfl⟩⟩
    · have HG : Hid (gotN xs at_ = (0, 0, 2)) := by
        have h1 := HR.out.2
        rw [show 9 - k = 0 by omega] at h1
        exact hide h1
      go_wp2
      go_ret2
      rw [HG.out]
      exact ⟨rfl, fun h => absurd h (by decide), fun _ => ⟨_, rfl⟩⟩
end Go.Proofs.Ytdahnooehjdcgaa.dec

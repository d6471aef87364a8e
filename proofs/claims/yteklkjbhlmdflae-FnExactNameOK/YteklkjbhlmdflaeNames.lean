/- Contracts of the functions on names (letters, digits): what each returns, for every byte and every text. -/
import Derived.Test.YteklkjbhlmdflaeRows
import Derived.WalkKit
import Derived.ProofKit
import Derived.WalkSpells
import Derived.Below
import Derived.Deep.QuietTactic
import Derived.BigQuiet
import Derived.Outline
namespace Go.Proofs.Yteklkjbhlmdflae.names
open Go.ChangeShapes Go.WideShapes Go.ChangeAt Go.RowKit
set_option linter.unusedVariables false

theorem hide {p : Prop} (h : p) : Hid p := h
def letB (c : Int) : Bool := decide ((97 ≤ c ∧ c ≤ 122) ∨ (65 ≤ c ∧ c ≤ 90) ∨ c = 95)
def digB (c : Int) : Bool := decide (48 ≤ c ∧ c ≤ 57)
theorem ret_bool {a b : Bool} (h : a = b) : Ending.returned (.bool a) = .returned (.bool b) := by rw [h]
theorem digB_t {c : Int} (h1 : 48 ≤ c) (h2 : c ≤ 57) : true = digB c := by simp [digB, h1, h2]
theorem digB_f {c : Int} (h : c < 48 ∨ 57 < c) : false = digB c := by
  symm; simp only [digB, decide_eq_false_iff_not]; omega

set_option maxHeartbeats 400000 in
theorem isDigit_any (c : Int) (w : World) : Calls Try.prog 18 #[.int .u8 c] w fun e w' => e = .returned (.bool (digB c)) ∧ w' = w := by
  by_cases h1 : 48 ≤ c <;> by_cases h2 : c ≤ 57
  all_goals
    go_enter Try.func18, Try.ntmps18
    go_wp2
    go_ret
    first | exact ⟨ret_bool (digB_t (by omega) (by omega)), rfl⟩ | exact ⟨ret_bool (digB_f (by omega)), rfl⟩

set_option maxHeartbeats 400000 in
theorem isDigit2_any (c : Int) (w : World) : Calls Try.prog 24 #[.int .u8 c] w fun e w' => e = .returned (.bool (digB c)) ∧ w' = w := by
  by_cases h1 : 48 ≤ c <;> by_cases h2 : c ≤ 57
  all_goals
    go_enter Try.func24, Try.ntmps24
    go_wp2
    go_ret
    first | exact ⟨ret_bool (digB_t (by omega) (by omega)), rfl⟩ | exact ⟨ret_bool (digB_f (by omega)), rfl⟩

theorem letB_of {c : Int} {b : Bool} (h : b = true ↔ ((97 ≤ c ∧ c ≤ 122) ∨ (65 ≤ c ∧ c ≤ 90) ∨ c = 95)) : b = letB c := by
  rw [Bool.eq_iff_iff, h]; simp [letB]

theorem six (c : Int) : c < 65 ∨ (65 ≤ c ∧ c ≤ 90) ∨ (90 < c ∧ c < 95) ∨ c = 95 ∨ c = 96 ∨ (97 ≤ c ∧ c ≤ 122) ∨ 122 < c := by omega

set_option maxHeartbeats 400000 in
theorem isLetter_any (c : Int) (w : World) : Calls Try.prog 17 #[.int .u8 c] w fun e w' => e = .returned (.bool (letB c)) ∧ w' = w := by
  by_cases h1 : 97 ≤ c <;> by_cases h2 : c ≤ 122 <;> by_cases h3 : 65 ≤ c <;> by_cases h4 : c ≤ 90 <;> rcases Bool.eq_false_or_eq_true (c == 95) with h5 | h5
  all_goals first | (exfalso; simp at h5; omega; done) | skip
  all_goals
    go_enter Try.func17, Try.ntmps17
    go_wp2
    go_ret
    refine ⟨ret_bool (letB_of ?_), rfl⟩
    simp at h5 ⊢
    omega
set_option maxHeartbeats 400000 in
theorem isLetter2_any (c : Int) (w : World) : Calls Try.prog 23 #[.int .u8 c] w fun e w' => e = .returned (.bool (letB c)) ∧ w' = w := by
  by_cases h1 : 97 ≤ c <;> by_cases h2 : c ≤ 122 <;> by_cases h3 : 65 ≤ c <;> by_cases h4 : c ≤ 90 <;> rcases Bool.eq_false_or_eq_true (c == 95) with h5 | h5
  all_goals first | (exfalso; simp at h5; omega; done) | skip
  all_goals
    go_enter Try.func23, Try.ntmps23
    go_wp2
    go_ret
    refine ⟨ret_bool (letB_of ?_), rfl⟩
    simp at h5 ⊢
    omega

def byt (s : ByteArray) (k : Nat) : Int := if h : k < s.size then (s[k].toNat : Int) else 0
def nameB (s : ByteArray) : Bool := decide (1 ≤ s.size ∧ s.size ≤ 40 ∧ letB (byt s 0) = true ∧ ∀ j, j < s.size → 1 ≤ j → (letB (byt s j) || digB (byt s j)) = true)

theorem byt_at {s : ByteArray} {k : Nat} (h : k < s.size) : (s[k].toNat : Int) = byt s k := by simp [byt, h]
theorem nameB_f {s : ByteArray} (h : s.size = 0 ∨ 40 < s.size) : false = nameB s := by
  symm; simp only [nameB, decide_eq_false_iff_not]; omega
theorem nameB_f0 {s : ByteArray} (h : letB (byt s 0) = false) : false = nameB s := by
  symm; simp [nameB, h]
theorem nameB_fj {s : ByteArray} (k : Nat) (hk : k < s.size) (h1 : 1 ≤ k) (h : letB (byt s k) = false) (h2 : digB (byt s k) = false) : false = nameB s := by
  symm; simp only [nameB, decide_eq_false_iff_not]
  rintro ⟨_, _, _, hh⟩
  have := hh k hk h1
  simp [h, h2] at this
theorem nameB_t {s : ByteArray} (h0 : 1 ≤ s.size) (h40 : s.size ≤ 40) (h : letB (byt s 0) = true) (hh : ∀ j, j < s.size → 1 ≤ j → (letB (byt s j) || digB (byt s j)) = true) : true = nameB s := by
  symm; simp only [nameB, decide_eq_true_eq]; exact ⟨h0, h40, h, hh⟩

set_option maxHeartbeats 400000 in
theorem nameOK_any (s : ByteArray) (w : World) (hs : s.size ≤ maxLen) : Calls Try.prog 7 #[.string s] w fun e w' => e = .returned (.bool (nameB s)) ∧ w' = w := by
  unfold maxLen at hs
  rcases Nat.eq_zero_or_pos s.size with h0 | h0
  · have hc : (((s.size : Nat) : Int) == 0) = true := by simp [h0]
    go_enter Try.func7, Try.ntmps7
    go_wp2
    go_ret
    exact ⟨ret_bool (nameB_f (by omega)), rfl⟩
  · by_cases h40 : 40 < s.size
    · have hc : (((s.size : Nat) : Int) == 0) = false := beq_eq_false_iff_ne.2 (by omega)
      have hc2 : (40 : Int) < s.size := by omega
      go_enter Try.func7, Try.ntmps7
      go_wp2
      go_ret
      exact ⟨ret_bool (nameB_f (by omega)), rfl⟩
    · have hc : (((s.size : Nat) : Int) == 0) = false := beq_eq_false_iff_ne.2 (by omega)
      have hc2 : ¬ (40 : Int) < s.size := by omega
      have hby := byt_at h0
      rcases Bool.eq_false_or_eq_true (letB (s[0].toNat : Int)) with hL | hL
      · have HL : Hid (letB (byt s 0) = true) := hide (by rw [← hby]; exact hL)
        clear hby
        go_enter Try.func7, Try.ntmps7
        go_wp2_with (go_at_call 17; refine (isLetter_any _ _).mono ?_; rintro e w' ⟨rfl, rfl⟩)
        clear hL
        go_loop [3] (fun i => ∃ k : Nat, 1 ≤ k ∧ k ≤ s.size ∧ i = .int .i64 k ∧ Hid (∀ j, j < k → 1 ≤ j → (letB (byt s j) || digB (byt s j)) = true)) (fun i => s.size - (intOf i).toNat)
        case atStart => exact ⟨1, by omega, by omega, rfl, hide (fun j h1 h2 => by omega)⟩
        case round =>
          obtain ⟨k, hk1, hk, rfl, HH⟩ := hrel
          by_cases hlt : k < s.size
          · have hbk := byt_at hlt
            rcases Bool.eq_false_or_eq_true (letB (s[k].toNat : Int)) with hL | hL
            · have HK : Hid ((letB (byt s k) || digB (byt s k)) = true) := hide (by rw [← hbk, hL]; rfl)
              clear hbk
              go_wp2_with (go_at_call 17; refine (isLetter_any _ _).mono ?_; rintro e w' ⟨rfl, rfl⟩)
              go_round
              case rel => exact ⟨k + 1, by omega, by omega, by go_num, hide (fun j h1 h2 => by
                by_cases e : j = k
                · rw [e]; exact HK.out
                · exact HH.out j (by omega) h2)⟩
              case measure => simp [intOf]; omega
            · rcases Bool.eq_false_or_eq_true (digB (s[k].toNat : Int)) with hD | hD
              · have HK : Hid ((letB (byt s k) || digB (byt s k)) = true) := hide (by rw [← hbk, hL, hD]; rfl)
                clear hbk
                go_wp2_with (first | (go_at_call 17; refine (isLetter_any _ _).mono ?_; rintro e w' ⟨rfl, rfl⟩) | (go_at_call 18; refine (isDigit_any _ _).mono ?_; rintro e w' ⟨rfl, rfl⟩))
                go_round
                case rel => exact ⟨k + 1, by omega, by omega, by go_num, hide (fun j h1 h2 => by
                  by_cases e : j = k
                  · rw [e]; exact HK.out
                  · exact HH.out j (by omega) h2)⟩
                case measure => simp [intOf]; omega
              · have HK : Hid (letB (byt s k) = false ∧ digB (byt s k) = false) := hide (by rw [← hbk]; exact ⟨hL, hD⟩)
                clear hbk
                go_wp2_with (first | (go_at_call 17; refine (isLetter_any _ _).mono ?_; rintro e w' ⟨rfl, rfl⟩) | (go_at_call 18; refine (isDigit_any _ _).mono ?_; rintro e w' ⟨rfl, rfl⟩))
                go_ret
                exact ⟨ret_bool (nameB_fj k hlt hk1 HK.out.1 HK.out.2), rfl⟩
          · go_wp2
            go_ret
            exact ⟨ret_bool (nameB_t (by omega) (by omega) HL.out (fun j h1 h2 => HH.out j (by omega) h2)), rfl⟩
      · have HL : Hid (letB (byt s 0) = false) := hide (by rw [← hby]; exact hL)
        clear hby
        go_enter Try.func7, Try.ntmps7
        go_wp2_with (go_at_call 17; refine (isLetter_any _ _).mono ?_; rintro e w' ⟨rfl, rfl⟩)
        go_ret
        exact ⟨ret_bool (nameB_f0 HL.out), rfl⟩

set_option maxHeartbeats 400000 in
theorem l00Word_any (s : ByteArray) (w : World) (hs : s.size ≤ maxLen) : Calls Try.prog 16 #[.string s] w fun e w' => e = .returned (.bool (nameB s)) ∧ w' = w := by
  unfold maxLen at hs
  rcases Nat.eq_zero_or_pos s.size with h0 | h0
  · have hc : ((s.size : Nat) : Int) < 1 := by omega
    go_enter Try.func16, Try.ntmps16
    go_wp2
    go_ret
    exact ⟨ret_bool (nameB_f (by omega)), rfl⟩
  · by_cases h40 : 40 < s.size
    · have hc : ¬ ((s.size : Nat) : Int) < 1 := by omega
      have hc2 : (40 : Int) < s.size := by omega
      go_enter Try.func16, Try.ntmps16
      go_wp2
      go_ret
      exact ⟨ret_bool (nameB_f (by omega)), rfl⟩
    · have hc : ¬ ((s.size : Nat) : Int) < 1 := by omega
      have hc2 : ¬ (40 : Int) < s.size := by omega
      have hby := byt_at h0
      rcases Bool.eq_false_or_eq_true (letB (s[0].toNat : Int)) with hL | hL
      · have HL : Hid (letB (byt s 0) = true) := hide (by rw [← hby]; exact hL)
        clear hby
        go_enter Try.func16, Try.ntmps16
        go_wp2_with (go_at_call 23; refine (isLetter2_any _ _).mono ?_; rintro e w' ⟨rfl, rfl⟩)
        clear hL
        go_loop [3] (fun i => ∃ k : Nat, 1 ≤ k ∧ k ≤ s.size ∧ i = .int .i64 k ∧ Hid (∀ j, j < k → 1 ≤ j → (letB (byt s j) || digB (byt s j)) = true)) (fun i => s.size - (intOf i).toNat)
        case atStart => exact ⟨1, by omega, by omega, rfl, hide (fun j h1 h2 => by omega)⟩
        case round =>
          obtain ⟨k, hk1, hk, rfl, HH⟩ := hrel
          by_cases hlt : k < s.size
          · have hbk := byt_at hlt
            rcases Bool.eq_false_or_eq_true (letB (s[k].toNat : Int)) with hL | hL
            · have HK : Hid ((letB (byt s k) || digB (byt s k)) = true) := hide (by rw [← hbk, hL]; rfl)
              clear hbk
              go_wp2_with (go_at_call 23; refine (isLetter2_any _ _).mono ?_; rintro e w' ⟨rfl, rfl⟩)
              go_round
              case rel => exact ⟨k + 1, by omega, by omega, by go_num, hide (fun j h1 h2 => by
                by_cases e : j = k
                · rw [e]; exact HK.out
                · exact HH.out j (by omega) h2)⟩
              case measure => simp [intOf]; omega
            · rcases Bool.eq_false_or_eq_true (digB (s[k].toNat : Int)) with hD | hD
              · have HK : Hid ((letB (byt s k) || digB (byt s k)) = true) := hide (by rw [← hbk, hL, hD]; rfl)
                clear hbk
                go_wp2_with (first | (go_at_call 23; refine (isLetter2_any _ _).mono ?_; rintro e w' ⟨rfl, rfl⟩) | (go_at_call 24; refine (isDigit2_any _ _).mono ?_; rintro e w' ⟨rfl, rfl⟩))
                go_round
                case rel => exact ⟨k + 1, by omega, by omega, by go_num, hide (fun j h1 h2 => by
                  by_cases e : j = k
                  · rw [e]; exact HK.out
                  · exact HH.out j (by omega) h2)⟩
                case measure => simp [intOf]; omega
              · have HK : Hid (letB (byt s k) = false ∧ digB (byt s k) = false) := hide (by rw [← hbk]; exact ⟨hL, hD⟩)
                clear hbk
                go_wp2_with (first | (go_at_call 23; refine (isLetter2_any _ _).mono ?_; rintro e w' ⟨rfl, rfl⟩) | (go_at_call 24; refine (isDigit2_any _ _).mono ?_; rintro e w' ⟨rfl, rfl⟩))
                go_ret
                exact ⟨ret_bool (nameB_fj k hlt hk1 HK.out.1 HK.out.2), rfl⟩
          · go_wp2
            go_ret
            exact ⟨ret_bool (nameB_t (by omega) (by omega) HL.out (fun j h1 h2 => HH.out j (by omega) h2)), rfl⟩
      · have HL : Hid (letB (byt s 0) = false) := hide (by rw [← hby]; exact hL)
        clear hby
        go_enter Try.func16, Try.ntmps16
        go_wp2_with (go_at_call 23; refine (isLetter2_any _ _).mono ?_; rintro e w' ⟨rfl, rfl⟩)
        go_ret
        exact ⟨ret_bool (nameB_f0 HL.out), rfl⟩

set_option maxHeartbeats 400000 in
theorem specNameOK_any (s : ByteArray) (w : World) (hs : s.size ≤ maxLen) : Calls Try.prog 6 #[.string s] w fun e w' => e = .returned (.bool (nameB s)) ∧ w' = w := by
  go_enter Try.func6, Try.ntmps6
  go_wp2_with (go_at_call 16; refine (l00Word_any _ _ hs).mono ?_; rintro e w' ⟨rfl, rfl⟩)
  go_ret
  exact ⟨rfl, rfl⟩
end Go.Proofs.Yteklkjbhlmdflae.names

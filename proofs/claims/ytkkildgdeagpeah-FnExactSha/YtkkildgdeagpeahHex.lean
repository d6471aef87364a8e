/- Eight digits of a word, as the specification writes them. -/
import Derived.Test.YtkkildgdeagpeahKeys
import Derived.Test.YtkkildgdeagpeahTurn
namespace Go.Proofs.Ytkkildgdeagpeah.hex
open Go.ChangeShapes Go.WideShapes Go.ChangeAt Go.RowKit
open Go.Proofs.Ytkkildgdeagpeah.bytes Go.Proofs.Ytkkildgdeagpeah.rot Go.Proofs.Ytkkildgdeagpeah.keys Go.Proofs.Ytkkildgdeagpeah.turn
set_option linter.unusedVariables false

/-- The first j of a word's eight digits. -/
def hx (n : Nat) (j : Nat) : List Int := (List.range j).map fun i => ((hexC (n / 2 ^ (28 - 4 * i) % 16) : Nat) : Int)
theorem hx_succ (n j : Nat) : hx n (j + 1) = hx n j ++ [((hexC (n / 2 ^ (28 - 4 * j) % 16) : Nat) : Int)] := by
  unfold hx
  rw [List.range_succ, List.map_append]
  rfl
theorem str_app (xs ys : List Int) : strOfNums xs ++ strOfNums ys = strOfNums (xs ++ ys) := by
  unfold strOfNums
  apply ByteArray.ext
  simp
theorem and15 (n : Nat) (hn : n < 4294967296) (p : Nat) : bits .and .i64 ((n : Int) / (p : Int)) 15 = ((n / p % 16 : Nat) : Int) := by
  have h1 : n / p < 4294967296 := Nat.lt_of_le_of_lt (Nat.div_le_self _ _) hn
  rw [← Int.natCast_ediv]
  have h := turn.i64_and (n / p) 15 (by omega) (by decide)
  rw [show (15 : Nat) = 2 ^ 4 - 1 by decide, Nat.and_two_pow_sub_one_eq_mod] at h
  exact h
theorem hex_geti (n : Nat) (h : n < 16) (W : World) : (Instr.index 9 (.string ⟨#[48, 49, 50, 51, 52, 53, 54, 55, 56, 57, 97, 98, 99, 100, 101, 102]⟩) (.int .i64 (n : Int))).run Try.prog W = .ok (.int .u8 (hexC n : Nat)) W := by
  rcases (show n = 0 ∨ n = 1 ∨ n = 2 ∨ n = 3 ∨ n = 4 ∨ n = 5 ∨ n = 6 ∨ n = 7 ∨ n = 8 ∨ n = 9 ∨ n = 10 ∨ n = 11 ∨ n = 12 ∨ n = 13 ∨ n = 14 ∨ n = 15 by omega) with rfl | rfl | rfl | rfl | rfl | rfl | rfl | rfl | rfl | rfl | rfl | rfl | rfl | rfl | rfl | rfl <;> kernel_rfl
theorem hex_conv (n : Nat) (h : n < 16) (W : World) : (convert 5 9 (.int .u8 (hexC n : Nat))).run Try.prog W = .ok (.string (strOfNums [((hexC n : Nat) : Int)])) W := by
  rcases (show n = 0 ∨ n = 1 ∨ n = 2 ∨ n = 3 ∨ n = 4 ∨ n = 5 ∨ n = 6 ∨ n = 7 ∨ n = 8 ∨ n = 9 ∨ n = 10 ∨ n = 11 ∨ n = 12 ∨ n = 13 ∨ n = 14 ∨ n = 15 by omega) with rfl | rfl | rfl | rfl | rfl | rfl | rfl | rfl | rfl | rfl | rfl | rfl | rfl | rfl | rfl | rfl <;> kernel_rfl

set_option maxRecDepth 20000 in
set_option maxHeartbeats 8000000 in
theorem hex_any (w : World) (n : Nat) (hn : n < 4294967296) :
    Calls Try.prog 47 #[.int .i64 n] w fun e w' => e = .returned (.string (strOfNums (hx n 8))) ∧ w' = w := by
  go_enter Try.func47, Try.ntmps47
  go_wp2
  go_loop [3, 4] (fun s k => ∃ j : Nat, j ≤ 8 ∧ k = .int .i64 (28 - 4 * (j : Int)) ∧ s = .string (strOfNums (hx n j))) (fun _ k => (intOf k + 4).toNat)
  case atStart => exact ⟨0, by omega, rfl, rfl⟩
  case round =>
    obtain ⟨j, hj, rfl, rfl⟩ := hrel
    rcases (show j = 0 ∨ j = 1 ∨ j = 2 ∨ j = 3 ∨ j = 4 ∨ j = 5 ∨ j = 6 ∨ j = 7 ∨ j = 8 by omega) with rfl | rfl | rfl | rfl | rfl | rfl | rfl | rfl | rfl
    · have hd : n / 268435456 % 16 < 16 := Nat.mod_lt _ (by decide)
      have HX1 : Hid (hx n (0 + 1) = hx n 0 ++ [((hexC (n / 268435456 % 16) : Nat) : Int)]) := by
        have h := hx_succ n 0
        rw [show (2 : Nat) ^ (28 - 4 * 0) = 268435456 by decide] at h
        exact hide h
      have ha : bits .and .i64 ((n : Int) / 268435456) 15 = ((n / 268435456 % 16 : Nat) : Int) := and15 n hn 268435456
      generalize n / 268435456 % 16 = D at hd HX1 ha
      have hi := hex_geti D hd
      have hc := hex_conv D hd
      have HA := hide (str_app (hx n 0) [((hexC D : Nat) : Int)])
      have hs1 : (strOfNums (hx n 0)).size = 0 := by rw [strOfNums_size]; simp [hx]
      have hs2 : (strOfNums [((hexC D : Nat) : Int)]).size = 1 := by rw [strOfNums_size]; rfl
      generalize hx n 0 = xs0 at HX1 HA hs1 ⊢
      go_wp2
      go_round
      case rel => exact ⟨0 + 1, by omega, by go_num, by rw [HX1.out, ← HA.out]⟩
      case measure => simp [intOf]
    · have hd : n / 16777216 % 16 < 16 := Nat.mod_lt _ (by decide)
      have HX1 : Hid (hx n (1 + 1) = hx n 1 ++ [((hexC (n / 16777216 % 16) : Nat) : Int)]) := by
        have h := hx_succ n 1
        rw [show (2 : Nat) ^ (28 - 4 * 1) = 16777216 by decide] at h
        exact hide h
      have ha : bits .and .i64 ((n : Int) / 16777216) 15 = ((n / 16777216 % 16 : Nat) : Int) := and15 n hn 16777216
      generalize n / 16777216 % 16 = D at hd HX1 ha
      have hi := hex_geti D hd
      have hc := hex_conv D hd
      have HA := hide (str_app (hx n 1) [((hexC D : Nat) : Int)])
      have hs1 : (strOfNums (hx n 1)).size = 1 := by rw [strOfNums_size]; simp [hx]
      have hs2 : (strOfNums [((hexC D : Nat) : Int)]).size = 1 := by rw [strOfNums_size]; rfl
      generalize hx n 1 = xs0 at HX1 HA hs1 ⊢
      go_wp2
      go_round
      case rel => exact ⟨1 + 1, by omega, by go_num, by rw [HX1.out, ← HA.out]⟩
      case measure => simp [intOf]
    · have hd : n / 1048576 % 16 < 16 := Nat.mod_lt _ (by decide)
      have HX1 : Hid (hx n (2 + 1) = hx n 2 ++ [((hexC (n / 1048576 % 16) : Nat) : Int)]) := by
        have h := hx_succ n 2
        rw [show (2 : Nat) ^ (28 - 4 * 2) = 1048576 by decide] at h
        exact hide h
      have ha : bits .and .i64 ((n : Int) / 1048576) 15 = ((n / 1048576 % 16 : Nat) : Int) := and15 n hn 1048576
      generalize n / 1048576 % 16 = D at hd HX1 ha
      have hi := hex_geti D hd
      have hc := hex_conv D hd
      have HA := hide (str_app (hx n 2) [((hexC D : Nat) : Int)])
      have hs1 : (strOfNums (hx n 2)).size = 2 := by rw [strOfNums_size]; simp [hx]
      have hs2 : (strOfNums [((hexC D : Nat) : Int)]).size = 1 := by rw [strOfNums_size]; rfl
      generalize hx n 2 = xs0 at HX1 HA hs1 ⊢
      go_wp2
      go_round
      case rel => exact ⟨2 + 1, by omega, by go_num, by rw [HX1.out, ← HA.out]⟩
      case measure => simp [intOf]
    · have hd : n / 65536 % 16 < 16 := Nat.mod_lt _ (by decide)
      have HX1 : Hid (hx n (3 + 1) = hx n 3 ++ [((hexC (n / 65536 % 16) : Nat) : Int)]) := by
        have h := hx_succ n 3
        rw [show (2 : Nat) ^ (28 - 4 * 3) = 65536 by decide] at h
        exact hide h
      have ha : bits .and .i64 ((n : Int) / 65536) 15 = ((n / 65536 % 16 : Nat) : Int) := and15 n hn 65536
      generalize n / 65536 % 16 = D at hd HX1 ha
      have hi := hex_geti D hd
      have hc := hex_conv D hd
      have HA := hide (str_app (hx n 3) [((hexC D : Nat) : Int)])
      have hs1 : (strOfNums (hx n 3)).size = 3 := by rw [strOfNums_size]; simp [hx]
      have hs2 : (strOfNums [((hexC D : Nat) : Int)]).size = 1 := by rw [strOfNums_size]; rfl
      generalize hx n 3 = xs0 at HX1 HA hs1 ⊢
      go_wp2
      go_round
      case rel => exact ⟨3 + 1, by omega, by go_num, by rw [HX1.out, ← HA.out]⟩
      case measure => simp [intOf]
    · have hd : n / 4096 % 16 < 16 := Nat.mod_lt _ (by decide)
      have HX1 : Hid (hx n (4 + 1) = hx n 4 ++ [((hexC (n / 4096 % 16) : Nat) : Int)]) := by
        have h := hx_succ n 4
        rw [show (2 : Nat) ^ (28 - 4 * 4) = 4096 by decide] at h
        exact hide h
      have ha : bits .and .i64 ((n : Int) / 4096) 15 = ((n / 4096 % 16 : Nat) : Int) := and15 n hn 4096
      generalize n / 4096 % 16 = D at hd HX1 ha
      have hi := hex_geti D hd
      have hc := hex_conv D hd
      have HA := hide (str_app (hx n 4) [((hexC D : Nat) : Int)])
      have hs1 : (strOfNums (hx n 4)).size = 4 := by rw [strOfNums_size]; simp [hx]
      have hs2 : (strOfNums [((hexC D : Nat) : Int)]).size = 1 := by rw [strOfNums_size]; rfl
      generalize hx n 4 = xs0 at HX1 HA hs1 ⊢
      go_wp2
      go_round
      case rel => exact ⟨4 + 1, by omega, by go_num, by rw [HX1.out, ← HA.out]⟩
      case measure => simp [intOf]
    · have hd : n / 256 % 16 < 16 := Nat.mod_lt _ (by decide)
      have HX1 : Hid (hx n (5 + 1) = hx n 5 ++ [((hexC (n / 256 % 16) : Nat) : Int)]) := by
        have h := hx_succ n 5
        rw [show (2 : Nat) ^ (28 - 4 * 5) = 256 by decide] at h
        exact hide h
      have ha : bits .and .i64 ((n : Int) / 256) 15 = ((n / 256 % 16 : Nat) : Int) := and15 n hn 256
      generalize n / 256 % 16 = D at hd HX1 ha
      have hi := hex_geti D hd
      have hc := hex_conv D hd
      have HA := hide (str_app (hx n 5) [((hexC D : Nat) : Int)])
      have hs1 : (strOfNums (hx n 5)).size = 5 := by rw [strOfNums_size]; simp [hx]
      have hs2 : (strOfNums [((hexC D : Nat) : Int)]).size = 1 := by rw [strOfNums_size]; rfl
      generalize hx n 5 = xs0 at HX1 HA hs1 ⊢
      go_wp2
      go_round
      case rel => exact ⟨5 + 1, by omega, by go_num, by rw [HX1.out, ← HA.out]⟩
      case measure => simp [intOf]
    · have hd : n / 16 % 16 < 16 := Nat.mod_lt _ (by decide)
      have HX1 : Hid (hx n (6 + 1) = hx n 6 ++ [((hexC (n / 16 % 16) : Nat) : Int)]) := by
        have h := hx_succ n 6
        rw [show (2 : Nat) ^ (28 - 4 * 6) = 16 by decide] at h
        exact hide h
      have ha : bits .and .i64 ((n : Int) / 16) 15 = ((n / 16 % 16 : Nat) : Int) := and15 n hn 16
      generalize n / 16 % 16 = D at hd HX1 ha
      have hi := hex_geti D hd
      have hc := hex_conv D hd
      have HA := hide (str_app (hx n 6) [((hexC D : Nat) : Int)])
      have hs1 : (strOfNums (hx n 6)).size = 6 := by rw [strOfNums_size]; simp [hx]
      have hs2 : (strOfNums [((hexC D : Nat) : Int)]).size = 1 := by rw [strOfNums_size]; rfl
      generalize hx n 6 = xs0 at HX1 HA hs1 ⊢
      go_wp2
      go_round
      case rel => exact ⟨6 + 1, by omega, by go_num, by rw [HX1.out, ← HA.out]⟩
      case measure => simp [intOf]
    · have hd : n / 1 % 16 < 16 := Nat.mod_lt _ (by decide)
      have HX1 : Hid (hx n (7 + 1) = hx n 7 ++ [((hexC (n / 1 % 16) : Nat) : Int)]) := by
        have h := hx_succ n 7
        rw [show (2 : Nat) ^ (28 - 4 * 7) = 1 by decide] at h
        exact hide h
      have ha : bits .and .i64 ((n : Int)) 15 = ((n / 1 % 16 : Nat) : Int) := by have h := and15 n hn 1; rw [show ((1 : Nat) : Int) = 1 from rfl, Int.ediv_one] at h; exact h
      generalize n / 1 % 16 = D at hd HX1 ha
      have hi := hex_geti D hd
      have hc := hex_conv D hd
      have HA := hide (str_app (hx n 7) [((hexC D : Nat) : Int)])
      have hs1 : (strOfNums (hx n 7)).size = 7 := by rw [strOfNums_size]; simp [hx]
      have hs2 : (strOfNums [((hexC D : Nat) : Int)]).size = 1 := by rw [strOfNums_size]; rfl
      generalize hx n 7 = xs0 at HX1 HA hs1 ⊢
      go_wp2
      go_round
      case rel => exact ⟨7 + 1, by omega, by go_num, by rw [HX1.out, ← HA.out]⟩
      case measure => simp [intOf]
    · go_wp2
      go_ret
      exact ⟨rfl, rfl⟩
end Go.Proofs.Ytkkildgdeagpeah.hex

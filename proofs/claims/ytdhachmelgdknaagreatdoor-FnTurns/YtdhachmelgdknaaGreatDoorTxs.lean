/- Drawn texts of lines. -/
import Derived.Test.YtdhachmelgdknaaGreatDoorWds
import Derived.Test.YtdhachmelgdknaaGreatDoorSay
namespace Go.Proofs.YtdhachmelgdknaaGreatDoor.texts
open Go.ChangeShapes Go.WideShapes Go.ChangeAt Go.RowKit
open Go.Proofs.YtdhachmelgdknaaGreatDoor.bytes Go.Proofs.YtdhachmelgdknaaGreatDoor.pile Go.Proofs.YtdhachmelgdknaaGreatDoor.src Go.Proofs.YtdhachmelgdknaaGreatDoor.letters
set_option linter.unusedVariables false
theorem word_line (ys : List Int) (h : ∀ y ∈ ys, WordB y) : bas.NoNl (strOfNums ys) := by
  intro b hb
  have : ∃ y ∈ ys, b = UInt8.ofNat y.toNat := by
    unfold strOfNums at hb
    simpa [eq_comm] using hb
  obtain ⟨y, hy, rfl⟩ := this
  obtain ⟨h0, h1, h2⟩ := h y hy
  intro e
  have := congrArg UInt8.toNat e
  simp at this
  omega
/-- A text as it is drawn. -/
structure Tx (w : World) (d : Nat) (ao : Option Addr) (cap : Nat) (xs : List Int) (j : Nat) (T : ByteArray) (wr : World) : Prop where
  ex : ∃ ls : List ByteArray, T = bas.joinL ls ∧ ls.length + j ≤ 6 ∧ (∀ l ∈ ls, l.size ≤ 6 ∧ bas.NoNl l) ∧ T.size ≤ 7 * ls.length
  src : ∃ a sd, a + 100 * j ≤ 1000 ∧ SS wr d ao cap xs a sd
  bel : Below d w wr
set_option maxHeartbeats 2000000 in
theorem textsOf_any (w : World) (ao : Option Addr) (cap : Nat) (xs : List Int) (hl : xs.length ≤ 1048576) (h : RdA w (.slice ao xs.length cap) xs) :
    Calls Tryz.prog 5 #[.slice ao xs.length cap] w fun e w' => ∃ ls : List ByteArray, e = .returned (.string (bas.joinL ls)) ∧ ls.length ≤ 6 ∧ (∀ l ∈ ls, l.size ≤ 6 ∧ bas.NoNl l) ∧ Below w.heap.size w w' := by
  have HS := hide (source_any w ao cap xs hl h)
  clear h
  go_enter Tryz.func5, Tryz.ntmps5
  go_wp2_with fail
  refine HS.out.mono ?_
  rintro e w1 ⟨rfl, ⟨sd, S1⟩, B1⟩
  have HB1 := hide B1
  have HZ := hide (size_any w1 w.heap.size ao cap xs 0 sd S1 hl)
  have HS1 := hide S1
  clear HS S1 B1
  go_wp2_with fail
  refine HZ.out.mono ?_
  rintro e w2 ⟨n, rfl, hn1, hn5, hw⟩
  have hw := hw.symm
  subst hw
  clear HZ
  have HN := hide (next_any w1 w.heap.size ao cap xs 0 sd ((n : Int) + 2) (by omega) HS1.out (by omega))
  go_wp2_with fail
  refine HN.out.mono ?_
  rintro e w3 ⟨r, rfl, a, sd', r0, r1, ha, S3, K3⟩
  obtain ⟨i, rfl⟩ : ∃ i : Nat, r = (i : Int) := ⟨r.toNat, by omega⟩
  have hi : i ≤ 6 := by omega
  have hdl := S3.lt
  have H0 : Hid (Tx w w.heap.size ao cap xs i ⟨#[]⟩ w3) := by
    refine ⟨⟨[], rfl, by simpa using hi, by simp, Nat.zero_le _⟩, ⟨a, sd', by omega, S3⟩, ?_⟩
    exact kept_below HB1.out K3 HB1.out.size
  clear HN HS1 HB1 S3 K3 r0 r1
  go_wp2
  go_loopw [4, 5] (fun tv iv wr => ∃ (j : Nat) (T : ByteArray), j ≤ 6 ∧ iv = .int .i64 j ∧ tv = .string T ∧ T.size ≤ 1000 ∧ Hid (Tx w w.heap.size ao cap xs j T wr)) (fun _ iv _ => (intOf iv).toNat)
  case atStart => exact ⟨i, _, hi, rfl, rfl, by decide, H0⟩
  case round =>
    obtain ⟨j, T, hj, rfl, rfl, hTs, HT⟩ := hrel
    clear H0
    by_cases h0 : 0 < j
    · obtain ⟨a4, sd4, ha4, S4⟩ := HT.out.src
      have HWd := hide (words_any wr w.heap.size ao cap xs a4 sd4 S4 (by omega))
      clear S4
      go_wp2_with fail
      refine HWd.out.mono ?_
      rintro e w5 ⟨ys, rfl, hy6, hyW, ⟨a5, sd5, ha5, S5⟩, B5⟩
      have hs1 : (strOfNums ys).size ≤ 6 := by rw [strOfNums_size]; exact hy6
      have hs10 : (⟨#[10]⟩ : ByteArray).size = 1 := rfl
      obtain ⟨X, hX⟩ : ∃ X, strOfNums ys = X := ⟨_, rfl⟩
      have hXn : Hid (bas.NoNl X) := by rw [← hX]; exact word_line ys hyW
      rw [hX] at hs1 ⊢
      have HT2 : Hid (Tx w w.heap.size ao cap xs (j - 1) (T ++ (X ++ ⟨#[10]⟩)) w5 ∧ (T ++ (X ++ ⟨#[10]⟩)).size ≤ 1000) := by
        obtain ⟨ls, rfl, h1, h2, h3⟩ := HT.out.ex
        have hsz : (bas.joinL ls ++ (X ++ ⟨#[10]⟩)).size = (bas.joinL ls).size + (X.size + 1) := by simp only [ByteArray.size_append]; rfl
        refine ⟨⟨⟨ls ++ [X], ?_, by simp; omega, ?_, by rw [hsz]; simp; omega⟩, ⟨a5, sd5, by omega, S5⟩, HT.out.bel.trans B5⟩, by rw [hsz]; omega⟩
        · rw [run.join_snoc]
          apply bas.of_list
          simp [bas.nl]
        · intro l hl
          rcases List.mem_append.1 hl with hl | hl
          · exact h2 l hl
          · obtain rfl := List.mem_singleton.1 hl
            exact ⟨hs1, hXn.out⟩
      have hTX : (X ++ ⟨#[10]⟩ : ByteArray).size ≤ 7 := by simp only [ByteArray.size_append]; omega
      clear HWd S5 B5 HT hyW hX hXn
      go_wp2
      go_roundw
      case rel => exact ⟨j - 1, _, by omega, by congr 1; omega, rfl, HT2.out.2, HT2.out.1⟩
      case measure => simp [intOf]; omega
    · obtain rfl : j = 0 := by omega
      go_wp2
      go_ret
      obtain ⟨ls, rfl, h1, h2, h3⟩ := HT.out.ex
      exact ⟨ls, rfl, by omega, h2, HT.out.bel⟩
end Go.Proofs.YtdhachmelgdknaaGreatDoor.texts

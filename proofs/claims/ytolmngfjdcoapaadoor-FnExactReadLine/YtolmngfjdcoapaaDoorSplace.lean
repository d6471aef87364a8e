/- The place of a word in a list of words: the specification's side. -/
import Derived.Test.YtolmngfjdcoapaaDoorPhr
namespace Go.Proofs.YtolmngfjdcoapaaDoor.splace
open Go.ChangeShapes Go.WideShapes Go.ChangeAt Go.RowKit
open Go.Proofs.YtolmngfjdcoapaaDoor.bytes Go.Proofs.YtolmngfjdcoapaaDoor.pile Go.Proofs.YtolmngfjdcoapaaDoor.jhelp Go.Proofs.YtolmngfjdcoapaaDoor.num Go.Proofs.YtolmngfjdcoapaaDoor.phr
set_option linter.unusedVariables false
/-- Where x first stands, from k on. -/
def place (x : ByteArray) : Nat → List ByteArray → Int
  | _, [] => -1
  | k, a :: r => if a = x then k else place x (k + 1) r
theorem tolist_inj {a b : ByteArray} (h : a.toList = b.toList) : a = b := by
  rw [ByteArray.toList_eq, ByteArray.toList_eq] at h
  obtain ⟨⟨x⟩⟩ := a
  obtain ⟨⟨y⟩⟩ := b
  exact congrArg (fun l => (⟨⟨l⟩⟩ : ByteArray)) h
theorem place_at (x : ByteArray) (xs : List ByteArray) (k : Nat) (a : ByteArray) (h : xs[k]? = some a) (j : Nat) (hp : ∀ i b, i < k → xs[i]? = some b → b ≠ x) (he : a = x) : place x j xs = (j + k : Nat) := by
  induction xs generalizing k j with
  | nil => simp at h
  | cons b r ih =>
    cases k with
    | zero =>
      obtain rfl : b = a := by simpa using h
      rw [place, if_pos he]
      simp
    | succ k =>
      rw [place, if_neg (hp 0 b (by omega) (by simp)), ih k (by simpa using h) (j + 1) (fun i c hi hc => hp (i + 1) c (by omega) (by simpa using hc))]
      congr 1
      omega
theorem place_none (x : ByteArray) (xs : List ByteArray) (j : Nat) (hp : ∀ (i : Nat) (b : ByteArray), xs[i]? = some b → b ≠ x) : place x j xs = -1 := by
  induction xs generalizing j with
  | nil => rfl
  | cons b r ih => rw [place, if_neg (hp 0 b (by simp)), ih (j + 1) (fun i c hc => hp (i + 1) c (by simpa using hc))]
set_option maxHeartbeats 800000 in
theorem place_any (w : World) (x : ByteArray) (xs : List ByteArray) (b off cap : Nat) (hn : xs.length < 4294967296)
    (hc : ∀ k a, xs[k]? = some a → w.cell? ⟨b, off + k, none⟩ = some (.string a)) :
    Calls Tryd.prog 11 #[.slice (some ⟨b, off, none⟩) xs.length cap, .string x] w fun e w' => e = .returned (.int .i64 (place x 0 xs)) ∧ w' = w := by
  have HP : Hid (∀ (k : Nat) (a : ByteArray), xs[k]? = some a → (∀ i b, i < k → xs[i]? = some b → b ≠ x) → a = x → place x 0 xs = (k : Int)) := fun k a h1 h2 h3 => by rw [place_at x xs k a h1 0 h2 h3]; simp
  have HM : Hid ((∀ (i : Nat) (b : ByteArray), xs[i]? = some b → b ≠ x) → place x 0 xs = -1) := place_none x xs 0
  have HC : Hid (∀ k a, xs[k]? = some a → w.cell? ⟨b, off + k, none⟩ = some (.string a)) := hc
  clear hc
  go_enter Tryd.func11, Tryd.ntmps11
  go_wp2
  go_loop [5] (fun i => ∃ k : Nat, k ≤ xs.length ∧ i = .int .i64 k ∧ Hid (∀ i b, i < k → xs[i]? = some b → b ≠ x)) (fun i => xs.length - (intOf i).toNat)
  case atStart => exact ⟨0, by omega, rfl, hide (fun i b hi => absurd hi (by omega))⟩
  case round =>
    obtain ⟨k, hk, rfl, Hb⟩ := hrel
    by_cases hlt : k < xs.length
    · obtain ⟨a, ha⟩ : ∃ a, xs[k]? = some a := ⟨_, List.getElem?_eq_getElem hlt⟩
      have hcell := HC.out k a ha
      by_cases he : a = x
      · have hbq : (a.toList == x.toList) = true := by rw [he]; simp
        have HR : Hid (place x 0 xs = (k : Int)) := HP.out k a ha Hb.out he
        clear HP HM HC he ha
        go_wp2
        go_ret
        rw [HR.out]
        exact ⟨rfl, rfl⟩
      · have hbq : (a.toList == x.toList) = false := by rw [beq_eq_false_iff_ne]; exact fun e => he (tolist_inj e)
        have HB : Hid (∀ i b, i < k + 1 → xs[i]? = some b → b ≠ x) := fun i b hi hb => by
          by_cases e : i = k
          · subst e; rw [ha] at hb; exact fun h => he (by rw [← h]; exact Option.some.inj hb)
          · exact Hb.out i b (by omega) hb
        clear HP HM HC he ha
        go_wp2
        go_round
        case rel => exact ⟨k + 1, by omega, by go_num, HB⟩
        case measure => simp [intOf]; omega
    · have HR : Hid (place x 0 xs = -1) := HM.out fun i b hb => Hb.out i b (by have := (List.getElem?_eq_some_iff.1 hb).1; omega) hb
      clear HP HM HC
      go_wp2
      go_ret
      rw [HR.out]
      exact ⟨rfl, rfl⟩
end Go.Proofs.YtolmngfjdcoapaaDoor.splace

/- A frame one of whose payload's bytes was changed is found to have another sum: about lists alone. -/
import Derived.Test.YtipcdioolafkpaaDiffer
import Derived.Test.YtipcdioolafkpaaBack
import Derived.Test.YtipcdioolafkpaaMany
namespace Go.Proofs.Ytipcdioolafkpaa.changed
open Go.Proofs.Ytipcdioolafkpaa.bytes Go.Proofs.Ytipcdioolafkpaa.put Go.Proofs.Ytipcdioolafkpaa.get Go.Proofs.Ytipcdioolafkpaa.pile Go.Proofs.Ytipcdioolafkpaa.back Go.Proofs.Ytipcdioolafkpaa.crcs Go.Proofs.Ytipcdioolafkpaa.frames Go.Proofs.Ytipcdioolafkpaa.one Go.Proofs.Ytipcdioolafkpaa.many Go.Proofs.Ytipcdioolafkpaa.differ

theorem four_inj {a b : Nat} (ha : a < 4294967296) (hb : b < 4294967296) (h : four a = four b) : a = b := by
  simp only [four, List.cons.injEq, and_true] at h
  omega

/-- What stands ahead of a payload of so many bytes, and four bytes behind it. -/
theorem frameAt_of (ys : List Int) (s r : List Int) (hl : ys.length ≤ 4096) (hs : s.length = 4) :
    frameAt (putN ys.length ++ ys ++ s ++ r) = if four (crcN ys) = s then (-1, ys, (putN ys.length).length + (ys.length + 4)) else (8, [], 0) := by
  have hg : getR 9 0 0 (putN ys.length ++ ys ++ s ++ r) = ((ys.length : Int), (putN ys.length).length, 0) := by
    have := getR_put ys.length 9 0 0 (ys ++ s ++ r) (putN_len 8 _ (by omega)) (.inl rfl)
    simpa [List.append_assoc] using this
  have h1 : ((putN ys.length ++ ys ++ s ++ r).drop (putN ys.length).length).take ys.length = ys := by
    simp [List.append_assoc]
  have h2 : ((putN ys.length ++ ys ++ s ++ r).drop ((putN ys.length).length + ys.length)).take 4 = s := by
    rw [← List.length_append, List.append_assoc, List.drop_left, ← hs, List.take_left]
  unfold frameAt
  rw [hg]
  simp only [Int.toNat_natCast]
  rw [if_neg (by decide), if_neg (by decide), if_neg (by omega), if_neg (by simp [hs]), h1, h2]

theorem set_mid {P X S : List Int} {r : Nat} (y : Int) (h : r < X.length) : (P ++ X ++ S).set (P.length + r) y = P ++ X.set r y ++ S := by
  rw [List.append_assoc, List.set_append_right _ _ (by omega), show P.length + r - P.length = r by omega, List.set_append_left _ _ h, List.append_assoc]

theorem set_bd {xs : List Int} (h : ∀ x ∈ xs, 0 ≤ x ∧ x ≤ 255) {r : Nat} {y : Int} (hy : 0 ≤ y ∧ y ≤ 255) : ∀ x ∈ xs.set r y, 0 ≤ x ∧ x ≤ 255 := fun x hx => by
  rcases List.mem_or_eq_of_mem_set hx with hx | rfl
  · exact h x hx
  · exact hy

theorem crc_set {xs : List Int} (hx : ∀ x ∈ xs, 0 ≤ x ∧ x ≤ 255) {r : Nat} {y : Int} (hr : r < xs.length) (hy : 0 ≤ y ∧ y ≤ 255) (hne : xs.getD r 0 ≠ y) : crcN xs ≠ crcN (xs.set r y) := by
  refine crcN_ne hx (set_bd hx hy) (by simp) r hr ?_ (fun i hi => ?_)
  · simpa [List.getD_eq_getElem?_getD, hr] using hne
  · simp [List.getD_eq_getElem?_getD, Ne.symm hi]

theorem changed_found {xs : List Int} (hx : ∀ x ∈ xs, 0 ≤ x ∧ x ≤ 255) (hl : xs.length ≤ 4096) {r : Nat} {y : Int} (hr : r < xs.length) (hy : 0 ≤ y ∧ y ≤ 255) (hne : xs.getD r 0 ≠ y) :
    unfA ((frameN xs).set ((putN xs.length).length + r) y) = ([], 0, 8) := by
  have hF : (frameN xs).set ((putN xs.length).length + r) y = putN (xs.set r y).length ++ xs.set r y ++ four (crcN xs) ++ [] := by
    rw [frameN, set_mid y hr]
    simp
  have hfl := frameN_len (xs := xs) (by omega)
  have hlen : ((frameN xs).set ((putN xs.length).length + r) y).length ≤ 65536 := by
    have := putN_len 9 xs.length (by omega)
    simp [frameN, four]
    omega
  have hfr : frameAt ((frameN xs).set ((putN xs.length).length + r) y) = (8, [], 0) := by
    rw [hF, frameAt_of _ _ _ (by simp; omega) rfl, if_neg]
    intro e
    exact crc_set hx hr hy hne (four_inj (crcN_lt hx) (crcN_lt (set_bd hx hy)) e.symm)
  have hall : allF (((frameN xs).set ((putN xs.length).length + r) y).length + 1) ((frameN xs).set ((putN xs.length).length + r) y) = ([], 0, 8) := by
    rw [allF_end (by rw [hfr]; decide), hfr]
  rw [unfA, if_neg (by omega), hall]
  rfl
end Go.Proofs.Ytipcdioolafkpaa.changed

/- What a job's bytes are read as, as plain functions: by the program's reader, which goes on when it is wrong, and by the specification's, which stands still; they are alike. -/
import Derived.Test.YtdahnooehjdcgaaDec
import Derived.Test.YtdahnooehjdcgaaJHelp
import Derived.Laws.BytesString
import Derived.Laws.IdiomStrings
import Derived.Lib.BufferRead
namespace Go.Proofs.Ytdahnooehjdcgaa.read
open Go.ChangeShapes Go.WideShapes Go.ChangeAt Go.RowKit
open Go.Proofs.Ytdahnooehjdcgaa.bytes Go.Proofs.Ytdahnooehjdcgaa.pile Go.Proofs.Ytdahnooehjdcgaa.get Go.Proofs.Ytdahnooehjdcgaa.dec Go.Proofs.Ytdahnooehjdcgaa.jhelp
set_option linter.unusedVariables false

def strOf (ys : List Int) : ByteArray := ⟨(ys.map fun y => UInt8.ofNat y.toNat).toArray⟩
theorem strOf_size (ys : List Int) : (strOf ys).size = ys.length := by simp [strOf, ByteArray.size]

theorem run_str {w : World} {u : Value} {ys : List Int} (h : RdA w u ys) : (convert 25 9 u).run Try.prog w = .ok (.string (strOf ys)) w := by
  obtain ⟨⟨ao, cap, rfl, h1, h2, h3, h4⟩, hnil⟩ := h
  cases ao with
  | none =>
    have e := hnil _ _ rfl
    simp only [Value.slice.injEq, true_and] at e
    have hys : ys = [] := List.length_eq_zero_iff.1 e.1
    subst hys
    exact Lib.run_convert_nil_bytes w 25 9 5 cap Try.underlying25 Try.underlying5 Try.underlying9
  | some ad =>
    have hl : (ys.map fun y => UInt8.ofNat y.toNat).length = ys.length := by simp
    have := run_convert_bytes_back (P := Try.prog) w 25 9 5 ad cap (ys.map fun y => UInt8.ofNat y.toNat) Try.underlying25 Try.underlying5 Try.underlying9 (fun j hj => by
      rw [hl] at hj
      obtain ⟨b, off, e, hc⟩ := h4 (by omega)
      simp only [Option.some.injEq] at e
      subst e
      rw [add_at, hc j hj]
      have hb := h3 _ (List.getElem_mem hj)
      have hmod : (UInt8.ofNat (ys[j]).toNat).toNat = (ys[j]).toNat := by
        simp
        omega
      simp only [List.getElem_map, hmod, List.getD_eq_getElem?_getD, List.getElem?_eq_getElem hj, Option.getD_some]
      congr 2
      omega)
    rw [hl] at this
    exact this

/-- Where a number stands it is from 0 on, and its bytes are among those that are there; where none stands it is told as 0. -/
theorem getR_ok : ∀ (f k : Nat) (n : Int) (l : List Int), 0 ≤ n → (getR f k n l).2.2 = 0 → 0 ≤ (getR f k n l).1 ∧ k < (getR f k n l).2.1 ∧ (getR f k n l).2.1 ≤ k + l.length
  | 0, k, n, l, _, h => by simp [getR] at h
  | f + 1, k, n, [], _, h => by simp [getR] at h
  | f + 1, k, n, c :: r, hn, h => by
    have hm : 0 ≤ c % 128 * 128 ^ k := Int.mul_nonneg (by omega) (Int.pow_nonneg (by decide))
    by_cases h128 : 128 ≤ c
    · rw [getR_more h128] at h ⊢
      have := getR_ok f (k + 1) _ r (by omega) h
      simp only [List.length_cons]
      omega
    · by_cases hz : 0 < k ∧ c = 0
      · rw [getR_zero hz.2 hz.1] at h; simp at h
      · rw [getR_last (by omega) hz]
        simp only [List.length_cons]
        refine ⟨by omega, by omega, by omega⟩
theorem getR_bad : ∀ (f k : Nat) (n : Int) (l : List Int), (getR f k n l).2.2 ≠ 0 → (getR f k n l).1 = 0
  | 0, k, n, l, h => by simp [getR]
  | f + 1, k, n, [], h => by simp [getR]
  | f + 1, k, n, c :: r, h => by
    by_cases h128 : 128 ≤ c
    · rw [getR_more h128] at h ⊢; exact getR_bad f (k + 1) _ r h
    · by_cases hz : 0 < k ∧ c = 0
      · rw [getR_zero hz.2 hz.1]
      · rw [getR_last (by omega) hz] at h; simp at h
theorem gotN_ok {xs : List Int} {a : Nat} (ha : a ≤ xs.length) (h : (gotN xs a).2.2 = 0) : 0 ≤ (gotN xs a).1 ∧ a + (gotN xs a).2.1 ≤ xs.length := by
  have := getR_ok 9 0 0 (xs.drop a) (by omega) h
  unfold gotN
  simp only [List.length_drop] at this
  omega
theorem gotN_bad {xs : List Int} {a : Nat} (h : (gotN xs a).2.2 ≠ 0) : (gotN xs a).1 = 0 := getR_bad 9 0 0 (xs.drop a) h

/-- A number off the bytes, as the program reads it from place a on, being wrong (b) or not: the number, the place behind it, whether it is wrong now. -/
def vI (xs : List Int) (a : Nat) (b : Bool) : Int × Nat × Bool := if (gotN xs a).2.2 = 0 then ((gotN xs a).1, a + (gotN xs a).2.1, b) else (0, a, true)
theorem vI_yes {xs : List Int} {a : Nat} {b : Bool} (h : (gotN xs a).2.2 = 0) : vI xs a b = ((gotN xs a).1, a + (gotN xs a).2.1, b) := by rw [vI, if_pos h]
theorem vI_no {xs : List Int} {a : Nat} {b : Bool} (h : (gotN xs a).2.2 ≠ 0) : vI xs a b = (0, a, true) := by rw [vI, if_neg h]
theorem vI_ok {xs : List Int} {a : Nat} (b : Bool) (ha : a ≤ xs.length) : 0 ≤ (vI xs a b).1 ∧ (vI xs a b).2.1 ≤ xs.length := by
  by_cases h : (gotN xs a).2.2 = 0
  · rw [vI_yes h]; exact gotN_ok ha h
  · rw [vI_no h]; exact ⟨by simp, ha⟩
/-- A text. -/
def tI (xs : List Int) (a : Nat) (b : Bool) : ByteArray × Nat × Bool :=
  if (xs.length : Int) - (vI xs a b).2.1 < (vI xs a b).1 then (⟨#[]⟩, (vI xs a b).2.1, true)
  else (strOf ((xs.drop (vI xs a b).2.1).take (vI xs a b).1.toNat), (vI xs a b).2.1 + (vI xs a b).1.toNat, (vI xs a b).2.2)
theorem tI_long {xs : List Int} {a : Nat} {b : Bool} (h : (xs.length : Int) - (vI xs a b).2.1 < (vI xs a b).1) : tI xs a b = (⟨#[]⟩, (vI xs a b).2.1, true) := by rw [tI, if_pos h]
theorem tI_fits {xs : List Int} {a : Nat} {b : Bool} (h : ¬ (xs.length : Int) - (vI xs a b).2.1 < (vI xs a b).1) : tI xs a b = (strOf ((xs.drop (vI xs a b).2.1).take (vI xs a b).1.toNat), (vI xs a b).2.1 + (vI xs a b).1.toNat, (vI xs a b).2.2) := by rw [tI, if_neg h]
theorem tI_ok {xs : List Int} {a : Nat} (b : Bool) (ha : a ≤ xs.length) : (tI xs a b).2.1 ≤ xs.length := by
  have hv := vI_ok b ha
  by_cases h : (xs.length : Int) - (vI xs a b).2.1 < (vI xs a b).1
  · rw [tI_long h]; exact hv.2
  · rw [tI_fits h]; simp only; omega
/-- The same, as the specification reads them. -/
def nS (xs : List Int) (a : Nat) (b : Bool) : Int × Nat × Bool := if b = true then (0, a, true) else vI xs a false
def tS (xs : List Int) (a : Nat) (b : Bool) : ByteArray × Nat × Bool :=
  if (nS xs a b).2.2 = true ∨ (xs.length : Int) - (nS xs a b).2.1 < (nS xs a b).1 then (⟨#[]⟩, (nS xs a b).2.1, true)
  else (strOf ((xs.drop (nS xs a b).2.1).take (nS xs a b).1.toNat), (nS xs a b).2.1 + (nS xs a b).1.toNat, false)
theorem nS_false (xs : List Int) (a : Nat) : nS xs a false = vI xs a false := by rw [nS, if_neg (by decide)]
theorem nS_true (xs : List Int) (a : Nat) : nS xs a true = (0, a, true) := by rw [nS, if_pos rfl]
theorem tS_true (xs : List Int) (a : Nat) : tS xs a true = (⟨#[]⟩, a, true) := by rw [tS, nS_true, if_pos (.inl rfl)]
theorem nS_ok {xs : List Int} {a : Nat} (b : Bool) (ha : a ≤ xs.length) : 0 ≤ (nS xs a b).1 ∧ (nS xs a b).2.1 ≤ xs.length := by
  cases b
  · rw [nS_false]; exact vI_ok false ha
  · rw [nS_true]; exact ⟨by simp, ha⟩
theorem tS_false {xs : List Int} {a : Nat} (ha : a ≤ xs.length) : tS xs a false = tI xs a false := by
  have hv := vI_ok false ha
  rw [tS, nS_false]
  by_cases h : (gotN xs a).2.2 = 0
  · rw [tI, vI_yes h]
    simp
  · rw [vI_no h, tI, vI_no h, if_pos (.inl rfl), if_neg (by simp; omega)]
    simp [strOf]
theorem tS_ok {xs : List Int} {a : Nat} (b : Bool) (ha : a ≤ xs.length) : (tS xs a b).2.1 ≤ xs.length := by
  cases b
  · rw [tS_false ha]; exact tI_ok false ha
  · rw [tS_true]; exact ha
theorem vI_true (xs : List Int) (a : Nat) : (vI xs a true).2.2 = true := by
  by_cases h : (gotN xs a).2.2 = 0
  · rw [vI_yes h]
  · rw [vI_no h]
theorem tI_true (xs : List Int) (a : Nat) : (tI xs a true).2.2 = true := by
  by_cases h : (xs.length : Int) - (vI xs a true).2.1 < (vI xs a true).1
  · rw [tI_long h]
  · rw [tI_fits h]; exact vI_true xs a

/-- One step of both: where the one is right the other is, and at the same place, with the same value. -/
theorem step_v {xs : List Int} {a a' : Nat} {b b' : Bool} (hb : b = b') (ha : b = false → a = a') : (vI xs a b).2.2 = (nS xs a' b').2.2 ∧ ((vI xs a b).2.2 = false → b = false ∧ vI xs a b = nS xs a' b') := by
  subst hb
  cases b
  · obtain rfl := ha rfl
    rw [nS_false]
    exact ⟨rfl, fun _ => ⟨rfl, rfl⟩⟩
  · rw [vI_true, nS_true]
    exact ⟨rfl, fun h => by cases h⟩
theorem step_t {xs : List Int} {a a' : Nat} {b b' : Bool} (hl : a' ≤ xs.length) (hb : b = b') (ha : b = false → a = a') : (tI xs a b).2.2 = (tS xs a' b').2.2 ∧ ((tI xs a b).2.2 = false → b = false ∧ tI xs a b = tS xs a' b') := by
  subst hb
  cases b
  · obtain rfl := ha rfl
    rw [tS_false hl]
    exact ⟨rfl, fun _ => ⟨rfl, rfl⟩⟩
  · rw [tI_true, tS_true]
    exact ⟨rfl, fun h => by cases h⟩

/-- A job that is being read: its fields so far, the place, whether it is wrong. -/
structure RJ where
  c : Int
  s : Int
  F : ByteArray
  v : Int
  S : ByteArray
  T : ByteArray
  a : Nat
  b : Bool

def jI (xs : List Int) : RJ :=
  let p1 := vI xs 0 false
  let p2 := vI xs p1.2.1 p1.2.2
  let p3 := tI xs p2.2.1 p2.2.2
  let p4 := vI xs p3.2.1 p3.2.2
  let p5 := tI xs p4.2.1 p4.2.2
  let p6 := tI xs p5.2.1 p5.2.2
  ⟨p1.1, p2.1, p3.1, p4.1, p5.1, p6.1, p6.2.1, p6.2.2⟩
def jS (xs : List Int) : RJ :=
  let p1 := nS xs 0 false
  let p2 := nS xs p1.2.1 p1.2.2
  let p3 := tS xs p2.2.1 p2.2.2
  let p4 := nS xs p3.2.1 p3.2.2
  let p5 := tS xs p4.2.1 p4.2.2
  let p6 := tS xs p5.2.1 p5.2.2
  ⟨p1.1, p2.1, p3.1, p4.1, p5.1, p6.1, p6.2.1, p6.2.2⟩

theorem j_alike (xs : List Int) : (jI xs).b = (jS xs).b ∧ ((jI xs).b = false → jI xs = jS xs) := by
  unfold jI jS
  simp only
  have h1 := step_v (xs := xs) (a := 0) (a' := 0) (b := false) (b' := false) rfl (fun _ => rfl)
  have l1 := (nS_ok (xs := xs) (a := 0) false (Nat.zero_le _)).2
  generalize vI xs 0 false = p1 at *
  generalize nS xs 0 false = q1 at *
  have h2 := step_v (xs := xs) (a := p1.2.1) (a' := q1.2.1) h1.1 (fun h => by rw [(h1.2 h).2])
  have l2 := (nS_ok (xs := xs) q1.2.2 l1).2
  generalize vI xs p1.2.1 p1.2.2 = p2 at *
  generalize nS xs q1.2.1 q1.2.2 = q2 at *
  have h3 := step_t (xs := xs) (a := p2.2.1) (a' := q2.2.1) l2 h2.1 (fun h => by rw [(h2.2 h).2])
  have l3 := tS_ok (xs := xs) q2.2.2 l2
  generalize tI xs p2.2.1 p2.2.2 = p3 at *
  generalize tS xs q2.2.1 q2.2.2 = q3 at *
  have h4 := step_v (xs := xs) (a := p3.2.1) (a' := q3.2.1) h3.1 (fun h => by rw [(h3.2 h).2])
  have l4 := (nS_ok (xs := xs) q3.2.2 l3).2
  generalize vI xs p3.2.1 p3.2.2 = p4 at *
  generalize nS xs q3.2.1 q3.2.2 = q4 at *
  have h5 := step_t (xs := xs) (a := p4.2.1) (a' := q4.2.1) l4 h4.1 (fun h => by rw [(h4.2 h).2])
  have l5 := tS_ok (xs := xs) q4.2.2 l4
  generalize tI xs p4.2.1 p4.2.2 = p5 at *
  generalize tS xs q4.2.1 q4.2.2 = q5 at *
  have h6 := step_t (xs := xs) (a := p5.2.1) (a' := q5.2.1) l5 h5.1 (fun h => by rw [(h5.2 h).2])
  generalize tI xs p5.2.1 p5.2.2 = p6 at *
  generalize tS xs q5.2.1 q5.2.2 = q6 at *
  refine ⟨h6.1, fun h => ?_⟩
  obtain ⟨e5, rfl⟩ := h6.2 h
  obtain ⟨e4, rfl⟩ := h5.2 e5
  obtain ⟨e3, rfl⟩ := h4.2 e4
  obtain ⟨e2, rfl⟩ := h3.2 e3
  obtain ⟨e1, rfl⟩ := h2.2 e2
  obtain ⟨_, rfl⟩ := h1.2 e1
  rfl

/-- The byte at the end: whether what is left is that byte, and it is right. -/
def endB (xs : List Int) (a : Nat) (b : Bool) : Bool := b || (decide (a + 1 ≠ xs.length) || decide (3 < xs.getD a 0))
/-- Whether the bytes are none's; and the job that they are of. -/
def badJ (xs : List Int) : Bool := endB xs (jI xs).a (jI xs).b
theorem badJ_S (xs : List Int) : badJ xs = endB xs (jS xs).a (jS xs).b := by
  obtain ⟨h1, h2⟩ := j_alike xs
  unfold badJ
  cases hb : (jI xs).b
  · rw [h2 hb, ← h2 hb, hb]
  · rw [← h1, hb]
    simp [endB]
end Go.Proofs.Ytdahnooehjdcgaa.read

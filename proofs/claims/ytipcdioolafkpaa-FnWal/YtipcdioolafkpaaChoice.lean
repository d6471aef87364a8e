/- Contract of the laws' own choice out of n: it is a number from 0 to n - 1; and what a text of bytes is. -/
import Derived.Test.YtipcdioolafkpaaPile
import Derived.Laws.BytesString
import Derived.Laws.IdiomStrings
import Derived.Lib.BufferRead
namespace Go.Proofs.Ytipcdioolafkpaa.choice
open Go.ChangeShapes Go.WideShapes Go.ChangeAt Go.RowKit
open Go.Proofs.Ytipcdioolafkpaa.bytes Go.Proofs.Ytipcdioolafkpaa.pile
set_option linter.unusedVariables false

def strOf (ys : List Int) : ByteArray := ⟨(ys.map fun y => UInt8.ofNat y.toNat).toArray⟩

theorem run_str {w : World} {u : Value} {ys : List Int} (h : RdA w u ys) : (convert 22 9 u).run Try.prog w = .ok (.string (strOf ys)) w := by
  obtain ⟨⟨ao, cap, rfl, h1, h2, h3, h4⟩, hnil⟩ := h
  cases ao with
  | none =>
    have e := hnil _ _ rfl
    simp only [Value.slice.injEq, true_and] at e
    have hys : ys = [] := List.length_eq_zero_iff.1 e.1
    subst hys
    exact Lib.run_convert_nil_bytes w 22 9 5 cap Try.underlying22 Try.underlying5 Try.underlying9
  | some ad =>
    have hl : (ys.map fun y => UInt8.ofNat y.toNat).length = ys.length := by simp
    have := run_convert_bytes_back (P := Try.prog) w 22 9 5 ad cap (ys.map fun y => UInt8.ofNat y.toNat) Try.underlying22 Try.underlying5 Try.underlying9 (fun j hj => by
      rw [hl] at hj
      obtain ⟨b, off, e, hc⟩ := h4 (by omega)
      simp only [Option.some.injEq] at e
      subst e
      rw [add_at, hc j hj]
      have hb := h3 _ (List.getElem_mem hj)
      have hmod : (UInt8.ofNat (ys[j]).toNat).toNat = (ys[j]).toNat := by
        simp
        omega
      simp only [List.getElem_map, hmod, List.getD_eq_getElem?_getD, List.getElem?_eq_getElem hj, Option.getD_some]
      congr 2
      omega)
    rw [hl] at this
    exact this

set_option maxHeartbeats 800000 in
theorem at_any (w : World) (b : Value) (xs : List Int) (i : Nat) (n : Int) (hi : i ≤ 1000) (hn : n ≤ 1000000000) (hb : Rd w b xs) :
    Calls Try.prog 9 #[b, .int .i64 i, .int .i64 n] w fun e w' => ∃ r : Int, e = .returned (.int .i64 r) ∧ 0 ≤ r ∧ (r < n ∨ (n ≤ 1 ∧ r = 0)) ∧ ∃ m, w' = w.drewN m := by
  obtain ⟨ao, ca, rfl, ha1, ha2, hx, ha3⟩ := hb
  unfold maxLen at ha2
  by_cases h1 : n ≤ 1
  · go_enter Try.func9, Try.ntmps9
    go_wp2
    go_ret
    exact ⟨0, rfl, by omega, .inr ⟨h1, rfl⟩, 0, rfl⟩
  · have hn0 : n ≠ 0 := by omega
    by_cases h0 : xs.length = 0
    · have hz : (((xs.length : Nat) : Int) == 0) = true := by simp [h0]
      go_enter Try.func9, Try.ntmps9
      go_wp2
      go_ret
      exact ⟨_, rfl, Int.emod_nonneg _ hn0, .inl (Int.emod_lt_of_pos _ (by omega)), 0, rfl⟩
    · have hz : (((xs.length : Nat) : Int) == 0) = false := beq_eq_false_iff_ne.2 (by omega)
      obtain ⟨ab, aoff, rfl, hca⟩ := ha3 (by omega)
      have hc1 := hca (i % xs.length) (Nat.mod_lt _ (by omega))
      have hc2 := hca ((i + 1) % xs.length) (Nat.mod_lt _ (by omega))
      have hb1 := getD_bd hx (i % xs.length)
      have hb2 := getD_bd hx ((i + 1) % xs.length)
      generalize xs.getD (i % xs.length) 0 = c1 at hc1 hb1
      generalize xs.getD ((i + 1) % xs.length) 0 = c2 at hc2 hb2
      have ht1 : ((i : Nat) : Int).tmod xs.length = ((i % xs.length : Nat) : Int) := rfl
      have ht2 : (((i : Nat) : Int) + 1).tmod xs.length = (((i + 1) % xs.length : Nat) : Int) := rfl
      have hq : ((i : Nat) : Int).tdiv xs.length = ((i / xs.length : Nat) : Int) := rfl
      have hm1 : i % xs.length < xs.length := Nat.mod_lt _ (by omega)
      have hm2 : (i + 1) % xs.length < xs.length := Nat.mod_lt _ (by omega)
      have hq1 : i / xs.length ≤ i := Nat.div_le_self _ _
      generalize i % xs.length = m1 at hc1 ht1 hm1
      generalize (i + 1) % xs.length = m2 at hc2 ht2 hm2
      generalize i / xs.length = q at hq hq1
      clear hca ha3 hx
      go_enter Try.func9, Try.ntmps9
      go_wp2
      go_quiet (fail)
      go_wp2
      go_ret
      exact ⟨_, rfl, Int.emod_nonneg _ hn0, .inl (Int.emod_lt_of_pos _ (by omega)), _, rfl⟩
end Go.Proofs.Ytipcdioolafkpaa.choice

/- The draws as functions of the code: a byte, a number below another, bytes. -/
import Derived.Test.YtipcdioolafkpaaPayloads
namespace Go.Proofs.Ytipcdioolafkpaa.bytefn
open Go.ChangeShapes Go.WideShapes Go.ChangeAt Go.RowKit
open Go.Proofs.Ytipcdioolafkpaa.bytes Go.Proofs.Ytipcdioolafkpaa.put Go.Proofs.Ytipcdioolafkpaa.pile Go.Proofs.Ytipcdioolafkpaa.join Go.Proofs.Ytipcdioolafkpaa.frames Go.Proofs.Ytipcdioolafkpaa.reader Go.Proofs.Ytipcdioolafkpaa.one Go.Proofs.Ytipcdioolafkpaa.many Go.Proofs.Ytipcdioolafkpaa.draws Go.Proofs.Ytipcdioolafkpaa.payloads
set_option linter.unusedVariables false

theorem set_grown (w : World) (d i : Nat) (u : Value) : w.grownBy (w.setCell ⟨d, i, none⟩ u) (some d) := ⟨rfl, rfl, rfl, by simp, fun k _ hk => heap_setCell_other w ⟨d, i, none⟩ k u (fun e => hk (by simp [e]))⟩
theorem drew_grown (w : World) (n : Nat) (row : Option Nat) : w.grownBy (w.drewN n) row := ⟨rfl, rfl, rfl, Nat.le_refl _, fun _ _ _ => rfl⟩
theorem alloc_grown (w : World) (o : Obj) (row : Option Nat) : w.grownBy (w.alloc o) row := World.grownBy_alloc w o row

/-- What byte answers, and the seed behind it. -/
def byteR (xs : List Int) (a : Nat) (sd : Int) : Int × Int :=
  if a < xs.length then (xs.getD a 0, (sd * 31 + xs.getD a 0 + 7) % 2147483648) else if 3000 < a + 1 then (0, sd)
    else ((sd * 1103515245 + 12345) % 2147483648 / 65536 % 256, (sd * 1103515245 + 12345) % 2147483648)
theorem byteR_bd {xs : List Int} (hx : ∀ x ∈ xs, 0 ≤ x ∧ x ≤ 255) (a : Nat) (sd : Int) : 0 ≤ (byteR xs a sd).1 ∧ (byteR xs a sd).1 ≤ 255 := by
  unfold byteR
  split
  · exact getD_bd hx a
  · split
    · exact ⟨by show (0 : Int) ≤ 0; omega, by show (0 : Int) ≤ 255; omega⟩
    · simp only
      omega

set_option maxRecDepth 20000 in
set_option maxHeartbeats 1000000 in
theorem byte_fn (w : World) (d : Nat) (ao : Option Addr) (cap : Nat) (xs : List Int) (at_ : Nat) (sd : Int) (h : SS w d ao cap xs at_ sd) (hat : at_ ≤ 1000000000000) :
    Calls Try.prog 60 #[.pointer (some ⟨d, 0, none⟩)] w fun e w' => e = .returned (.int .i64 (byteR xs at_ sd).1) ∧ SS w' d ao cap xs (at_ + 1) (byteR xs at_ sd).2 ∧ w.grownBy w' (some d) := by
  have HS : Hid (SS w d ao cap xs at_ sd) := h
  have hd := h.lt
  have c0 := h.c0
  have c1 := h.c1
  have c2 := h.c2
  have f1 := h.fz 1
  have f2 := h.fz 2
  have s0 := h.sd0
  have s1 := h.sd1
  have HS1 : Hid (SS (w.setCell ⟨d, 1, none⟩ (.int .i64 ((at_ : Int) + 1))) d ao cap xs (at_ + 1) sd) := by
    have := h.set1 (at_ + 1)
    rw [show (((at_ + 1 : Nat) : Nat) : Int) = (at_ : Int) + 1 by omega] at this
    exact this
  have HK1 : Hid (w.grownBy (w.setCell ⟨d, 1, none⟩ (.int .i64 ((at_ : Int) + 1))) (some d)) := set_grown _ _ _ _
  have hdat := h.data.1
  obtain ⟨ao', ca, e, ha1, ha2, hx, ha3⟩ := hdat
  obtain ⟨rfl, _, rfl⟩ : ao' = ao ∧ True ∧ ca = cap := by simp at e; exact ⟨e.1.symm, trivial, e.2.symm⟩
  clear e
  unfold maxLen at ha2
  have hfar := h.far
  clear h
  by_cases hin : (at_ : Int) + 1 ≤ xs.length
  · obtain ⟨ab, aoff, rfl, hca⟩ := ha3 (by omega)
    have hc := hca at_ (by omega)
    have hcb := getD_bd hx at_
    have hne : ab ≠ d := hfar (by omega) _ rfl
    clear hca ha3 hfar
    have HR : Hid (byteR xs at_ sd = (xs.getD at_ 0, (sd * 31 + xs.getD at_ 0 + 7) % 2147483648)) := by unfold Hid byteR; rw [if_pos (by omega)]
    generalize xs.getD at_ 0 = c at hc hcb HR
    have hc' : (w.setCell ⟨d, 1, none⟩ (.int .i64 ((at_ : Int) + 1))).cell? ⟨ab, aoff + at_, none⟩ = some (.int .u8 c) := by
      rw [World.cell?_of_block (Below.heap_setCell w ⟨d, 1, none⟩ (.int .i64 ((at_ : Int) + 1)) ab hne)]
      exact hc
    have k0 := HS1.out.c0
    have k1 := HS1.out.c1
    have k2 := HS1.out.c2
    have g2 := HS1.out.fz 2
    rw [show (((at_ + 1 : Nat) : Nat) : Int) = (at_ : Int) + 1 by omega] at k1
    go_enter Try.func60, Try.ntmps60
    go_wp2
    go_quiet (fail)
    go_wp2
    have hw1 : IntKind.i64.wrap (at_ : Int) = at_ := by rw [IntKind.wrap_i64]; omega
    have hw2 : IntKind.i64.wrap (sd * 31) = sd * 31 := by rw [IntKind.wrap_i64]; omega
    have hw3 : IntKind.i64.wrap (sd * 31 + c) = sd * 31 + c := by rw [IntKind.wrap_i64]; omega
    have hw4 : IntKind.i64.wrap (sd * 31 + c + 7) = sd * 31 + c + 7 := by rw [IntKind.wrap_i64]; omega
    have hw5 : IntKind.i64.wrap c = c := by rw [IntKind.wrap_i64]; omega
    have hlt : (at_ : Int) < xs.length := by omega
    have hlt0 : (0 : Int) ≤ at_ := by omega
    go_region_law (fail)
    all_goals
      go_wp2
      go_quiet (fail)
      go_wp2
      go_ret
      have ht : (sd * 31 + c + 7).tmod 2147483648 = (sd * 31 + c + 7) % 2147483648 := Int.tmod_eq_emod_of_nonneg (by omega)
      rw [HR.out, ← ht]
      exact ⟨rfl, ((HS1.out.below (below_same _ _)).set2 _ (by rw [ht]; omega) (by rw [ht]; omega)).below (below_same _ _), grown_trans (grown_trans (grown_trans HK1.out (drew_grown _ _ _)) (set_grown _ _ _ _)) (drew_grown _ _ _)⟩
  · by_cases h3 : (3000 : Int) < (at_ : Int) + 1
    · have HR : Hid (byteR xs at_ sd = (0, sd)) := by unfold Hid byteR; rw [if_neg (by omega), if_pos (by omega)]
      go_enter Try.func60, Try.ntmps60
      go_wp2
      go_quiet (fail)
      go_wp2
      go_ret
      rw [HR.out]
      exact ⟨rfl, HS1.out.below (below_same _ _), grown_trans HK1.out (drew_grown _ _ _)⟩
    · have HR : Hid (byteR xs at_ sd = ((sd * 1103515245 + 12345) % 2147483648 / 65536 % 256, (sd * 1103515245 + 12345) % 2147483648)) := by unfold Hid byteR; rw [if_neg (by omega), if_neg (by omega)]
      go_enter Try.func60, Try.ntmps60
      go_wp2
      go_quiet (fail)
      go_wp2
      go_ret
      rw [HR.out]
      exact ⟨rfl, (HS1.out.below (below_same _ _)).set2 _ (by omega) (by omega), grown_trans (grown_trans HK1.out (drew_grown _ _ _)) (set_grown _ _ _ _)⟩


end Go.Proofs.Ytipcdioolafkpaa.bytefn

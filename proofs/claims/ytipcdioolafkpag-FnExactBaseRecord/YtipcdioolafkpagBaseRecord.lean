/- FnExactBaseRecord returns true at all numbers and changes nothing that was there: impl's BaseRecord answers as the specification's, in memory of its own; no condition. -/
import Derived.Test.YtipcdioolafkpagImplRecs
import Derived.OpenShut
import Derived.ShutString
import Derived.ChangeOld
namespace Go.Proofs.Ytipcdioolafkpag.fnExactBaseRecord
open Go.ChangeShapes Go.WideShapes Go.ChangeAt Go.RowKit
open Go.ChangeMaps (open_string shut_string)
open Go.Proofs.Ytipcdioolafkpag.bytes Go.Proofs.Ytipcdioolafkpag.pile Go.Proofs.Ytipcdioolafkpag.put Go.Proofs.Ytipcdioolafkpag.frames Go.Proofs.Ytipcdioolafkpag.votes Go.Proofs.Ytipcdioolafkpag.pays Go.Proofs.Ytipcdioolafkpag.recs Go.Proofs.Ytipcdioolafkpag.implrecs
set_option linter.unusedVariables false

theorem own : ownKnob Try.prog.godebug = none := by kernel_rfl

set_option maxHeartbeats 1000000 in
theorem walk (a0 : Int) (a1 : Int) (w0 : (Lit.int .i64 a0).wf = true) (w1 : (Lit.int .i64 a1).wf = true) (w : World) :
    Calls Try.prog 6 #[.int .i64 a0, .int .i64 a1] w fun e w' => e = .returned (.bool true) ∧ Below w.heap.size w w' := by
  clear w0 w1
  have hlen := two_len 3 a0 a1
  obtain ⟨L, hL⟩ : ∃ L, L = twoA 3 a0 a1 := ⟨_, rfl⟩
  obtain ⟨C, hC⟩ : ∃ C, C = twoC a0 a1 := ⟨_, rfl⟩
  rw [← hL] at hlen
  have HSpec : Hid (∀ wx, Calls Try.prog 27 #[.int .i64 a0, .int .i64 a1] wx fun e w' => ∃ v, e = .returned (.tuple #[v, .int .i64 C]) ∧ Own w' wx.heap.size v L ∧ Below wx.heap.size wx w') := fun wx => by rw [hL, hC]; exact specBase wx a0 a1
  have HImpl : Hid (∀ wx, Calls Try.prog 28 #[.int .i64 a0, .int .i64 a1] wx fun e w' => ∃ v, e = .returned (.tuple #[v, .int .i64 C]) ∧ Own w' wx.heap.size v L ∧ Below wx.heap.size wx w') := fun wx => by rw [hL, hC]; exact implBase wx a0 a1
  clear hL hC
  have hneC : (C != C) = false := by simp
  go_enter Try.func6, Try.ntmps6
  go_wp2_with fail
  refine (HSpec.out _).mono ?_
  rintro e w1 ⟨v0, rfl, HO0, hb0⟩
  go_wp2_with fail
  refine (HImpl.out _).mono ?_
  rintro e w2 ⟨v1, rfl, HO1, hb1⟩
  have HO0' := HO0.below hb1 (Nat.le_refl _)
  go_wp2_with fail
  refine (eq_same _ _ _ _ HO1.rd HO0'.rd).mono ?_
  rintro e w3 ⟨rfl, n3, rfl⟩
  go_wp2_with fail
  refine (mark_own _ w1.heap.size v1 1 L (by omega) (by omega) (by exact HO1)).mono ?_
  rintro e w4 ⟨rfl, HO4, hg4⟩
  have hs12 := hb1.size
  have hb4 : Below w1.heap.size w2 w4 := (Below.refl w1.heap.size w2).trans ((below_drewN (Below.refl _ _) n3).grown hg4 (by exact hs12) (fun k hk => (HO1.lt k hk).1))
  have hb14 : Below w1.heap.size w1 w4 := hb1.trans hb4
  have HO04 : Own w4 w.heap.size v0 L := HO0.below hb14 (Nat.le_refl _)
  go_wp2_with fail
  refine (held_same _ v1 1 L.length (by omega) (by omega) HO4.rd).mono ?_
  rintro e w5 ⟨rfl, rfl⟩
  go_wp2_with fail
  refine (HImpl.out _).mono ?_
  rintro e w6 ⟨v6, rfl, HO6, hb6⟩
  have HO06 := HO04.below hb6 (Nat.le_refl _)
  have HO46 := HO4.below hb6 (Nat.le_refl _)
  go_wp2_with fail
  refine (eq_same _ _ _ _ HO6.rd HO06.rd).mono ?_
  rintro e w7 ⟨rfl, n7, rfl⟩
  go_wp2_with fail
  refine (held_same _ v1 1 L.length (by omega) (by omega) (by exact HO46.rd)).mono ?_
  rintro e w8 ⟨rfl, rfl⟩
  go_wp2
  go_ret
  refine ⟨rfl, ?_⟩
  have hs01 := hb0.size
  exact below_drewN ((hb0.trans (hb14.mono hs01)).trans (hb6.mono (by have := hb14.size; omega))) n7

set_option maxRecDepth 100000 in
theorem lifted (os : Os) (started : os.Started) (H : Type) (enc : TypeId × Value → H) :
    ReturnsInHanded {} Try.checked os 6 .any (Rows.fnExactBaseRecordSpec.pre6 enc Try.prog Try.f6 Rows.fnExactBaseRecordRow.domain false) (Rows.fnExactBaseRecordSpec.post enc Try.prog Try.f6 false true false false) := by
  refine returnsInHanded_of_change (C := Try.checked) own started (by kernel_rfl) Try.func6
    (ChangeSpec.witness6 (enc := enc) (C := Try.checked) false ⟨#[], #[.int .i64 0, .int .i64 0], []⟩ 8 (by kernel_rfl) (by kernel_rfl) (by kernel_rfl) (by kernel_rfl)) ?_
  intro W base args ds gs before hval0 hW hcnd _
  have hval : ∀ (j : Nat) t v, Try.f6.params[j]? = some t → args[j]? = some v → Value.okWide Try.prog W .any base t v := hval0
  have hW' := hW
  obtain ⟨p, q, hA0, hV, rfl, hfz, hnd⟩ := hW
  have hA : DataW.TrodAll enc Try.prog W 0 (fun _ => true) true Try.f6.params.toList args.toList ds p := hA0
  rw [Try.params6] at hA hval
  obtain ⟨v0, vs0, d0, ds0, p0, q0, hargs, rfl, rfl, h0, r0⟩ := trodAll_cons hA
  obtain ⟨v1, vs1, d1, ds1, p1, q1, rfl, rfl, rfl, h1, r1⟩ := trodAll_cons r0
  obtain ⟨rfl, rfl, rfl⟩ := trodAll_nil r1
  obtain rfl : args = #[v0, v1] := by cases args; simp_all
  obtain ⟨rfl, rfl⟩ := trodVars_none hV
  obtain ⟨a0, rfl, rfl, rfl, w0⟩ := open_int Try.underlying3 (hval 0 3 v0 rfl rfl) h0
  obtain ⟨a1, rfl, rfl, rfl, w1⟩ := open_int Try.underlying3 (hval 1 3 v1 rfl rfl) h1
  clear hA0 hval0
  simp only [List.append_nil] at hW'
  refine (walk a0 a1 w0 w1 W).mono fun e W' ⟨he, hg⟩ => ?_
  subst he
  exact ⟨_, rfl, _, _, _, [], [], [], hW', trodAll_mk1 (shut_bool Try.underlying4 _), (trodAll_cons_mk (shut_int Try.underlying3 w0) (trodAll_cons_mk (shut_int Try.underlying3 w1) trodAll_mk0)), rfl, hg.frame _, fun h => by cases h⟩

theorem over : Rows.fnExactBaseRecordRow.holds Try.pinned (OpenSpec.ofChange Rows.fnExactBaseRecordSpec) :=
  OpenClaim.holds_of_wide 6 Try.f6 rfl rfl rfl rfl rfl rfl rfl ⟨rfl, rfl, rfl, rfl, rfl⟩ rfl rfl rfl rfl rfl (by kernel_rfl) Try.func6 (by kernel_rfl)
    (of_decide_eq_true (by kernel_rfl)) (by unfold Func.isWrapper; first | (rw [if_pos (by decide +kernel)]; kernel_rfl) | (rw [if_neg (by decide +kernel)]; exact ⟨rfl, rfl⟩))
    (fun os started H enc _ => lifted os started H enc)

/-- ████ THE STATEMENT ████ -/
theorem proved : Rows.FnExactBaseRecordSaid :=
  over
#print axioms proved
end Go.Proofs.Ytipcdioolafkpag.fnExactBaseRecord

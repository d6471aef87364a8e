/- FnExactPutNumber returns true at every number and changes nothing that was there: impl's PutNumber answers as the specification's, in memory of its own; no condition. -/
import Derived.Test.YteklkjbhlmdflaePut
import Derived.OpenShut
import Derived.ShutString
import Derived.ChangeOld
namespace Go.Proofs.Yteklkjbhlmdflae.fnExactPutNumber
open Go.ChangeShapes Go.WideShapes Go.ChangeAt Go.RowKit
open Go.ChangeMaps (open_string shut_string)
open Go.Proofs.Yteklkjbhlmdflae.bytes Go.Proofs.Yteklkjbhlmdflae.put
set_option linter.unusedVariables false

theorem own : ownKnob Try.prog.godebug = none := by kernel_rfl
theorem laidOut : laidOutB Try.prog = true := by kernel_rfl

def putL (n : Int) : List Int := if n < 0 then [] else putN n.toNat
def putC (n : Int) : Int := if n < 0 then 5 else 0
theorem putL_len (n : Int) (h : n ≤ 9223372036854775807) : (putL n).length ≤ 10 := by
  unfold putL
  split
  · simp
  · exact putN_len 9 _ (by omega)

set_option maxHeartbeats 400000 in
theorem implPut (n : Int) (w : World) (hn : n ≤ 9223372036854775807) :
    Calls Try.prog 9 #[.int .i64 n] w fun e w' => ∃ v, e = .returned (.tuple #[v, .int .i64 (putC n)]) ∧ Own w' w.heap.size v (putL n) ∧ Below w.heap.size w w' := by
  by_cases h : n < 0
  · have hl : putL n = [] := by simp [putL, h]
    have hc : putC n = 5 := by simp [putC, h]
    rw [hl, hc]
    clear hl hc hn
    go_enter Try.func9, Try.ntmps9
    go_wp2
    go_ret2
    exact ⟨_, rfl, ⟨by simp, World.ownsRow_nil _ _ _ _⟩, Below.refl _ _⟩
  · have hl : putL n = putN n.toNat := by simp [putL, h]
    have hc : putC n = 0 := by simp [putC, h]
    rw [hl, hc]
    obtain ⟨m, rfl⟩ := Int.eq_ofNat_of_zero_le (show 0 ≤ n by omega)
    rw [Int.toNat_natCast]
    have hm : m ≤ maxLen := by unfold maxLen; omega
    have h0 : ¬ (m : Int) < 0 := by omega
    clear hl hc hn h
    go_enter Try.func9, Try.ntmps9
    go_wp2_with fail
    refine (numberBytes_own m _ hm).mono ?_
    rintro e w' ⟨v, rfl, ho, hb⟩
    clear hm
    go_wp2
    go_ret2
    exact ⟨_, rfl, ho, hb⟩
set_option maxHeartbeats 400000 in
theorem specPut (n : Int) (w : World) (hn : n ≤ 9223372036854775807) :
    Calls Try.prog 8 #[.int .i64 n] w fun e w' => ∃ v, e = .returned (.tuple #[v, .int .i64 (putC n)]) ∧ Own w' w.heap.size v (putL n) ∧ Below w.heap.size w w' := by
  by_cases h : n < 0
  · have hl : putL n = [] := by simp [putL, h]
    have hc : putC n = 5 := by simp [putC, h]
    rw [hl, hc]
    clear hl hc hn
    go_enter Try.func8, Try.ntmps8
    go_wp2
    go_ret2
    exact ⟨_, rfl, ⟨by simp, World.ownsRow_lit _ #[] 0 (Nat.le_refl _) (by simp [maxLen]) (by simp)⟩, (Below.refl _ _).alloc (Nat.le_refl _) _⟩
  · have hl : putL n = putN n.toNat := by simp [putL, h]
    have hc : putC n = 0 := by simp [putC, h]
    rw [hl, hc]
    obtain ⟨m, rfl⟩ := Int.eq_ofNat_of_zero_le (show 0 ≤ n by omega)
    rw [Int.toNat_natCast]
    have hm : m ≤ maxLen := by unfold maxLen; omega
    have h0 : ¬ (m : Int) < 0 := by omega
    clear hl hc hn h
    go_enter Try.func8, Try.ntmps8
    go_wp2_with fail
    refine (l01Put_own m _ hm).mono ?_
    rintro e w' ⟨v, rfl, ho, hb⟩
    clear hm
    go_wp2
    go_ret2
    exact ⟨_, rfl, ho, hb⟩
set_option maxHeartbeats 1000000 in
theorem walk (a0 : Int) (w : World) (w0 : (Lit.int .i64 a0).wf = true) :
    Calls Try.prog 4 #[.int .i64 a0] w fun e w' => e = .returned (.bool true) ∧ Below w.heap.size w w' := by
  have hx : a0 ≤ 9223372036854775807 := by
    have : -9223372036854775808 ≤ a0 ∧ a0 ≤ 9223372036854775807 := by simpa [Lit.wf, IntKind.min, IntKind.max, IntKind.signed, IntKind.bits] using w0
    exact this.2
  have hlen := putL_len a0 hx
  have HX : Hid (a0 ≤ 9223372036854775807) := hx
  clear hx w0
  go_enter Try.func4, Try.ntmps4
  go_wp2_with fail
  refine (specPut a0 _ HX.out).mono ?_
  rintro e w1 ⟨v0, rfl, HO0, hb0⟩
  go_wp2_with fail
  refine (implPut a0 _ HX.out).mono ?_
  rintro e w2 ⟨v1, rfl, HO1, hb1⟩
  have HO0' := HO0.below hb1 (Nat.le_refl _)
  go_wp2_with fail
  refine (eq_same _ _ _ _ HO1.rd HO0'.rd).mono ?_
  rintro e w3 ⟨rfl, n3, rfl⟩
  go_wp2_with fail
  refine (mark_own _ w1.heap.size v1 1 (putL a0) (by omega) (by omega) (by exact HO1)).mono ?_
  rintro e w4 ⟨rfl, HO4, hg4⟩
  have hs12 := hb1.size
  have hb4 : Below w1.heap.size w2 w4 := (Below.refl w1.heap.size w2).trans ((below_drewN (Below.refl _ _) n3).grown hg4 (by exact hs12) (fun k hk => (HO1.lt k hk).1))
  have hb14 : Below w1.heap.size w1 w4 := hb1.trans hb4
  have HO04 : Own w4 w.heap.size v0 (putL a0) := HO0.below hb14 (Nat.le_refl _)
  go_wp2_with fail
  refine (held_same _ v1 1 (putL a0).length (by omega) (by omega) HO4.rd).mono ?_
  rintro e w5 ⟨rfl, rfl⟩
  go_wp2_with fail
  refine (implPut a0 _ HX.out).mono ?_
  rintro e w6 ⟨v6, rfl, HO6, hb6⟩
  have HO06 := HO04.below hb6 (Nat.le_refl _)
  have HO46 := HO4.below hb6 (Nat.le_refl _)
  go_wp2_with fail
  refine (eq_same _ _ _ _ HO6.rd HO06.rd).mono ?_
  rintro e w7 ⟨rfl, n7, rfl⟩
  go_wp2_with fail
  refine (held_same _ v1 1 (putL a0).length (by omega) (by omega) (by exact HO46.rd)).mono ?_
  rintro e w8 ⟨rfl, rfl⟩
  go_wp2
  go_ret
  refine ⟨rfl, ?_⟩
  have hs01 := hb0.size
  exact below_drewN ((hb0.trans (hb14.mono hs01)).trans (hb6.mono (by have := hb14.size; omega))) n7

set_option maxRecDepth 100000 in
theorem lifted (os : Os) (started : os.Started) (H : Type) (enc : TypeId × Value → H) :
    ReturnsInHanded {} Try.checked os 4 .any (Rows.fnExactPutNumberSpec.pre6 enc Try.prog Try.f4 Rows.fnExactPutNumberRow.domain false) (Rows.fnExactPutNumberSpec.post enc Try.prog Try.f4 false true false false) := by
  refine returnsInHanded_of_change (C := Try.checked) own started (by kernel_rfl) Try.func4
    (ChangeSpec.witness6 (enc := enc) (C := Try.checked) false ⟨#[], #[.int .i64 0], []⟩ 8 (by kernel_rfl) (by kernel_rfl) (by kernel_rfl) (by kernel_rfl)) ?_
  intro W base args ds gs before hval0 hW hcnd _
  have hval : ∀ (j : Nat) t v, Try.f4.params[j]? = some t → args[j]? = some v → Value.okWide Try.prog W .any base t v := hval0
  have hW' := hW
  obtain ⟨p, q, hA0, hV, rfl, hfz, hnd⟩ := hW
  have hA : DataW.TrodAll enc Try.prog W 0 (fun _ => true) true Try.f4.params.toList args.toList ds p := hA0
  rw [Try.params4] at hA hval
  obtain ⟨v0, vs0, d0, ds0, p0, q0, hargs, rfl, rfl, h0, r0⟩ := trodAll_cons hA
  obtain ⟨rfl, rfl, rfl⟩ := trodAll_nil r0
  obtain rfl : args = #[v0] := by cases args; simp_all
  obtain ⟨rfl, rfl⟩ := trodVars_none hV
  obtain ⟨a0, rfl, rfl, rfl, w0⟩ := open_int Try.underlying3 (hval 0 3 v0 rfl rfl) h0
  clear hA0 hval0
  simp only [List.append_nil] at hW'
  refine (walk a0 W w0).mono fun e W' ⟨he, hg⟩ => ?_
  subst he
  exact ⟨_, rfl, _, _, _, [], [], [], hW', trodAll_mk1 (shut_bool Try.underlying4 _), (trodAll_cons_mk (shut_int Try.underlying3 w0) trodAll_mk0), rfl, hg.frame _, fun h => by cases h⟩

theorem over : Rows.fnExactPutNumberRow.holds Try.pinned (OpenSpec.ofChange Rows.fnExactPutNumberSpec) :=
  OpenClaim.holds_of_wide 4 Try.f4 rfl rfl rfl rfl rfl rfl rfl ⟨rfl, rfl, rfl, rfl, rfl⟩ rfl rfl rfl rfl rfl (by kernel_rfl) Try.func4 (by kernel_rfl)
    (of_decide_eq_true (by kernel_rfl)) (by unfold Func.isWrapper; first | (rw [if_pos (by decide +kernel)]; kernel_rfl) | (rw [if_neg (by decide +kernel)]; exact ⟨rfl, rfl⟩))
    (fun os started H enc _ => lifted os started H enc)

/-- ████ THE STATEMENT ████ -/
theorem proved : Rows.FnExactPutNumberSaid :=
  over
#print axioms proved
end Go.Proofs.Yteklkjbhlmdflae.fnExactPutNumber

/- FnExactJobBytes returns true at all jobs and leaves them as they were: impl's JobBytes answers as the specification's, in memory of its own; no condition. -/
import Derived.Test.YtdahnooehjdcgaaArgJob
import Derived.OpenShut
import Derived.ShutString
import Derived.ChangeOld
namespace Go.Proofs.Ytdahnooehjdcgaa.fnExactJobBytes
open Go.ChangeShapes Go.WideShapes Go.ChangeAt Go.RowKit
open Go.Proofs.Ytdahnooehjdcgaa.bytes Go.Proofs.Ytdahnooehjdcgaa.pile Go.Proofs.Ytdahnooehjdcgaa.put Go.Proofs.Ytdahnooehjdcgaa.jhelp Go.Proofs.Ytdahnooehjdcgaa.wr Go.Proofs.Ytdahnooehjdcgaa.jok Go.Proofs.Ytdahnooehjdcgaa.wjob Go.Proofs.Ytdahnooehjdcgaa.ijob Go.Proofs.Ytdahnooehjdcgaa.sjob Go.Proofs.Ytdahnooehjdcgaa.sjobs Go.Proofs.Ytdahnooehjdcgaa.argjob
open Go.ChangeMaps (open_string shut_string)
set_option linter.unusedVariables false

theorem own : ownKnob Try.prog.godebug = none := by kernel_rfl
theorem laidOut : laidOutB Try.prog = true := by kernel_rfl

set_option maxRecDepth 20000 in
set_option maxHeartbeats 4000000 in
theorem walk (w : World) (c s : Int) (F : ByteArray) (v : Int) (S T : ByteArray) (e q : Bool) (hF : F.size ≤ maxLen) (hS : S.size ≤ maxLen) (hT : T.size ≤ maxLen) :
    Calls Try.prog 3 #[.agg #[.int .i64 c, .int .i64 s, .string F, .int .i64 v, .string S, .string T, .bool e, .bool q]] w fun r w' => r = .returned (.bool true) ∧ Below w.heap.size w w' := by
  obtain ⟨X, hX⟩ : ∃ X, X = jobA c s F v S T e q := ⟨_, rfl⟩
  obtain ⟨C, hC⟩ : ∃ C, C = jobC c s F v S T := ⟨_, rfl⟩
  have hXl : X.length ≤ 6020 := by rw [hX]; exact jobA_len c s F v S T e q
  have hneC : (C != C) = false := by simp
  obtain ⟨W0, hW0⟩ : ∃ W0, W0 = w.alloc (.cells #[.int .i64 c, .int .i64 s, .string F, .int .i64 v, .string S, .string T, .bool e, .bool q] 23) := ⟨_, rfl⟩
  have b0 : Below w.heap.size w W0 := by rw [hW0]; exact (Below.refl _ _).alloc (Nat.le_refl _) _
  have k0 : W0.heap[w.heap.size]? = some (.cells #[.int .i64 c, .int .i64 s, .string F, .int .i64 v, .string S, .string T, .bool e, .bool q] 23 (0, 0)) := by rw [hW0]; exact heap_alloc_new w _
  have sz0 : W0.heap.size = w.heap.size + 1 := by rw [hW0]; simp
  have HBox : Hid (∀ wx, Below W0.heap.size W0 wx → wx.cell? ⟨w.heap.size, 0, none⟩ = some (.int .i64 c) ∧ wx.cell? ⟨w.heap.size, 1, none⟩ = some (.int .i64 s) ∧ wx.cell? ⟨w.heap.size, 2, none⟩ = some (.string F) ∧ wx.cell? ⟨w.heap.size, 3, none⟩ = some (.int .i64 v) ∧ wx.cell? ⟨w.heap.size, 4, none⟩ = some (.string S) ∧ wx.cell? ⟨w.heap.size, 5, none⟩ = some (.string T) ∧ wx.cell? ⟨w.heap.size, 6, none⟩ = some (.bool e) ∧ wx.cell? ⟨w.heap.size, 7, none⟩ = some (.bool q) ∧ Below w.heap.size w wx) := fun wx hb => by
    have k := (hb.block w.heap.size (by omega)).trans k0
    exact ⟨cell_of k rfl, cell_of k rfl, cell_of k rfl, cell_of k rfl, cell_of k rfl, cell_of k rfl, cell_of k rfl, cell_of k rfl, b0.trans (hb.mono (by omega))⟩
  have hC0 := sz_job W0 c s F v S T e q hF hS hT
  rw [hW0] at hC0
  have HSpec : Hid (∀ wx, Calls Try.prog 6 #[.agg #[.int .i64 c, .int .i64 s, .string F, .int .i64 v, .string S, .string T, .bool e, .bool q]] wx fun r w' => ∃ o n m, r = .returned (.tuple #[.slice o n m, .int .i64 C]) ∧ Own w' wx.heap.size (.slice o n m) X ∧ Below wx.heap.size wx w') := fun wx => by
    rw [hX, hC]
    refine (specJob wx c s F v S T e q hF hS hT).mono ?_
    rintro r w' ⟨u, rfl, hO, hb⟩
    obtain ⟨o, m, he, _⟩ := hO.rd
    subst he
    exact ⟨o, _, m, rfl, hO, hb⟩
  have HImpl : Hid (∀ wx, Calls Try.prog 8 #[.agg #[.int .i64 c, .int .i64 s, .string F, .int .i64 v, .string S, .string T, .bool e, .bool q]] wx fun r w' => ∃ o n m, r = .returned (.tuple #[.slice o n m, .int .i64 C]) ∧ Own w' wx.heap.size (.slice o n m) X ∧ Below wx.heap.size wx w') := fun wx => by
    rw [hX, hC]
    refine (implJob wx c s F v S T e q hF hS hT).mono ?_
    rintro r w' ⟨u, rfl, hO, hb⟩
    obtain ⟨o, m, he, _⟩ := hO.rd
    subst he
    exact ⟨o, _, m, rfl, hO, hb⟩
  have HTo : Hid (∀ wx, Calls Try.prog 7 #[.agg #[.int .i64 c, .int .i64 s, .string F, .int .i64 v, .string S, .string T, .bool e, .bool q]] wx fun r w' => r = .returned (.agg #[.int .i64 c, .int .i64 s, .string F, .int .i64 v, .string S, .string T, .bool e, .bool q]) ∧ Below wx.heap.size wx w') := fun wx => to_job wx c s F v S T e q
  clear hX hC hF hS hT k0
  go_enter Try.func3, Try.ntmps3
  go_wp2_with fail
  refine hC0.mono ?_
  rw [← hW0]
  rintro r w1 ⟨⟨m, rfl⟩, b1⟩
  clear hC0 hW0 b0
  have s1 := b1.size
  obtain ⟨e0, e1, e2, e3, e4, e5, e6, e7, BB1⟩ := HBox.out w1 b1
  have HB1 : Hid (Below w.heap.size w w1) := BB1
  clear BB1
  by_cases hm : m < 0
  · go_wp2
    go_ret
    exact ⟨rfl, HB1.out⟩
  go_wp2_with fail
  refine (HTo.out w1).mono ?_
  rintro r w2 ⟨rfl, b2⟩
  have s2 := b2.size
  clear e0 e1 e2 e3 e4 e5 e6 e7
  go_wp2_with fail
  refine (HSpec.out w2).mono ?_
  rintro r w3 ⟨o3, n3, m3, rfl, O3, b3⟩
  have s3 := b3.size
  have B3 : Below W0.heap.size W0 w3 := (b1.trans (b2.mono s1)).trans (b3.mono (by omega))
  have HW3 : Hid (∀ wx, Below w3.heap.size w3 wx → Own wx w2.heap.size (.slice o3 n3 m3) X) := fun wx hb => O3.below hb (Nat.le_refl _)
  obtain ⟨e0, e1, e2, e3, e4, e5, e6, e7, BB3⟩ := HBox.out w3 B3
  clear BB3 b2 b3 b1 O3 HB1
  go_wp2_with fail
  refine (HTo.out w3).mono ?_
  rintro r w4 ⟨rfl, b4⟩
  have s4 := b4.size
  clear e0 e1 e2 e3 e4 e5 e6 e7
  go_wp2_with fail
  refine (HImpl.out w4).mono ?_
  rintro r w5 ⟨o5, n5, m5, rfl, O5, b5⟩
  have s5 := b5.size
  have b35 : Below w3.heap.size w3 w5 := b4.trans (b5.mono s4)
  have HO5 : Hid (Own w5 w4.heap.size (.slice o5 n5 m5) X) := O5
  clear O5 b4 b5
  go_wp2_with fail
  refine (eq_same _ _ _ X HO5.out.rd (HW3.out _ b35).rd).mono ?_
  rintro r w6 ⟨rfl, n6, rfl⟩
  go_wp2_with fail
  refine (mark_own _ w4.heap.size _ 1 X (by omega) (by omega) (by exact HO5.out)).mono ?_
  rintro r w7 ⟨rfl, O7, g7'⟩
  have g7 : w5.grownBy w7 (Value.slice o5 n5 m5).ownBlock := ⟨g7'.os, g7'.tape, g7'.output, g7'.size, g7'.block⟩
  have s7 := g7.size
  have b37 : Below w3.heap.size w3 w7 := b35.grown g7 (by omega) (fun k hk => by have := (HO5.out.lt k hk).1; omega)
  have HHeld : Hid (∀ wx, Below w7.heap.size w7 wx → Calls Try.prog 11 #[.slice o5 n5 m5, .int .i64 1] wx fun r w' => r = .returned (.int .i64 (1 + X.length)) ∧ w' = wx) := fun wx hb => held_same wx _ 1 X.length (by omega) (by omega) (O7.below hb (Nat.le_refl _)).rd
  have B7 : Below W0.heap.size W0 w7 := B3.trans (b37.mono (by omega))
  obtain ⟨e0, e1, e2, e3, e4, e5, e6, e7, BB7⟩ := HBox.out w7 B7
  have hn1 : ¬ (1 : Int) + X.length < 0 := by omega
  have hne2 : ((1 : Int) + X.length != (1 : Int) + X.length) = false := by simp
  clear O7 g7 g7' BB7 b35
  go_wp2_with fail
  refine (HHeld.out _ (Below.refl _ _)).mono ?_
  rintro r w8 ⟨rfl, hw8⟩
  have hw8' := hw8.symm
  subst hw8'
  go_wp2_with fail
  refine (HTo.out w7).mono ?_
  rintro r w9 ⟨rfl, b9⟩
  have s9 := b9.size
  clear e0 e1 e2 e3 e4 e5 e6 e7
  go_wp2_with fail
  refine (HImpl.out w9).mono ?_
  rintro r w10 ⟨o10, n10, m10, rfl, O10, b10⟩
  have b710 : Below w7.heap.size w7 w10 := b9.trans (b10.mono s9)
  have b310 : Below w3.heap.size w3 w10 := b37.trans (b710.mono (by omega))
  obtain ⟨_, _, _, _, _, _, _, _, BF⟩ := HBox.out w10 (B7.trans (b710.mono (by omega)))
  clear b9 b10
  go_wp2_with fail
  refine (eq_same _ _ _ X O10.rd (HW3.out _ b310).rd).mono ?_
  rintro r w11 ⟨rfl, n11, rfl⟩
  go_wp2_with fail
  refine (HHeld.out _ (by exact below_drew' b710 _)).mono ?_
  rintro r w12 ⟨rfl, rfl⟩
  go_wp2
  go_ret
  exact ⟨rfl, by exact below_drew' BF _⟩

set_option maxRecDepth 100000 in
theorem lifted (os : Os) (started : os.Started) (H : Type) (enc : TypeId × Value → H) :
    ReturnsInHanded {} Try.checked os 3 .any (Rows.fnExactJobBytesSpec.pre6 enc Try.prog Try.f3 Rows.fnExactJobBytesRow.domain false) (Rows.fnExactJobBytesSpec.post enc Try.prog Try.f3 false true false false) := by
  refine returnsInHanded_of_change (C := Try.checked) own started (by kernel_rfl) Try.func3
    (ChangeSpec.witness6 (enc := enc) (C := Try.checked) false ⟨#[], #[.agg #[.int .i64 0, .int .i64 0, .string .empty, .int .i64 0, .string .empty, .string .empty, .bool false, .bool false]], []⟩ 8 (by kernel_rfl) (by kernel_rfl) (by kernel_rfl) (by kernel_rfl)) ?_
  intro W base args ds gs before hval0 hW hcnd _
  have hval : ∀ (j : Nat) t v, Try.f3.params[j]? = some t → args[j]? = some v → Value.okWide Try.prog W .any base t v := hval0
  have hW' := hW
  obtain ⟨p, q, hA0, hV, rfl, hfz, hnd⟩ := hW
  have hA : DataW.TrodAll enc Try.prog W 0 (fun _ => true) true Try.f3.params.toList args.toList ds p := hA0
  rw [Try.params3] at hA hval
  obtain ⟨v0, vs0, d0, ds0, p0, q0, hargs, rfl, rfl, h0, r0⟩ := trodAll_cons hA
  obtain ⟨rfl, rfl, rfl⟩ := trodAll_nil r0
  obtain rfl : args = #[v0] := by cases args; simp_all
  obtain ⟨rfl, rfl⟩ := trodVars_none hV
  have k0 := h0
  have lt0 : ∀ x ∈ p0, x.block < W.heap.size := by obtain ⟨m, hm⟩ := k0; exact DataW.trod_lt m _ _ _ hm
  obtain ⟨c, s, F, v, S, T, e, q', rfl, hF, hS, hT⟩ := open_job (hval 0 23 v0 rfl rfl) h0
  clear hA0 hval0
  refine (walk W c s F v S T e q' hF hS hT).mono fun e W' ⟨he, bel⟩ => ?_
  subst he
  exact ⟨_, rfl, _, _, _, [], _, [], hW', trodAll_mk1 (shut_bool Try.underlying4 _), (trodAll_cons_mk (Below.trod laidOut (by kernel_rfl) (of_decide_eq_true (by kernel_rfl)) k0 bel lt0) trodAll_mk0), rfl, bel.frame _, fun h => by cases h⟩

theorem over : Rows.fnExactJobBytesRow.holds Try.pinned (OpenSpec.ofChange Rows.fnExactJobBytesSpec) :=
  OpenClaim.holds_of_wide 3 Try.f3 rfl rfl rfl rfl rfl rfl rfl ⟨rfl, rfl, rfl, rfl, rfl⟩ rfl rfl rfl rfl rfl (by kernel_rfl) Try.func3 (by kernel_rfl)
    (of_decide_eq_true (by kernel_rfl)) (by unfold Func.isWrapper; first | (rw [if_pos (by decide +kernel)]; kernel_rfl) | (rw [if_neg (by decide +kernel)]; exact ⟨rfl, rfl⟩))
    (fun os started H enc _ => lifted os started H enc)

/-- The statement. -/
theorem proved : Rows.FnExactJobBytesSaid := over
#print axioms proved
end Go.Proofs.Ytdahnooehjdcgaa.fnExactJobBytes

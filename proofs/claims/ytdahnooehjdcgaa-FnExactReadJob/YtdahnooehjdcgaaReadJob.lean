/- FnExactReadJob returns true at all bytes and leaves them as they were: impl's ReadJob answers as the specification's, and writes into no argument; no condition. -/
import Derived.Test.YtdahnooehjdcgaaRdT
import Derived.Test.YtdahnooehjdcgaaArgB
import Derived.OpenShut
import Derived.ShutString
import Derived.ChangeOld
namespace Go.Proofs.Ytdahnooehjdcgaa.fnExactReadJob
open Go.ChangeShapes Go.WideShapes Go.ChangeAt Go.RowKit
open Go.Proofs.Ytdahnooehjdcgaa.bytes Go.Proofs.Ytdahnooehjdcgaa.pile Go.Proofs.Ytdahnooehjdcgaa.jhelp Go.Proofs.Ytdahnooehjdcgaa.read Go.Proofs.Ytdahnooehjdcgaa.rdi Go.Proofs.Ytdahnooehjdcgaa.rdj Go.Proofs.Ytdahnooehjdcgaa.rdk Go.Proofs.Ytdahnooehjdcgaa.rdl Go.Proofs.Ytdahnooehjdcgaa.rdt
open Go.ChangeMaps (open_string shut_string)
set_option linter.unusedVariables false

theorem own : ownKnob Try.prog.godebug = none := by kernel_rfl
theorem laidOut : laidOutB Try.prog = true := by kernel_rfl

theorem readV_agg (xs : List Int) : ∃ (c s : Int) (F : ByteArray) (v : Int) (S T : ByteArray) (e q : Bool), readV xs = .agg #[.int .i64 c, .int .i64 s, .string F, .int .i64 v, .string S, .string T, .bool e, .bool q] := by
  unfold readV
  split
  · exact ⟨_, _, _, _, _, _, _, _, rfl⟩
  · split
    · exact ⟨_, _, _, _, _, _, _, _, rfl⟩
    · split
      · exact ⟨_, _, _, _, _, _, _, _, rfl⟩
      · exact ⟨_, _, _, _, _, _, _, _, rfl⟩

set_option maxHeartbeats 1600000 in
theorem eq_job (w : World) (c s : Int) (F : ByteArray) (v : Int) (S T : ByteArray) (e q : Bool) :
    Calls Try.prog 15 #[.agg #[.int .i64 c, .int .i64 s, .string F, .int .i64 v, .string S, .string T, .bool e, .bool q], .agg #[.int .i64 c, .int .i64 s, .string F, .int .i64 v, .string S, .string T, .bool e, .bool q]] w fun r w' => r = .returned (.bool true) ∧ Below w.heap.size w w' := by
  have n1 : (c != c) = false := by simp
  have n2 : (s != s) = false := by simp
  have n3 : (v != v) = false := by simp
  have n4 : (e != e) = false := by simp
  have n5 : (q != q) = false := by simp
  have m1 : (F.toList != F.toList) = false := by simp
  have m2 : (S.toList != S.toList) = false := by simp
  have m3 : (T.toList != T.toList) = false := by simp
  have HB : Hid (Below w.heap.size w ((w.alloc (.cells #[.int .i64 c, .int .i64 s, .string F, .int .i64 v, .string S, .string T, .bool e, .bool q] 28)).alloc (.cells #[.int .i64 c, .int .i64 s, .string F, .int .i64 v, .string S, .string T, .bool e, .bool q] 28))) := ((Below.refl _ _).alloc (Nat.le_refl _) _).alloc (by simp) _
  go_enter Try.func15, Try.ntmps15
  go_wp2
  go_ret
  exact ⟨rfl, HB.out⟩

set_option maxRecDepth 20000 in
set_option maxHeartbeats 3200000 in
theorem walk (w : World) (u : Value) (xs : List Int) (hU : RdA w u xs) :
    Calls Try.prog 4 #[u] w fun r w' => r = .returned (.bool true) ∧ Below w.heap.size w w' := by
  have HU : Hid (RdA w u xs) := hU
  obtain ⟨⟨a0, c0, rfl, h1, h2, _, _⟩, _⟩ := hU
  unfold maxLen at h2
  by_cases hl : 1048576 < xs.length
  · have hli : (1048576 : Int) < xs.length := by omega
    go_enter Try.func4, Try.ntmps4
    go_wp2
    go_ret
    exact ⟨rfl, Below.refl _ _⟩
  have hli : ¬ (1048576 : Int) < xs.length := by omega
  have HLen : Hid (xs.length ≤ 1048576) := by unfold Hid; omega
  obtain ⟨c, s, F, v, S, T, e, q, hV⟩ := readV_agg xs
  obtain ⟨C, hC⟩ : ∃ C, C = readC xs := ⟨_, rfl⟩
  have hneC : (C != C) = false := by simp
  have HTo : Hid (∀ wx, Below w.heap.size w wx → Calls Try.prog 13 #[.slice a0 xs.length c0] wx fun r w' => ∃ o m, r = .returned (.slice o xs.length m) ∧ Own w' wx.heap.size (.slice o xs.length m) xs ∧ Below wx.heap.size wx w') := fun wx hb => by
    refine (to_own wx _ xs (by have := HLen.out; omega) (HU.out.below hb (Nat.le_refl _)).1).mono ?_
    rintro r w' ⟨v', rfl, hO, hb'⟩
    obtain ⟨o, m, he, _⟩ := hO.rd
    subst he
    exact ⟨o, m, rfl, hO, hb'⟩
  have HSpec : Hid (∀ wx o m, RdA wx (.slice o xs.length m) xs → Calls Try.prog 12 #[.slice o xs.length m] wx fun r w' => r = .returned (.tuple #[.agg #[.int .i64 c, .int .i64 s, .string F, .int .i64 v, .string S, .string T, .bool e, .bool q], .int .i64 C]) ∧ Below wx.heap.size wx w') := fun wx o m hr => by
    rw [hC, ← hV]
    exact specRead wx o m xs hr
  have HImpl : Hid (∀ wx o m, RdA wx (.slice o xs.length m) xs → Calls Try.prog 14 #[.slice o xs.length m] wx fun r w' => r = .returned (.tuple #[.agg #[.int .i64 c, .int .i64 s, .string F, .int .i64 v, .string S, .string T, .bool e, .bool q], .int .i64 C]) ∧ Below wx.heap.size wx w') := fun wx o m hr => by
    rw [hC, ← hV]
    exact implRead wx o m xs hr
  have HEq : Hid (∀ wx, Calls Try.prog 15 #[.agg #[.int .i64 c, .int .i64 s, .string F, .int .i64 v, .string S, .string T, .bool e, .bool q], .agg #[.int .i64 c, .int .i64 s, .string F, .int .i64 v, .string S, .string T, .bool e, .bool q]] wx fun r w' => r = .returned (.bool true) ∧ Below wx.heap.size wx w') := fun wx => eq_job wx c s F v S T e q
  clear hV hC hl
  go_enter Try.func4, Try.ntmps4
  go_wp2_with fail
  refine (HTo.out w (Below.refl _ _)).mono ?_
  rintro r w1 ⟨o1, m1, rfl, O1, b1⟩
  have s1 := b1.size
  go_wp2_with fail
  refine (HSpec.out w1 o1 m1 (Own.rdA O1)).mono ?_
  rintro r w2 ⟨rfl, b2⟩
  have s2 := b2.size
  obtain ⟨W3, hW3⟩ : ∃ X, X = w2.alloc (.cells #[.int .i64 c, .int .i64 s, .string F, .int .i64 v, .string S, .string T, .bool e, .bool q] 28) := ⟨_, rfl⟩
  have b3 : Below w2.heap.size w2 W3 := by rw [hW3]; exact (Below.refl _ _).alloc (Nat.le_refl _) _
  have k3 : W3.heap[w2.heap.size]? = some (.cells #[.int .i64 c, .int .i64 s, .string F, .int .i64 v, .string S, .string T, .bool e, .bool q] 28 (0, 0)) := by rw [hW3]; exact heap_alloc_new w2 _
  have z3 : W3.heap.size = w2.heap.size + 1 := by rw [hW3]; simp
  have B3 : Below w.heap.size w W3 := (b1.trans (b2.mono s1)).trans (b3.mono (by omega))
  have HT3 := HTo.out W3 B3
  rw [hW3] at HT3
  have HB3 : Hid (Below w.heap.size w W3 ∧ W3.heap[w2.heap.size]? = some (.cells #[.int .i64 c, .int .i64 s, .string F, .int .i64 v, .string S, .string T, .bool e, .bool q] 28 (0, 0)) ∧ W3.heap.size = w2.heap.size + 1) := ⟨B3, k3, z3⟩
  clear O1 b1 b2 b3 k3 z3 B3
  go_wp2_with fail
  refine HT3.mono ?_
  rw [← hW3]
  rintro r w4 ⟨o4, m4, rfl, O4, b4⟩
  have s4 := b4.size
  have z3 := HB3.out.2.2
  have HO4 : Hid (Own w4 W3.heap.size (.slice o4 xs.length m4) xs) := O4
  have hI := HImpl.out w4 o4 m4 (Own.rdA O4)
  clear HT3 hW3 O4
  go_wp2_with fail
  refine hI.mono ?_
  rintro r w5 ⟨rfl, b5⟩
  have s5 := b5.size
  obtain ⟨W6, hW6⟩ : ∃ X, X = w5.alloc (.cells #[.int .i64 c, .int .i64 s, .string F, .int .i64 v, .string S, .string T, .bool e, .bool q] 28) := ⟨_, rfl⟩
  have b6 : Below w5.heap.size w5 W6 := by rw [hW6]; exact (Below.refl _ _).alloc (Nat.le_refl _) _
  have k6 : W6.heap[w2.heap.size]? = some (.cells #[.int .i64 c, .int .i64 s, .string F, .int .i64 v, .string S, .string T, .bool e, .bool q] 28 (0, 0)) := kept b6 (kept b5 (kept b4 HB3.out.2.1 (Nat.le_refl _)) (Nat.le_refl _)) (Nat.le_refl _)
  have b46 : Below w4.heap.size w4 W6 := b5.trans (b6.mono s5)
  have B6 : Below w.heap.size w W6 := (HB3.out.1.trans (b4.mono HB3.out.1.size)).trans (b46.mono (by have := HB3.out.1.size; omega))
  have e0 := cell_of (i := 0) k6 rfl
  have e1 := cell_of (i := 1) k6 rfl
  have e2 := cell_of (i := 2) k6 rfl
  have e3 := cell_of (i := 3) k6 rfl
  have e4 := cell_of (i := 4) k6 rfl
  have e5 := cell_of (i := 5) k6 rfl
  have e6 := cell_of (i := 6) k6 rfl
  have e7 := cell_of (i := 7) k6 rfl
  have hQ := HEq.out W6
  have H6 : Hid (Below w.heap.size w W6 ∧ Below w4.heap.size w4 W6) := ⟨B6, b46⟩
  have hW6' : Hid (W6 = w5.alloc (.cells #[.int .i64 c, .int .i64 s, .string F, .int .i64 v, .string S, .string T, .bool e, .bool q] 28)) := hW6
  rw [hW6] at hQ e0 e1 e2 e3 e4 e5 e6 e7
  clear hI b5 b6 k6 b46 B6 hW6 b4
  go_wp2_with fail
  refine hQ.mono ?_
  rw [← hW6'.out]
  rintro r w7 ⟨rfl, b7⟩
  have s7 := b7.size
  have B7 : Below w.heap.size w w7 := H6.out.1.trans (b7.mono H6.out.1.size)
  have b47 : Below w4.heap.size w4 w7 := H6.out.2.trans (b7.mono H6.out.2.size)
  have HT7 := HTo.out w7 B7
  have HB7 : Hid (Below w.heap.size w w7 ∧ Below w4.heap.size w4 w7) := ⟨B7, b47⟩
  clear hQ b7 B7 b47 e0 e1 e2 e3 e4 e5 e6 e7
  go_wp2_with fail
  refine HT7.mono ?_
  rintro r w8 ⟨o8, m8, rfl, O8, b8⟩
  have B8 : Below w.heap.size w w8 := HB7.out.1.trans (b8.mono HB7.out.1.size)
  have b48 : Below w4.heap.size w4 w8 := HB7.out.2.trans (b8.mono HB7.out.2.size)
  have hE := eq_same w8 _ _ xs (HO4.out.below b48 (Nat.le_refl _)).rd O8.rd
  have HB8 : Hid (Below w.heap.size w w8) := B8
  clear HT7 O8 b8 B8 b48
  go_wp2_with fail
  refine hE.mono ?_
  rintro r w9 ⟨rfl, n9, rfl⟩
  go_wp2
  go_ret
  exact ⟨rfl, by exact below_drew' HB8.out _⟩

set_option maxRecDepth 100000 in
theorem lifted (os : Os) (started : os.Started) (H : Type) (enc : TypeId × Value → H) :
    ReturnsInHanded {} Try.checked os 4 .any (Rows.fnExactReadJobSpec.pre6 enc Try.prog Try.f4 Rows.fnExactReadJobRow.domain false) (Rows.fnExactReadJobSpec.post enc Try.prog Try.f4 false true false false) := by
  refine returnsInHanded_of_change (C := Try.checked) own started (by kernel_rfl) Try.func4
    (ChangeSpec.witness6 (enc := enc) (C := Try.checked) false ⟨#[], #[.slice none 0 0], []⟩ 8 (by kernel_rfl) (by kernel_rfl) (by kernel_rfl) (by kernel_rfl)) ?_
  intro W base args ds gs before hval0 hW hcnd _
  have hval : ∀ (j : Nat) t v, Try.f4.params[j]? = some t → args[j]? = some v → Value.okWide Try.prog W .any base t v := hval0
  have hW' := hW
  obtain ⟨p, q, hA0, hV, rfl, hfz, hnd⟩ := hW
  have hA : DataW.TrodAll enc Try.prog W 0 (fun _ => true) true Try.f4.params.toList args.toList ds p := hA0
  rw [Try.params4] at hA hval
  obtain ⟨v0, vs0, d0, ds0, p0, q0, hargs, rfl, rfl, h0, r0⟩ := trodAll_cons hA
  obtain ⟨rfl, rfl, rfl⟩ := trodAll_nil r0
  obtain rfl : args = #[v0] := by cases args; simp_all
  obtain ⟨rfl, rfl⟩ := trodVars_none hV
  have k0 := h0
  have lt0 : ∀ x ∈ p0, x.block < W.heap.size := by obtain ⟨m, hm⟩ := k0; exact DataW.trod_lt m _ _ _ hm
  obtain ⟨fuel, hf⟩ := h0
  obtain ⟨sa, sl, sc, rfl⟩ := okWide_slice Try.underlying25 (hval 0 25 v0 rfl rfl)
  obtain ⟨u, xs, hu, hr⟩ := Go.Proofs.Ytdahnooehjdcgaa.given.open_bytes hf
  simp only [Value.cells, List.cons.injEq, and_true] at hu
  subst hu
  clear hA0 hval0
  refine (walk W _ xs hr).mono fun e W' ⟨he, bel⟩ => ?_
  subst he
  exact ⟨_, rfl, _, _, _, [], _, [], hW', trodAll_mk1 (shut_bool Try.underlying4 _), (trodAll_cons_mk (Below.trod laidOut (by kernel_rfl) (of_decide_eq_true (by kernel_rfl)) k0 bel lt0) trodAll_mk0), rfl, bel.frame _, fun h => by cases h⟩

theorem over : Rows.fnExactReadJobRow.holds Try.pinned (OpenSpec.ofChange Rows.fnExactReadJobSpec) :=
  OpenClaim.holds_of_wide 4 Try.f4 rfl rfl rfl rfl rfl rfl rfl ⟨rfl, rfl, rfl, rfl, rfl⟩ rfl rfl rfl rfl rfl (by kernel_rfl) Try.func4 (by kernel_rfl)
    (of_decide_eq_true (by kernel_rfl)) (by unfold Func.isWrapper; first | (rw [if_pos (by decide +kernel)]; kernel_rfl) | (rw [if_neg (by decide +kernel)]; exact ⟨rfl, rfl⟩))
    (fun os started H enc _ => lifted os started H enc)

/-- The statement. -/
theorem proved : Rows.FnExactReadJobSaid := over
#print axioms proved
end Go.Proofs.Ytdahnooehjdcgaa.fnExactReadJob

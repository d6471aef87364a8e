/- FnExactGetNumber returns true at all bytes and every place, and leaves its arguments as they were: impl's GetNumber answers as the specification's; no condition. -/
import Derived.Test.YteklkjbhlmdflaeDec
import Derived.OpenShut
import Derived.ShutString
import Derived.ChangeOld
namespace Go.Proofs.Yteklkjbhlmdflae.fnExactGetNumber
open Go.ChangeShapes Go.WideShapes Go.ChangeAt Go.RowKit
open Go.ChangeMaps (open_string shut_string)
open Go.Proofs.Yteklkjbhlmdflae.bytes Go.Proofs.Yteklkjbhlmdflae.get Go.Proofs.Yteklkjbhlmdflae.dec
set_option linter.unusedVariables false

def getA (xs : List Int) (a : Int) : Int × Int × Int :=
  if 65536 < xs.length then (0, 0, 2) else if a < 0 ∨ (xs.length : Int) < a then (0, 0, 5) else
    if (gotN xs a.toNat).2.2 = 0 then ((gotN xs a.toNat).1, a + (gotN xs a.toNat).2.1, 0) else (0, 0, 3)
def tri (r : Int × Int × Int) : Value := .tuple #[.int .i64 r.1, .int .i64 r.2.1, .int .i64 r.2.2]

theorem getA_long {xs : List Int} {a : Int} (h : 65536 < xs.length) : getA xs a = (0, 0, 2) := by simp [getA, h]
theorem getA_range {xs : List Int} {a : Int} (h : ¬ 65536 < xs.length) (ha : a < 0 ∨ (xs.length : Int) < a) : getA xs a = (0, 0, 5) := by rw [getA, if_neg h, if_pos ha]
theorem getA_good {xs : List Int} {a : Nat} (h : ¬ 65536 < xs.length) (ha : a ≤ xs.length) (hg : (gotN xs a).2.2 = 0) : getA xs a = ((gotN xs a).1, (a : Int) + ((gotN xs a).2.1 : Int), 0) := by
  rw [getA, if_neg h, if_neg (by omega), Int.toNat_natCast, if_pos hg]
theorem getA_bad {xs : List Int} {a : Nat} (h : ¬ 65536 < xs.length) (ha : a ≤ xs.length) (hg : (gotN xs a).2.2 ≠ 0) : getA xs a = (0, 0, 3) := by
  rw [getA, if_neg h, if_neg (by omega), Int.toNat_natCast, if_neg hg]

set_option maxHeartbeats 400000 in
theorem specGet (w : World) (b : Value) (xs : List Int) (a : Int) (hb : Rd w b xs) :
    Calls Try.prog 13 #[b, .int .i64 a] w fun e w' => e = .returned (tri (getA xs a)) ∧ w' = w := by
  have hb' := hb
  obtain ⟨ao, ca, rfl, ha1, ha2, hx, ha3⟩ := hb
  unfold maxLen at ha2
  clear ha3 hx
  by_cases hl : 65536 < xs.length
  · rw [getA_long hl]
    have hl' : (65536 : Int) < xs.length := by omega
    go_enter Try.func13, Try.ntmps13
    go_wp2
    go_ret3
    exact ⟨rfl, rfl⟩
  · have hl' : ¬ (65536 : Int) < xs.length := by omega
    by_cases h0 : a < 0
    · rw [getA_range hl (.inl h0)]
      go_enter Try.func13, Try.ntmps13
      go_wp2
      go_ret3
      exact ⟨rfl, rfl⟩
    · by_cases h1 : (xs.length : Int) < a
      · rw [getA_range hl (.inr h1)]
        go_enter Try.func13, Try.ntmps13
        go_wp2
        go_ret3
        exact ⟨rfl, rfl⟩
      · obtain ⟨n, rfl⟩ := Int.eq_ofNat_of_zero_le (show 0 ≤ a by omega)
        rcases Bool.eq_false_or_eq_true ((gotN xs n).2.2 != 0) with hg | hg
        · rw [getA_bad hl (by omega) (by simpa using hg)]
          go_enter Try.func13, Try.ntmps13
          go_wp2_with (go_at_call 21; refine (l01Get_any _ _ xs n (by omega) hb' (by omega)).mono ?_; rintro e w' ⟨rfl, rfl⟩)
          go_ret3
          exact ⟨rfl, rfl⟩
        · have hg' : (gotN xs n).2.2 = 0 := by simpa using hg
          have HB : Hid (tri (getA xs n) = .tuple #[.int .i64 (gotN xs n).1, .int .i64 (behind n (gotN xs n)), .int .i64 0]) := by
            rw [getA_good hl (by omega) hg']; simp [tri, behind, hg', Hid]
          clear hg'
          rw [HB.out]
          go_enter Try.func13, Try.ntmps13
          go_wp2_with (go_at_call 21; refine (l01Get_any _ _ xs n (by omega) hb' (by omega)).mono ?_; rintro e w' ⟨rfl, rfl⟩)
          go_ret3
          exact ⟨rfl, rfl⟩

set_option maxHeartbeats 400000 in
theorem implGet (w : World) (b : Value) (xs : List Int) (a : Int) (hb : Rd w b xs) :
    Calls Try.prog 15 #[b, .int .i64 a] w fun e w' => e = .returned (tri (getA xs a)) ∧ Below w.heap.size w w' := by
  have hb' := hb
  obtain ⟨ao, ca, rfl, ha1, ha2, hx, ha3⟩ := hb
  unfold maxLen at ha2
  clear ha3 hx
  by_cases hl : 65536 < xs.length
  · rw [getA_long hl]
    have hl' : (65536 : Int) < xs.length := by omega
    go_enter Try.func15, Try.ntmps15
    go_wp2
    go_ret3
    exact ⟨rfl, Below.refl _ _⟩
  · have hl' : ¬ (65536 : Int) < xs.length := by omega
    by_cases h0 : a < 0
    · rw [getA_range hl (.inl h0)]
      go_enter Try.func15, Try.ntmps15
      go_wp2
      go_ret3
      exact ⟨rfl, Below.refl _ _⟩
    · by_cases h1 : (xs.length : Int) < a
      · rw [getA_range hl (.inr h1)]
        go_enter Try.func15, Try.ntmps15
        go_wp2
        go_ret3
        exact ⟨rfl, Below.refl _ _⟩
      · obtain ⟨n, rfl⟩ := Int.eq_ofNat_of_zero_le (show 0 ≤ a by omega)
        have hba : Below w.heap.size w (w.alloc (.cells #[.slice ao xs.length ca, .int .i64 n] 36)) := (Below.refl _ _).alloc (Nat.le_refl _) _
        have hrd := hb'.below hba (Nat.le_refl _)
        rcases Bool.eq_false_or_eq_true ((gotN xs n).2.2 != 0) with hg | hg
        · rw [getA_bad hl (by omega) (by simpa using hg)]
          go_enter Try.func15, Try.ntmps15
          go_wp2_with fail
          refine (number_any _ w.heap.size ao ca n xs (by omega) (by omega) (by exact hrd) (by simp) (by simp) (by simp)).mono ?_
          rintro e w' ⟨rfl, _, hw⟩
          obtain ⟨m, rfl⟩ := hw (by simpa using hg)
          go_wp2
          go_ret3
          exact ⟨rfl, below_drewN hba m⟩
        · have hg' : (gotN xs n).2.2 = 0 := by simpa using hg
          have HB : Hid (tri (getA xs n) = .tuple #[.int .i64 (gotN xs n).1, .int .i64 ((n : Int) + ((gotN xs n).2.1 : Int)), .int .i64 0]) := by
            rw [getA_good hl (by omega) hg']; simp [tri, Hid]
          have HG' : Hid ((gotN xs n).2.2 = 0) := hg'
          clear hg'
          rw [HB.out]
          go_enter Try.func15, Try.ntmps15
          go_wp2_with fail
          refine (number_any _ w.heap.size ao ca n xs (by omega) (by omega) (by exact hrd) (by simp) (by simp) (by simp)).mono ?_
          rintro e w' ⟨rfl, hw, _⟩
          obtain ⟨m, rfl⟩ := hw HG'.out
          clear hw
          have hcell : (((w.alloc (.cells #[.slice ao xs.length ca, .int .i64 n] 36)).drewN m).setCell ⟨w.heap.size, 1, none⟩ (.int .i64 ((n : Int) + ((gotN xs n).2.1 : Int)))).cell? ⟨w.heap.size, 1, none⟩ = some (.int .i64 ((n : Int) + ((gotN xs n).2.1 : Int))) := by
            exact World.cell?_setCell_same' _ _ _ (by rw [World.cell?_drewN]; simp)
          have HBW : Hid (Below w.heap.size w (((w.alloc (.cells #[.slice ao xs.length ca, .int .i64 n] 36)).drewN m).setCell ⟨w.heap.size, 1, none⟩ (.int .i64 ((n : Int) + ((gotN xs n).2.1 : Int))))) :=
            (below_drewN hba m).setCell (Nat.le_refl _) _
          generalize (((w.alloc (.cells #[.slice ao xs.length ca, .int .i64 n] 36)).drewN m).setCell ⟨w.heap.size, 1, none⟩ (.int .i64 ((n : Int) + ((gotN xs n).2.1 : Int)))) = w2 at hcell HBW ⊢
          go_wp2
          go_quiet (fail)
          go_wp2
          go_ret3
          exact ⟨rfl, below_drewN HBW.out _⟩

theorem own : ownKnob Try.prog.godebug = none := by kernel_rfl
theorem laidOut : laidOutB Try.prog = true := by kernel_rfl

/-- WHAT THE WALK IS TOLD OF A SLICE OF INTEGERS THAT CAME IN: it is nil; or it leads to a row of 'cap' cells, the numbers 'zs' (the first 'len' are its elements, the rest its spare room), each fitting its kind. -/
def IsRow (k : IntKind) (w : World) (a : Option Addr) (len cap : Nat) (zs : List Int) : Prop :=
  (a = none ∧ len = 0 ∧ cap = 0 ∧ zs = []) ∨
  ∃ x, a = some x ∧ len ≤ cap ∧ cap ≤ maxLen ∧ zs.length = cap ∧ (∀ i, i < zs.length → w.cell? (x.add i) = some (.int k (zs.getD i 0))) ∧ ∀ n ∈ zs, (Lit.int k n).wf = true

theorem rd_of_row {w : World} {a : Option Addr} {len cap : Nat} {zs : List Int} (h : IsRow .u8 w a len cap zs) : ∃ xs : List Int, Rd w (.slice a len cap) xs ∧ xs.length = len := by
  rcases h with ⟨rfl, rfl, rfl, rfl⟩ | ⟨x, rfl, hl, hm, hz, hcell, hwz⟩
  · exact ⟨[], ⟨none, 0, rfl, by simp, by simp [maxLen], by simp, by simp⟩, rfl⟩
  · have hlen : (zs.take len).length = len := by simp; omega
    refine ⟨zs.take len, ⟨some x, cap, by rw [hlen], by omega, hm, ?_, fun hp => ?_⟩, hlen⟩
    · intro y hy
      have := hwz y (List.mem_of_mem_take hy)
      simpa [Lit.wf, IntKind.min, IntKind.max, IntKind.signed, IntKind.bits] using this
    · obtain ⟨b, off, spot⟩ := x
      have hc := hcell 0 (by omega)
      have hspot : spot = none := by simpa [Addr.add] using World.cell?_spot hc
      subst hspot
      refine ⟨b, off, rfl, fun i hi => ?_⟩
      have := hcell i (by omega)
      have hadd : (⟨b, off, none⟩ : Addr).add i = ⟨b, off + i, none⟩ := by
        unfold Addr.add
        split
        · rename_i h; subst h; rfl
        · rfl
      rw [hadd] at this
      rw [this]
      have hi' : i < len := by omega
      simp [List.getD_eq_getElem?_getD, hi']

theorem le_max_of {w : World} {v : Value} {xs : List Int} (h : Rd w v xs) : xs.length ≤ maxLen := by
  obtain ⟨ao, cap, _, h1, h2, _⟩ := h
  omega

set_option maxHeartbeats 1000000 in
theorem walk (a0 : Option Addr) (len0 cap0 : Nat) (z0 : List Int) (a1 : Int) (w : World) (w0 : IsRow .u8 w a0 len0 cap0 z0) (w1 : (Lit.int .i64 a1).wf = true) :
    Calls Try.prog 5 #[.slice a0 len0 cap0, .int .i64 a1] w fun e w' => e = .returned (.bool true) ∧ Below w.heap.size w w' := by
  obtain ⟨xs, HR, hlen⟩ : ∃ xs : List Int, Rd w (.slice a0 len0 cap0) xs ∧ xs.length = len0 := rd_of_row w0
  clear w0 w1
  subst hlen
  have hm := le_max_of HR
  unfold maxLen at hm
  by_cases hbig : (1048576 : Int) < xs.length
  · go_enter Try.func5, Try.ntmps5
    go_wp2
    go_ret
    exact ⟨rfl, Below.refl _ _⟩
  · have hl48 : xs.length ≤ 281474976710656 := by omega
    go_enter Try.func5, Try.ntmps5
    go_wp2_with fail
    refine (to_own _ _ xs hl48 (by exact HR)).mono ?_
    rintro e w1 ⟨v1, rfl, HO1, hb1⟩
    go_wp2_with fail
    refine (specGet _ _ xs a1 HO1.rd).mono ?_
    rintro e w2 ⟨rfl, rfl⟩
    have HR1 := HR.below hb1 (Nat.le_refl _)
    unfold tri
    go_wp2_with fail
    refine (to_own _ _ xs hl48 (by exact HR1)).mono ?_
    rintro e w3 ⟨v3, rfl, HO3, hb3⟩
    go_wp2_with fail
    refine (implGet _ _ xs a1 HO3.rd).mono ?_
    rintro e w4 ⟨rfl, hb4⟩
    have HR3 := HR1.below hb3 (Nat.le_refl _)
    have HR4 := HR3.below hb4 (Nat.le_refl _)
    have HO4 := HO3.below hb4 (Nat.le_refl _)
    unfold tri
    go_wp2_with fail
    refine (to_own _ _ xs hl48 (by exact HR4)).mono ?_
    rintro e w5 ⟨v5, rfl, HO5, hb5⟩
    have HO45 := HO4.below hb5 (Nat.le_refl _)
    go_wp2_with fail
    refine (eq_same _ _ _ xs HO45.rd HO5.rd).mono ?_
    rintro e w6 ⟨rfl, n6, rfl⟩
    go_wp2
    go_ret
    refine ⟨rfl, ?_⟩
    have s1 := hb1.size
    have s3 := hb3.size
    have s4 := hb4.size
    exact below_drewN (((hb1.trans (hb3.mono s1)).trans (hb4.mono (by omega))).trans (hb5.mono (by omega))) n6

set_option maxRecDepth 100000 in
theorem lifted (os : Os) (started : os.Started) (H : Type) (enc : TypeId × Value → H) :
    ReturnsInHanded {} Try.checked os 5 .any (Rows.fnExactGetNumberSpec.pre6 enc Try.prog Try.f5 Rows.fnExactGetNumberRow.domain false) (Rows.fnExactGetNumberSpec.post enc Try.prog Try.f5 false true false false) := by
  refine returnsInHanded_of_change (C := Try.checked) own started (by kernel_rfl) Try.func5
    (ChangeSpec.witness6 (enc := enc) (C := Try.checked) false ⟨#[], #[.slice none 0 0, .int .i64 0], []⟩ 8 (by kernel_rfl) (by kernel_rfl) (by kernel_rfl) (by kernel_rfl)) ?_
  intro W base args ds gs before hval0 hW hcnd _
  have hval : ∀ (j : Nat) t v, Try.f5.params[j]? = some t → args[j]? = some v → Value.okWide Try.prog W .any base t v := hval0
  have hW' := hW
  obtain ⟨p, q, hA0, hV, rfl, hfz, hnd⟩ := hW
  have hA : DataW.TrodAll enc Try.prog W 0 (fun _ => true) true Try.f5.params.toList args.toList ds p := hA0
  rw [Try.params5] at hA hval
  obtain ⟨v0, vs0, d0, ds0, p0, q0, hargs, rfl, rfl, h0, r0⟩ := trodAll_cons hA
  obtain ⟨v1, vs1, d1, ds1, p1, q1, rfl, rfl, rfl, h1, r1⟩ := trodAll_cons r0
  obtain ⟨rfl, rfl, rfl⟩ := trodAll_nil r1
  obtain rfl : args = #[v0, v1] := by cases args; simp_all
  obtain ⟨rfl, rfl⟩ := trodVars_none hV
  obtain ⟨a0, len0, cap0, rfl⟩ := okWide_slice Try.underlying23 (hval 0 23 v0 rfl rfl)
  have k0 := h0
  have lt0 : ∀ x ∈ p0, x.block < W.heap.size := by obtain ⟨m, hm⟩ := k0; exact DataW.trod_lt m _ _ _ hm
  obtain ⟨z0, w0⟩ : ∃ zs, IsRow .u8 W a0 len0 cap0 zs := by
    obtain ⟨fuel, hf⟩ := h0
    rcases open_ints Try.underlying23 Try.underlying5 (by kernel_rfl) hf with ⟨hcs, _⟩ | ⟨x, l, c, zs, hcs, _, hl, hm, hz, _, hcell, hwz⟩
    · simp [Value.cells] at hcs
      obtain ⟨rfl, rfl, rfl⟩ := hcs
      exact ⟨[], .inl ⟨rfl, rfl, rfl, rfl⟩⟩
    · simp [Value.cells] at hcs
      obtain ⟨rfl, rfl, rfl⟩ := hcs
      exact ⟨zs, .inr ⟨_, rfl, hl, hm, by simpa using hz, hcell, hwz⟩⟩
  obtain ⟨a1, rfl, rfl, rfl, w1⟩ := open_int Try.underlying3 (hval 1 3 v1 rfl rfl) h1
  clear hA0 hval0
  refine (walk a0 len0 cap0 z0 a1 W w0 w1).mono fun e W' ⟨he, bel⟩ => ?_
  subst he
  exact ⟨_, rfl, _, _, _, [], _, [], hW', trodAll_mk1 (shut_bool Try.underlying4 _), (trodAll_cons_mk (Below.trod laidOut (by kernel_rfl) (of_decide_eq_true (by kernel_rfl)) k0 bel lt0) (trodAll_cons_mk (shut_int Try.underlying3 w1) trodAll_mk0)), rfl, bel.frame _, fun h => by cases h⟩

theorem over : Rows.fnExactGetNumberRow.holds Try.pinned (OpenSpec.ofChange Rows.fnExactGetNumberSpec) :=
  OpenClaim.holds_of_wide 5 Try.f5 rfl rfl rfl rfl rfl rfl rfl ⟨rfl, rfl, rfl, rfl, rfl⟩ rfl rfl rfl rfl rfl (by kernel_rfl) Try.func5 (by kernel_rfl)
    (of_decide_eq_true (by kernel_rfl)) (by unfold Func.isWrapper; first | (rw [if_pos (by decide +kernel)]; kernel_rfl) | (rw [if_neg (by decide +kernel)]; exact ⟨rfl, rfl⟩))
    (fun os started H enc _ => lifted os started H enc)

/-- ████ THE STATEMENT ████ -/
theorem proved : Rows.FnExactGetNumberSaid := over
#print axioms proved
end Go.Proofs.Yteklkjbhlmdflae.fnExactGetNumber

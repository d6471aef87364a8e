/- FnExactSha returns true at all bytes and leaves them as they were: impl's Sha answers as the specification's; no condition. -/
import Derived.Test.YtkkildgdeagpeahSBlk
import Derived.Test.YtkkildgdeagpeahSSha
import Derived.Test.YtkkildgdeagpeahSHelp
import Derived.OpenShut
import Derived.ShutString
import Derived.ChangeOld
namespace Go.Proofs.Ytkkildgdeagpeah.fnExactSha
open Go.ChangeShapes Go.WideShapes Go.ChangeAt Go.RowKit
open Go.ChangeMaps (open_string shut_string)
open Go.Proofs.Ytkkildgdeagpeah.bytes Go.Proofs.Ytkkildgdeagpeah.pile Go.Proofs.Ytkkildgdeagpeah.rot Go.Proofs.Ytkkildgdeagpeah.arr Go.Proofs.Ytkkildgdeagpeah.rule Go.Proofs.Ytkkildgdeagpeah.pad Go.Proofs.Ytkkildgdeagpeah.dig Go.Proofs.Ytkkildgdeagpeah.keys Go.Proofs.Ytkkildgdeagpeah.isha Go.Proofs.Ytkkildgdeagpeah.specpr Go.Proofs.Ytkkildgdeagpeah.block Go.Proofs.Ytkkildgdeagpeah.ssha Go.Proofs.Ytkkildgdeagpeah.sblk Go.Proofs.Ytkkildgdeagpeah.shelp
set_option linter.unusedVariables false

theorem own : ownKnob Try.prog.godebug = none := by kernel_rfl
theorem laidOut : laidOutB Try.prog = true := by kernel_rfl

/-- WHAT THE WALK IS TOLD OF A SLICE OF INTEGERS THAT CAME IN: it is nil; or it leads to a row of 'cap' cells, the numbers 'zs' (the first 'len' are its elements, the rest its spare room), each fitting its kind. -/
def IsRow (k : IntKind) (w : World) (a : Option Addr) (len cap : Nat) (zs : List Int) : Prop :=
  (a = none ∧ len = 0 ∧ cap = 0 ∧ zs = []) ∨
  ∃ x, a = some x ∧ len ≤ cap ∧ cap ≤ maxLen ∧ zs.length = cap ∧ (∀ i, i < zs.length → w.cell? (x.add i) = some (.int k (zs.getD i 0))) ∧ ∀ n ∈ zs, (Lit.int k n).wf = true

theorem rd_of_row {w : World} {a : Option Addr} {len cap : Nat} {zs : List Int} (h : IsRow .u8 w a len cap zs) : ∃ xs : List Int, Rd w (.slice a len cap) xs ∧ xs.length = len := by
  rcases h with ⟨rfl, rfl, rfl, rfl⟩ | ⟨x, rfl, hl, hm, hz, hcell, hwz⟩
  · exact ⟨[], ⟨none, 0, rfl, by simp, by simp [maxLen], by simp, by simp⟩, rfl⟩
  · have hlen : (zs.take len).length = len := by simp; omega
    refine ⟨zs.take len, ⟨some x, cap, by rw [hlen], by omega, hm, ?_, fun hp => ?_⟩, hlen⟩
    · intro y hy
      have := hwz y (List.mem_of_mem_take hy)
      simpa [Lit.wf, IntKind.min, IntKind.max, IntKind.signed, IntKind.bits] using this
    · obtain ⟨b, off, spot⟩ := x
      have hc := hcell 0 (by omega)
      have hspot : spot = none := by simpa [Addr.add] using World.cell?_spot hc
      subst hspot
      refine ⟨b, off, rfl, fun i hi => ?_⟩
      have := hcell i (by omega)
      have hadd : (⟨b, off, none⟩ : Addr).add i = ⟨b, off + i, none⟩ := by
        unfold Addr.add
        split
        · rename_i h; subst h; rfl
        · rfl
      rw [hadd] at this
      rw [this]
      have hi' : i < len := by omega
      simp [List.getD_eq_getElem?_getD, hi']

theorem le_max_of {w : World} {v : Value} {xs : List Int} (h : Rd w v xs) : xs.length ≤ maxLen := by
  obtain ⟨ao, cap, _, h1, h2, _⟩ := h
  omega

theorem below_drewN {B : Nat} {a b : World} (h : Below B a b) (n : Nat) : Below B a (b.drewN n) := h.trans ⟨rfl, rfl, rfl, Nat.le_refl _, fun _ _ => rfl⟩
theorem blk : BlkE := fun w gh gk b o ch ck cap st bs ks h1 h2 h3 h4 h5 h6 h7 h8 h9 h10 h11 h12 h13 h14 => sblock_any w gh gk b o ch ck cap st bs ks h1 h2 h3 h4 h5 h6 h7 h8 h9 h10 h11 h12 h13 h14
/-- The key of a text: the same of the program and of the specification. -/
theorem both_sha (xs : List Int) : ∃ S : ByteArray, (∀ (w : World) (v : Value), RdA w v xs → Calls Try.prog 7 #[v] w fun e w' => e = .returned (.string S) ∧ Below w.heap.size w w') ∧ (∀ (w : World) (v : Value), RdA w v xs → Calls Try.prog 9 #[v] w fun e w' => e = .returned (.string S) ∧ Below w.heap.size w w') := by
  by_cases hl : 65536 < xs.length
  · refine ⟨⟨#[]⟩, fun w v h => ?_, fun w v h => ?_⟩
    · have h' := h
      obtain ⟨⟨ao, cap, rfl, _⟩, _⟩ := h'
      exact specSha_long w ao cap xs hl h
    · have h' := h
      obtain ⟨⟨ao, cap, rfl, _⟩, _⟩ := h'
      exact implSha_long w ao cap xs hl h
  · refine ⟨strOfNums (shaN xs), fun w v h => ?_, fun w v h => ?_⟩
    · have h' := h
      obtain ⟨⟨ao, cap, rfl, _⟩, _⟩ := h'
      exact specSha_any blk w ao cap xs (by omega) h
    · have h' := h
      obtain ⟨⟨ao, cap, rfl, _⟩, _⟩ := h'
      exact implSha_any w ao cap xs (by omega) h

set_option maxHeartbeats 1000000 in
theorem walk (a0 : Option Addr) (len0 cap0 : Nat) (z0 : List Int) (w : World) (w0 : IsRow .u8 w a0 len0 cap0 z0) :
    Calls Try.prog 3 #[.slice a0 len0 cap0] w fun e w' => e = .returned (.bool true) ∧ Below w.heap.size w w' := by
  obtain ⟨xs, HR, hlen⟩ : ∃ xs : List Int, Rd w (.slice a0 len0 cap0) xs ∧ xs.length = len0 := rd_of_row w0
  clear w0
  subst hlen
  have hm := le_max_of HR
  unfold maxLen at hm
  by_cases hbig : (1048576 : Int) < xs.length
  · go_enter Try.func3, Try.ntmps3
    go_wp2
    go_ret
    exact ⟨rfl, Below.refl _ _⟩
  · have hl48 : xs.length ≤ 281474976710656 := by omega
    obtain ⟨S, hS, hI⟩ := both_sha xs
    have HRh := hide HR
    clear HR
    have HS := hide hS
    have HSI := hide hI
    clear hS hI
    go_enter Try.func3, Try.ntmps3
    go_wp2_with fail
    refine (to_own _ _ xs hl48 (by exact HRh.out)).mono ?_
    rintro e w1 ⟨v1, rfl, HO1, hb1⟩
    have HB1 := hide hb1
    have HQ := hide (HS.out w1 v1 (Own.rdA HO1))
    clear HO1 hb1
    go_wp2_with fail
    refine HQ.out.mono ?_
    rintro e w2 ⟨rfl, hb2⟩
    have HB2 : Hid (Below w.heap.size w w2) := hide (HB1.out.trans (hb2.mono HB1.out.size))
    clear HQ hb2 HB1
    go_wp2_with fail
    refine (to_own _ _ xs hl48 (by exact HRh.out.below HB2.out (Nat.le_refl _))).mono ?_
    rintro e w3 ⟨v3, rfl, HO3, hb3⟩
    have HB3 : Hid (Below w.heap.size w w3) := hide (HB2.out.trans (hb3.mono HB2.out.size))
    have HQ := hide (HSI.out w3 v3 (Own.rdA HO3))
    have HO3h := hide HO3
    clear HO3 hb3 HB2
    go_wp2_with fail
    refine HQ.out.mono ?_
    rintro e w4 ⟨rfl, hb4⟩
    have HB4 : Hid (Below w.heap.size w w4) := hide (HB3.out.trans (hb4.mono HB3.out.size))
    have HO4 := hide (HO3h.out.below hb4 (Nat.le_refl _))
    clear HQ hb4 HB3 HO3h
    go_wp2_with fail
    refine (to_own _ _ xs hl48 (by exact HRh.out.below HB4.out (Nat.le_refl _))).mono ?_
    rintro e w5 ⟨v5, rfl, HO5, hb5⟩
    have HB5 : Hid (Below w.heap.size w w5) := hide (HB4.out.trans (hb5.mono HB4.out.size))
    have HE := hide (eq_same _ v3 v5 xs (HO4.out.below hb5 (Nat.le_refl _)).rd HO5.rd)
    clear HO5 hb5 HO4 HB4
    go_wp2_with fail
    refine HE.out.mono ?_
    rintro e w6 ⟨rfl, n6, rfl⟩
    have HB6 := hide (below_drewN HB5.out n6)
    clear HE
    go_wp2
    go_ret
    exact ⟨rfl, HB6.out⟩

set_option maxRecDepth 100000 in
theorem lifted (os : Os) (started : os.Started) (H : Type) (enc : TypeId × Value → H) :
    ReturnsInHanded {} Try.checked os 3 .any (Rows.fnExactShaSpec.pre6 enc Try.prog Try.f3 Rows.fnExactShaRow.domain false) (Rows.fnExactShaSpec.post enc Try.prog Try.f3 false true false false) := by
  refine returnsInHanded_of_change (C := Try.checked) own started (by kernel_rfl) Try.func3
    (ChangeSpec.witness6 (enc := enc) (C := Try.checked) false ⟨#[], #[.slice none 0 0], []⟩ 8 (by kernel_rfl) (by kernel_rfl) (by kernel_rfl) (by kernel_rfl)) ?_
  intro W base args ds gs before hval0 hW hcnd _
  have hval : ∀ (j : Nat) t v, Try.f3.params[j]? = some t → args[j]? = some v → Value.okWide Try.prog W .any base t v := hval0
  have hW' := hW
  obtain ⟨p, q, hA0, hV, rfl, hfz, hnd⟩ := hW
  have hA : DataW.TrodAll enc Try.prog W 0 (fun _ => true) true Try.f3.params.toList args.toList ds p := hA0
  rw [Try.params3] at hA hval
  obtain ⟨v0, vs0, d0, ds0, p0, q0, hargs, rfl, rfl, h0, r0⟩ := trodAll_cons hA
  obtain ⟨rfl, rfl, rfl⟩ := trodAll_nil r0
  obtain rfl : args = #[v0] := by cases args; simp_all
  obtain ⟨rfl, rfl⟩ := trodVars_none hV
  obtain ⟨a0, len0, cap0, rfl⟩ := okWide_slice Try.underlying22 (hval 0 22 v0 rfl rfl)
  have k0 := h0
  have lt0 : ∀ x ∈ p0, x.block < W.heap.size := by obtain ⟨m, hm⟩ := k0; exact DataW.trod_lt m _ _ _ hm
  obtain ⟨z0, w0⟩ : ∃ zs, IsRow .u8 W a0 len0 cap0 zs := by
    obtain ⟨fuel, hf⟩ := h0
    rcases open_ints Try.underlying22 Try.underlying5 (by kernel_rfl) hf with ⟨hcs, _⟩ | ⟨x, l, c, zs, hcs, _, hl, hm, hz, _, hcell, hwz⟩
    · simp [Value.cells] at hcs
      obtain ⟨rfl, rfl, rfl⟩ := hcs
      exact ⟨[], .inl ⟨rfl, rfl, rfl, rfl⟩⟩
    · simp [Value.cells] at hcs
      obtain ⟨rfl, rfl, rfl⟩ := hcs
      exact ⟨zs, .inr ⟨_, rfl, hl, hm, by simpa using hz, hcell, hwz⟩⟩
  clear hA0 hval0
  refine (walk a0 len0 cap0 z0 W w0).mono fun e W' ⟨he, bel⟩ => ?_
  subst he
  exact ⟨_, rfl, _, _, _, [], _, [], hW', trodAll_mk1 (shut_bool Try.underlying4 _), (trodAll_cons_mk (Below.trod laidOut (by kernel_rfl) (of_decide_eq_true (by kernel_rfl)) k0 bel lt0) trodAll_mk0), rfl, bel.frame _, fun h => by cases h⟩

theorem over : Rows.fnExactShaRow.holds Try.pinned (OpenSpec.ofChange Rows.fnExactShaSpec) :=
  OpenClaim.holds_of_wide 3 Try.f3 rfl rfl rfl rfl rfl rfl rfl ⟨rfl, rfl, rfl, rfl, rfl⟩ rfl rfl rfl rfl rfl (by kernel_rfl) Try.func3 (by kernel_rfl)
    (of_decide_eq_true (by kernel_rfl)) (by unfold Func.isWrapper; first | (rw [if_pos (by decide +kernel)]; kernel_rfl) | (rw [if_neg (by decide +kernel)]; exact ⟨rfl, rfl⟩))
    (fun os started H enc _ => lifted os started H enc)

/-- ████ THE STATEMENT ████ -/
theorem proved : Rows.FnExactShaSaid := over
#print axioms proved
end Go.Proofs.Ytkkildgdeagpeah.fnExactSha

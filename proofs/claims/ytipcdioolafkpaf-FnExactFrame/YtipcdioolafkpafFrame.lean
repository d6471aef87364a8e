/- FnExactFrame returns true at all bytes and leaves them as they were: impl's Frame answers as the specification's, in memory of its own; no condition. -/
import Derived.Test.YtipcdioolafkpafFrames
import Derived.OpenShut
import Derived.ShutString
import Derived.ChangeOld
namespace Go.Proofs.Ytipcdioolafkpaf.fnExactFrame
open Go.ChangeShapes Go.WideShapes Go.ChangeAt Go.RowKit
open Go.ChangeMaps (open_string shut_string)
open Go.Proofs.Ytipcdioolafkpaf.bytes Go.Proofs.Ytipcdioolafkpaf.pile Go.Proofs.Ytipcdioolafkpaf.put Go.Proofs.Ytipcdioolafkpaf.crcs Go.Proofs.Ytipcdioolafkpaf.join Go.Proofs.Ytipcdioolafkpaf.frames
set_option linter.unusedVariables false

theorem own : ownKnob Try.prog.godebug = none := by kernel_rfl
theorem laidOut : laidOutB Try.prog = true := by kernel_rfl

/-- WHAT THE WALK IS TOLD OF A SLICE OF INTEGERS THAT CAME IN: it is nil; or it leads to a row of 'cap' cells, the numbers 'zs' (the first 'len' are its elements, the rest its spare room), each fitting its kind. -/
def IsRow (k : IntKind) (w : World) (a : Option Addr) (len cap : Nat) (zs : List Int) : Prop :=
  (a = none ∧ len = 0 ∧ cap = 0 ∧ zs = []) ∨
  ∃ x, a = some x ∧ len ≤ cap ∧ cap ≤ maxLen ∧ zs.length = cap ∧ (∀ i, i < zs.length → w.cell? (x.add i) = some (.int k (zs.getD i 0))) ∧ ∀ n ∈ zs, (Lit.int k n).wf = true

theorem rd_of_row {w : World} {a : Option Addr} {len cap : Nat} {zs : List Int} (h : IsRow .u8 w a len cap zs) : ∃ xs : List Int, Rd w (.slice a len cap) xs ∧ xs.length = len := by
  rcases h with ⟨rfl, rfl, rfl, rfl⟩ | ⟨x, rfl, hl, hm, hz, hcell, hwz⟩
  · exact ⟨[], ⟨none, 0, rfl, by simp, by simp [maxLen], by simp, by simp⟩, rfl⟩
  · have hlen : (zs.take len).length = len := by simp; omega
    refine ⟨zs.take len, ⟨some x, cap, by rw [hlen], by omega, hm, ?_, fun hp => ?_⟩, hlen⟩
    · intro y hy
      have := hwz y (List.mem_of_mem_take hy)
      simpa [Lit.wf, IntKind.min, IntKind.max, IntKind.signed, IntKind.bits] using this
    · obtain ⟨b, off, spot⟩ := x
      have hc := hcell 0 (by omega)
      have hspot : spot = none := by simpa [Addr.add] using World.cell?_spot hc
      subst hspot
      refine ⟨b, off, rfl, fun i hi => ?_⟩
      have := hcell i (by omega)
      have hadd : (⟨b, off, none⟩ : Addr).add i = ⟨b, off + i, none⟩ := by
        unfold Addr.add
        split
        · rename_i h; subst h; rfl
        · rfl
      rw [hadd] at this
      rw [this]
      have hi' : i < len := by omega
      simp [List.getD_eq_getElem?_getD, hi']

theorem le_max_of {w : World} {v : Value} {xs : List Int} (h : Rd w v xs) : xs.length ≤ maxLen := by
  obtain ⟨ao, cap, _, h1, h2, _⟩ := h
  omega

theorem frameA_len (xs : List Int) : (frameA xs).length ≤ 65550 := by
  unfold frameA
  split
  · exact frameN_len (by omega)
  · simp
/-- What is owned stays owned where another row is written. -/
theorem own_kept {w w' : World} {base : Nat} {v u : Value} {xs : List Int} (h : Own w base v xs) (hg : w.grownBy w' u.ownBlock) (hne : ∀ k, u.ownBlock = some k → v.ownBlock ≠ some k) : Own w' base v xs := by
  refine ⟨h.1, World.ownsRow.kept h.2 hg ?_⟩
  cases hv : v.ownBlock with
  | none => exact .inl rfl
  | some k => exact .inr (fun e => hne k e.symm hv)

set_option maxHeartbeats 1000000 in
theorem walk (a0 : Option Addr) (len0 cap0 : Nat) (z0 : List Int) (w : World) (w0 : IsRow .u8 w a0 len0 cap0 z0) :
    Calls Try.prog 4 #[.slice a0 len0 cap0] w fun e w' => e = .returned (.bool true) ∧ Below w.heap.size w w' := by
  obtain ⟨xs, HR, hlen⟩ : ∃ xs : List Int, Rd w (.slice a0 len0 cap0) xs ∧ xs.length = len0 := rd_of_row w0
  clear w0
  subst hlen
  have hm := le_max_of HR
  unfold maxLen at hm
  by_cases hbig : (1048576 : Int) < xs.length
  · go_enter Try.func4, Try.ntmps4
    go_wp2
    go_ret
    exact ⟨rfl, Below.refl _ _⟩
  · have hl48 : xs.length ≤ 281474976710656 := by omega
    have hF := frameA_len xs
    go_enter Try.func4, Try.ntmps4
    go_wp2_with fail
    refine (to_own _ _ xs hl48 (by exact HR)).mono ?_
    rintro e w1 ⟨v1, rfl, HO1, hb1⟩
    have s1 := hb1.size
    go_wp2_with fail
    refine (specFrame _ _ xs (Own.rdA HO1)).mono ?_
    rintro e w2 ⟨vW, rfl, HW, hb2⟩
    have s2 := hb2.size
    have bw2 : Below w.heap.size w w2 := hb1.trans (hb2.mono s1)
    clear HO1
    go_wp2_with fail
    refine (to_own _ _ xs hl48 (by exact HR.below bw2 (Nat.le_refl _))).mono ?_
    rintro e w3 ⟨x0, rfl, HX, hb3⟩
    have s3 := hb3.size
    go_wp2_with fail
    refine (implFrame _ _ xs (Own.rdA HX)).mono ?_
    rintro e w4 ⟨g0, rfl, HG, hb4⟩
    have s4 := hb4.size
    have b24 : Below w2.heap.size w2 w4 := hb3.trans (hb4.mono s3)
    have bw4 : Below w.heap.size w w4 := bw2.trans (b24.mono (by omega))
    obtain ⟨F, hFe⟩ : ∃ F, F = frameA xs := ⟨_, rfl⟩
    have HFe : Hid (F = frameA xs) := hFe
    rw [← hFe] at hF HW HG
    clear hFe
    have HW4 := HW.below b24 (Nat.le_refl _)
    go_wp2_with fail
    refine (eq_same _ _ _ F HG.rd HW4.rd).mono ?_
    rintro e w5 ⟨rfl, n5, rfl⟩
    go_wp2_with fail
    refine (to_own _ _ xs hl48 (by exact HR.below (below_drewN bw4 n5) (Nat.le_refl _))).mono ?_
    rintro e w6 ⟨v6, rfl, HO6, hb6⟩
    have hb6' : Below w4.heap.size w4 w6 := ⟨hb6.os, hb6.tape, hb6.output, hb6.size, hb6.block⟩
    have s6 := hb6'.size
    have HX6 := HX.below (hb4.trans (hb6'.mono s4)) (Nat.le_refl _)
    clear hb6
    go_wp2_with fail
    refine (eq_same _ _ _ xs HX6.rd HO6.rd).mono ?_
    rintro e w7 ⟨rfl, n7, rfl⟩
    clear HO6
    go_wp2_with fail
    refine (mark_own _ w2.heap.size x0 1 xs (by omega) (by omega) (by exact HX6)).mono ?_
    rintro e w8 ⟨rfl, HX8, hg8⟩
    have b28 : Below w2.heap.size w2 w8 := (below_drewN (b24.trans (hb6'.mono (by omega))) n7).grown hg8 (by show w2.heap.size ≤ w6.heap.size; omega) (fun k hk => (HX6.lt k hk).1)
    have HW8 := HW.below b28 (Nat.le_refl _)
    have HG6 := HG.below hb6' (Nat.le_refl _)
    have HG8 : Own w8 w3.heap.size g0 F := own_kept (w := w6.drewN n7) HG6 hg8 (fun k hk => by
      have h1 := (HX.lt k hk).2
      intro h2
      have h3 := (HG6.lt k h2).1
      omega)
    have s8 : w3.heap.size ≤ w8.heap.size := by have := hg8.size; simp at this; omega
    clear HX6 HG6 HX8
    go_wp2_with fail
    refine (eq_same _ _ _ F HG8.rd HW8.rd).mono ?_
    rintro e w9 ⟨rfl, n9, rfl⟩
    go_wp2_with fail
    refine (mark_own _ w3.heap.size g0 1 F (by omega) (by omega) (by exact HG8)).mono ?_
    rintro e w10 ⟨rfl, HG10, hg10⟩
    have b210 : Below w2.heap.size w2 w10 := (below_drewN b28 n9).grown hg10 (by show w2.heap.size ≤ w8.heap.size; omega) (fun k hk => by have := (HG8.lt k hk).1; omega)
    have bw10 : Below w.heap.size w w10 := bw2.trans (b210.mono (by omega))
    have s10 := b210.size
    go_wp2_with fail
    refine (held_same _ g0 1 F.length (by omega) (by omega) HG10.rd).mono ?_
    rintro e w11 ⟨rfl, rfl⟩
    go_wp2_with fail
    refine (to_own _ _ xs hl48 (by exact HR.below bw10 (Nat.le_refl _))).mono ?_
    rintro e w12 ⟨v12, rfl, HO12, hb12⟩
    have s12 := hb12.size
    go_wp2_with fail
    refine (implFrame _ _ xs (Own.rdA HO12)).mono ?_
    rintro e w13 ⟨h0, rfl, HH, hb13⟩
    rw [← HFe.out] at HH
    have b1013 := hb12.trans (hb13.mono s12)
    have HW13 := HW.below (b210.trans (b1013.mono s10)) (Nat.le_refl _)
    have HG13 := HG10.below b1013 (Nat.le_refl _)
    have bw13 := bw10.trans (b1013.mono (by omega))
    clear HO12
    go_wp2_with fail
    refine (eq_same _ _ _ F HH.rd HW13.rd).mono ?_
    rintro e w14 ⟨rfl, n14, rfl⟩
    go_wp2_with fail
    refine (held_same _ g0 1 F.length (by omega) (by omega) (by exact HG13.rd)).mono ?_
    rintro e w15 ⟨rfl, rfl⟩
    go_wp2
    go_ret
    exact ⟨rfl, below_drewN bw13 n14⟩

set_option maxRecDepth 100000 in
theorem lifted (os : Os) (started : os.Started) (H : Type) (enc : TypeId × Value → H) :
    ReturnsInHanded {} Try.checked os 4 .any (Rows.fnExactFrameSpec.pre6 enc Try.prog Try.f4 Rows.fnExactFrameRow.domain false) (Rows.fnExactFrameSpec.post enc Try.prog Try.f4 false true false false) := by
  refine returnsInHanded_of_change (C := Try.checked) own started (by kernel_rfl) Try.func4
    (ChangeSpec.witness6 (enc := enc) (C := Try.checked) false ⟨#[], #[.slice none 0 0], []⟩ 8 (by kernel_rfl) (by kernel_rfl) (by kernel_rfl) (by kernel_rfl)) ?_
  intro W base args ds gs before hval0 hW hcnd _
  have hval : ∀ (j : Nat) t v, Try.f4.params[j]? = some t → args[j]? = some v → Value.okWide Try.prog W .any base t v := hval0
  have hW' := hW
  obtain ⟨p, q, hA0, hV, rfl, hfz, hnd⟩ := hW
  have hA : DataW.TrodAll enc Try.prog W 0 (fun _ => true) true Try.f4.params.toList args.toList ds p := hA0
  rw [Try.params4] at hA hval
  obtain ⟨v0, vs0, d0, ds0, p0, q0, hargs, rfl, rfl, h0, r0⟩ := trodAll_cons hA
  obtain ⟨rfl, rfl, rfl⟩ := trodAll_nil r0
  obtain rfl : args = #[v0] := by cases args; simp_all
  obtain ⟨rfl, rfl⟩ := trodVars_none hV
  obtain ⟨a0, len0, cap0, rfl⟩ := okWide_slice Try.underlying22 (hval 0 22 v0 rfl rfl)
  have k0 := h0
  have lt0 : ∀ x ∈ p0, x.block < W.heap.size := by obtain ⟨m, hm⟩ := k0; exact DataW.trod_lt m _ _ _ hm
  obtain ⟨z0, w0⟩ : ∃ zs, IsRow .u8 W a0 len0 cap0 zs := by
    obtain ⟨fuel, hf⟩ := h0
    rcases open_ints Try.underlying22 Try.underlying5 (by kernel_rfl) hf with ⟨hcs, _⟩ | ⟨x, l, c, zs, hcs, _, hl, hm, hz, _, hcell, hwz⟩
    · simp [Value.cells] at hcs
      obtain ⟨rfl, rfl, rfl⟩ := hcs
      exact ⟨[], .inl ⟨rfl, rfl, rfl, rfl⟩⟩
    · simp [Value.cells] at hcs
      obtain ⟨rfl, rfl, rfl⟩ := hcs
      exact ⟨zs, .inr ⟨_, rfl, hl, hm, by simpa using hz, hcell, hwz⟩⟩
  clear hA0 hval0
  refine (walk a0 len0 cap0 z0 W w0).mono fun e W' ⟨he, bel⟩ => ?_
  subst he
  exact ⟨_, rfl, _, _, _, [], _, [], hW', trodAll_mk1 (shut_bool Try.underlying4 _), (trodAll_cons_mk (Below.trod laidOut (by kernel_rfl) (of_decide_eq_true (by kernel_rfl)) k0 bel lt0) trodAll_mk0), rfl, bel.frame _, fun h => by cases h⟩

theorem over : Rows.fnExactFrameRow.holds Try.pinned (OpenSpec.ofChange Rows.fnExactFrameSpec) :=
  OpenClaim.holds_of_wide 4 Try.f4 rfl rfl rfl rfl rfl rfl rfl ⟨rfl, rfl, rfl, rfl, rfl⟩ rfl rfl rfl rfl rfl (by kernel_rfl) Try.func4 (by kernel_rfl)
    (of_decide_eq_true (by kernel_rfl)) (by unfold Func.isWrapper; first | (rw [if_pos (by decide +kernel)]; kernel_rfl) | (rw [if_neg (by decide +kernel)]; exact ⟨rfl, rfl⟩))
    (fun os started H enc _ => lifted os started H enc)

/-- ████ THE STATEMENT ████ -/
theorem proved : Rows.FnExactFrameSaid := over
#print axioms proved
end Go.Proofs.Ytipcdioolafkpaf.fnExactFrame

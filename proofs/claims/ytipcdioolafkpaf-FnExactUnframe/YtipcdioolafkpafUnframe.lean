/- FnExactUnframe returns true at all bytes and leaves them as they were: impl's Unframe answers as the specification's, in memory of its own; no condition. -/
import Derived.Test.YtipcdioolafkpafSpecs
import Derived.OpenShut
import Derived.ShutString
import Derived.ChangeOld
namespace Go.Proofs.Ytipcdioolafkpaf.fnExactUnframe
open Go.ChangeShapes Go.WideShapes Go.ChangeAt Go.RowKit
open Go.ChangeMaps (open_string shut_string)
open Go.Proofs.Ytipcdioolafkpaf.bytes Go.Proofs.Ytipcdioolafkpaf.pile Go.Proofs.Ytipcdioolafkpaf.put Go.Proofs.Ytipcdioolafkpaf.get Go.Proofs.Ytipcdioolafkpaf.dec Go.Proofs.Ytipcdioolafkpaf.crcs Go.Proofs.Ytipcdioolafkpaf.join Go.Proofs.Ytipcdioolafkpaf.frames Go.Proofs.Ytipcdioolafkpaf.take Go.Proofs.Ytipcdioolafkpaf.reader Go.Proofs.Ytipcdioolafkpaf.one Go.Proofs.Ytipcdioolafkpaf.many Go.Proofs.Ytipcdioolafkpaf.lists Go.Proofs.Ytipcdioolafkpaf.specs
set_option linter.unusedVariables false

theorem own : ownKnob Try.prog.godebug = none := by kernel_rfl
theorem laidOut : laidOutB Try.prog = true := by kernel_rfl

/-- WHAT THE WALK IS TOLD OF A SLICE OF INTEGERS THAT CAME IN: it is nil; or it leads to a row of 'cap' cells, the numbers 'zs' (the first 'len' are its elements, the rest its spare room), each fitting its kind. -/
def IsRow (k : IntKind) (w : World) (a : Option Addr) (len cap : Nat) (zs : List Int) : Prop :=
  (a = none ∧ len = 0 ∧ cap = 0 ∧ zs = []) ∨
  ∃ x, a = some x ∧ len ≤ cap ∧ cap ≤ maxLen ∧ zs.length = cap ∧ (∀ i, i < zs.length → w.cell? (x.add i) = some (.int k (zs.getD i 0))) ∧ ∀ n ∈ zs, (Lit.int k n).wf = true

theorem rd_of_row {w : World} {a : Option Addr} {len cap : Nat} {zs : List Int} (h : IsRow .u8 w a len cap zs) : ∃ xs : List Int, Rd w (.slice a len cap) xs ∧ xs.length = len := by
  rcases h with ⟨rfl, rfl, rfl, rfl⟩ | ⟨x, rfl, hl, hm, hz, hcell, hwz⟩
  · exact ⟨[], ⟨none, 0, rfl, by simp, by simp [maxLen], by simp, by simp⟩, rfl⟩
  · have hlen : (zs.take len).length = len := by simp; omega
    refine ⟨zs.take len, ⟨some x, cap, by rw [hlen], by omega, hm, ?_, fun hp => ?_⟩, hlen⟩
    · intro y hy
      have := hwz y (List.mem_of_mem_take hy)
      simpa [Lit.wf, IntKind.min, IntKind.max, IntKind.signed, IntKind.bits] using this
    · obtain ⟨b, off, spot⟩ := x
      have hc := hcell 0 (by omega)
      have hspot : spot = none := by simpa [Addr.add] using World.cell?_spot hc
      subst hspot
      refine ⟨b, off, rfl, fun i hi => ?_⟩
      have := hcell i (by omega)
      have hadd : (⟨b, off, none⟩ : Addr).add i = ⟨b, off + i, none⟩ := by
        unfold Addr.add
        split
        · rename_i h; subst h; rfl
        · rfl
      rw [hadd] at this
      rw [this]
      have hi' : i < len := by omega
      simp [List.getD_eq_getElem?_getD, hi']

theorem le_max_of {w : World} {v : Value} {xs : List Int} (h : Rd w v xs) : xs.length ≤ maxLen := by
  obtain ⟨ao, cap, _, h1, h2, _⟩ := h
  omega

/-- An answer that is a list of lists of bytes, in memory of its own. -/
structure Ans (w : World) (base : Nat) (v : Value) (us : List Value) (xss : List (List Int)) : Prop where
  row : w.ownsRow base 22 1 v us.length us
  pile : Pile w base us xss
theorem Ans.rdS {w : World} {base : Nat} {v : Value} {us : List Value} {xss : List (List Int)} (h : Ans w base v us xss) : RdS w v us := row_rdS h.row
theorem Ans.texts {w : World} {base : Nat} {v : Value} {us : List Value} {xss : List (List Int)} (h : Ans w base v us xss) : Texts w us xss := h.pile.texts
theorem Ans.below {w w' : World} {base B : Nat} {v : Value} {us : List Value} {xss : List (List Int)} (h : Ans w base v us xss) (hb : Below B w w') (hB : w.heap.size ≤ B) : Ans w' base v us xss where
  row := by
    obtain ⟨h1, h2 | ⟨g, c, cur, hv, hbg, hg, r⟩⟩ := h.row
    · exact ⟨h1, .inl h2⟩
    · exact ⟨h1, .inr ⟨g, c, cur, hv, hbg, (hb.block g (Nat.lt_of_lt_of_le (Array.getElem?_eq_some_iff.1 hg).1 hB)).trans hg, r⟩⟩
  pile := h.pile.below hb hB
/-- It stays as it is where a row of elder memory is written. -/
theorem Ans.kept {w w' : World} {base : Nat} {v : Value} {us : List Value} {xss : List (List Int)} {row : Option Nat} (h : Ans w base v us xss) (hg : w.grownBy w' row) (hlt : ∀ k, row = some k → k < base) : Ans w' base v us xss where
  row := World.ownsRow.kept h.row hg (by
    cases hv : v.ownBlock with
    | none => exact .inl rfl
    | some k => exact .inr fun e => by have h1 := hlt k e.symm; have h2 := (World.ownsRow.lt h.row k hv).1; omega)
  pile := ⟨h.pile.1, fun i hi => own_kept (h.pile.2.1 i hi) hg (by
    cases hv : (us.getD i (.slice none 0 0)).ownBlock with
    | none => exact .inl rfl
    | some k => exact .inr fun e => by have h1 := hlt k e.symm; have h2 := ((h.pile.2.1 i hi).lt k hv).1; omega), h.pile.2.2⟩

theorem frameAt_pay {l : List Int} (h : (frameAt l).1 = -1) : (frameAt l).2.1.length ≤ (frameAt l).2.2 := by
  unfold frameAt at h ⊢
  by_cases h1 : (getR 9 0 0 l).2.2 = 1
  · rw [if_pos h1] at h; simp at h
  · by_cases h2 : (getR 9 0 0 l).2.2 = 2
    · rw [if_neg h1, if_pos h2] at h; simp at h
    · by_cases h3 : 4096 < (getR 9 0 0 l).1
      · rw [if_neg h1, if_neg h2, if_pos h3] at h; simp at h
      · by_cases h4 : l.length < (getR 9 0 0 l).2.1 + ((getR 9 0 0 l).1.toNat + 4)
        · rw [if_neg h1, if_neg h2, if_neg h3, if_pos h4] at h; simp at h
        · rw [if_neg h1, if_neg h2, if_neg h3, if_neg h4] at h ⊢
          split at h
          · rename_i h5
            rw [if_pos h5]
            simp only [List.length_take]
            omega
          · simp at h
theorem allF_flat : ∀ (f : Nat) (l : List Int), (allF f l).1.flatten.length ≤ l.length
  | 0, l => by simp [allF]
  | f + 1, l => by
    by_cases h : (frameAt l).1 = -1
    · rw [allF_more h]
      have h1 := frameAt_pay h
      have h2 := frameAt_size h
      have h3 := allF_flat f (l.drop (frameAt l).2.2)
      simp only [List.flatten_cons, List.length_append, List.length_drop] at h3 ⊢
      omega
    · rw [allF_end h]; simp
theorem unfA_flat (xs : List Int) : (unfA xs).1.flatten.length ≤ 65536 := by
  unfold unfA
  split
  · simp
  · have := allF_flat (xs.length + 1) xs
    split
    · omega
    · simp

set_option maxHeartbeats 1000000 in
theorem walk (a0 : Option Addr) (len0 cap0 : Nat) (z0 : List Int) (w : World) (w0 : IsRow .u8 w a0 len0 cap0 z0) :
    Calls Try.prog 5 #[.slice a0 len0 cap0] w fun e w' => e = .returned (.bool true) ∧ Below w.heap.size w w' := by
  obtain ⟨xs, HR, hlen⟩ : ∃ xs : List Int, Rd w (.slice a0 len0 cap0) xs ∧ xs.length = len0 := rd_of_row w0
  clear w0
  subst hlen
  have hm := le_max_of HR
  unfold maxLen at hm
  by_cases hbig : (1048576 : Int) < xs.length
  · go_enter Try.func5, Try.ntmps5
    go_wp2
    go_ret
    exact ⟨rfl, Below.refl _ _⟩
  · have hl48 : xs.length ≤ 281474976710656 := by omega
    have hF := unfA_flat xs
    go_enter Try.func5, Try.ntmps5
    go_wp2_with fail
    refine (to_own _ _ xs hl48 (by exact HR)).mono ?_
    rintro e w1 ⟨v1, rfl, HO1, hb1⟩
    have s1 := hb1.size
    go_wp2_with fail
    refine (specUnframe _ _ xs (Own.rdA HO1)).mono ?_
    rintro e w2 ⟨vW, usW, rfl, hrW, hpW, hb2⟩
    have HW : Ans w2 w1.heap.size vW usW (unfA xs).1 := ⟨hrW, hpW⟩
    have s2 := hb2.size
    have bw2 : Below w.heap.size w w2 := hb1.trans (hb2.mono s1)
    clear HO1 hrW hpW
    go_wp2_with fail
    refine (to_own _ _ xs hl48 (by exact HR.below bw2 (Nat.le_refl _))).mono ?_
    rintro e w3 ⟨x0, rfl, HX, hb3⟩
    have s3 := hb3.size
    go_wp2_with fail
    refine (implUnframe _ _ xs (Own.rdA HX)).mono ?_
    rintro e w4 ⟨g0, usG, rfl, hrG, hpG, hb4⟩
    have HG : Ans w4 w3.heap.size g0 usG (unfA xs).1 := ⟨hrG, hpG⟩
    clear hrG hpG
    have s4 := hb4.size
    have b24 : Below w2.heap.size w2 w4 := hb3.trans (hb4.mono s3)
    have bw4 : Below w.heap.size w w4 := bw2.trans (b24.mono (by omega))
    obtain ⟨F, hFe⟩ : ∃ F, F = (unfA xs).1 := ⟨_, rfl⟩
    obtain ⟨K, hKe⟩ : ∃ K, K = (unfA xs).2.1 := ⟨_, rfl⟩
    obtain ⟨C, hCe⟩ : ∃ C, C = (unfA xs).2.2 := ⟨_, rfl⟩
    have HFe : Hid (F = (unfA xs).1 ∧ K = (unfA xs).2.1 ∧ C = (unfA xs).2.2) := ⟨hFe, hKe, hCe⟩
    rw [← hFe] at hF HW HG
    rw [← hKe, ← hCe]
    clear hFe hKe hCe
    have HW4 := HW.below b24 (Nat.le_refl _)
    have hneK : ((K : Int) != (K : Int)) = false := by simp
    have hneC : (C != C) = false := by simp
    go_wp2_with fail
    refine (eqs_same _ _ _ _ _ F HG.rdS HW4.rdS HG.texts HW4.texts).mono ?_
    rintro e w5 ⟨rfl, n5, rfl⟩
    go_wp2_with fail
    refine (to_own _ _ xs hl48 (by exact HR.below (below_drewN bw4 n5) (Nat.le_refl _))).mono ?_
    rintro e w6 ⟨v6, rfl, HO6, hb6⟩
    have hb6' : Below w4.heap.size w4 w6 := ⟨hb6.os, hb6.tape, hb6.output, hb6.size, hb6.block⟩
    have s6 := hb6'.size
    have HX6 := HX.below (hb4.trans (hb6'.mono s4)) (Nat.le_refl _)
    clear hb6
    go_wp2_with fail
    refine (eq_same _ _ _ xs HX6.rd HO6.rd).mono ?_
    rintro e w7 ⟨rfl, n7, rfl⟩
    clear HO6
    go_wp2_with fail
    refine (mark_own _ w2.heap.size x0 1 xs (by omega) (by omega) (by exact HX6)).mono ?_
    rintro e w8 ⟨rfl, HX8, hg8⟩
    have b28 : Below w2.heap.size w2 w8 := (below_drewN (b24.trans (hb6'.mono (by omega))) n7).grown hg8 (by show w2.heap.size ≤ w6.heap.size; omega) (fun k hk => (HX6.lt k hk).1)
    have HW8 := HW.below b28 (Nat.le_refl _)
    have HG6 := HG.below hb6' (Nat.le_refl _)
    have hg8' : w6.grownBy w8 x0.ownBlock := ⟨hg8.os, hg8.tape, hg8.output, hg8.size, hg8.block⟩
    have HG8 : Ans w8 w3.heap.size g0 usG F := HG6.kept hg8' (fun k hk => by have := (HX.lt k hk).2; omega)
    have s8 : w3.heap.size ≤ w8.heap.size := by have := hg8'.size; omega
    clear HX6 HG6 HX8 hg8 hg8'
    go_wp2_with fail
    refine (eqs_same _ _ _ _ _ F HG8.rdS HW8.rdS HG8.texts HW8.texts).mono ?_
    rintro e w9 ⟨rfl, n9, rfl⟩
    go_wp2_with fail
    refine (marks_own _ w3.heap.size g0 usG F 1 (by omega) (by omega) (by exact MP.of_pile 1 HG8.row HG8.pile) (by exact s8)).mono ?_
    rintro e w10 ⟨rfl, HM10, hb10⟩
    have hb10' : Below w3.heap.size w8 w10 := ⟨hb10.os, hb10.tape, hb10.output, hb10.size, hb10.block⟩
    have b210 : Below w2.heap.size w2 w10 := b28.trans (hb10'.mono (by omega))
    have bw10 : Below w.heap.size w w10 := bw2.trans (b210.mono (by omega))
    have s10 := b210.size
    clear hb10
    have hnn : ¬ (1 + (F.flatten.length : Int)) < 0 := by omega
    obtain ⟨T, hT⟩ : ∃ T, T = F.flatten.length := ⟨_, rfl⟩
    have HTe : Hid (T = F.flatten.length) := hT
    rw [← hT] at hnn ⊢
    clear hT
    go_wp2_with fail
    have HHeld : Hid (∀ wx, Below w10.heap.size w10 wx → Calls Try.prog 21 #[g0, .int .i64 1] wx fun e w' => e = .returned (.int .i64 (1 + T)) ∧ w' = wx) := fun wx hb => by
      rw [HTe.out]
      exact helds_same wx w3.heap.size g0 usG F 1 (by omega) (by omega) (HM10.below hb)
    refine (HHeld.out _ (Below.refl _ _)).mono ?_
    rintro e w11 ⟨rfl, rfl⟩
    go_wp2_with fail
    refine (to_own _ _ xs hl48 (by exact HR.below bw10 (Nat.le_refl _))).mono ?_
    rintro e w12 ⟨v12, rfl, HO12, hb12⟩
    have s12 := hb12.size
    go_wp2_with fail
    refine (implUnframe _ _ xs (Own.rdA HO12)).mono ?_
    rintro e w13 ⟨h0, usH, rfl, hrH, hpH, hb13⟩
    have HH : Ans w13 w12.heap.size h0 usH (unfA xs).1 := ⟨hrH, hpH⟩
    rw [← HFe.out.1] at HH
    rw [← HFe.out.2.1, ← HFe.out.2.2]
    have b1013 := hb12.trans (hb13.mono s12)
    have HW13 := HW.below (b210.trans (b1013.mono s10)) (Nat.le_refl _)
    have bw13 := bw10.trans (b1013.mono (by omega))
    clear HO12 hrH hpH
    go_wp2_with fail
    refine (eqs_same _ _ _ _ _ F HH.rdS HW13.rdS HH.texts HW13.texts).mono ?_
    rintro e w14 ⟨rfl, n14, rfl⟩
    go_wp2_with fail
    refine (HHeld.out _ (below_drewN b1013 n14)).mono ?_
    rintro e w15 ⟨rfl, rfl⟩
    go_wp2
    go_ret
    exact ⟨rfl, below_drewN bw13 n14⟩

set_option maxRecDepth 100000 in
theorem lifted (os : Os) (started : os.Started) (H : Type) (enc : TypeId × Value → H) :
    ReturnsInHanded {} Try.checked os 5 .any (Rows.fnExactUnframeSpec.pre6 enc Try.prog Try.f5 Rows.fnExactUnframeRow.domain false) (Rows.fnExactUnframeSpec.post enc Try.prog Try.f5 false true false false) := by
  refine returnsInHanded_of_change (C := Try.checked) own started (by kernel_rfl) Try.func5
    (ChangeSpec.witness6 (enc := enc) (C := Try.checked) false ⟨#[], #[.slice none 0 0], []⟩ 8 (by kernel_rfl) (by kernel_rfl) (by kernel_rfl) (by kernel_rfl)) ?_
  intro W base args ds gs before hval0 hW hcnd _
  have hval : ∀ (j : Nat) t v, Try.f5.params[j]? = some t → args[j]? = some v → Value.okWide Try.prog W .any base t v := hval0
  have hW' := hW
  obtain ⟨p, q, hA0, hV, rfl, hfz, hnd⟩ := hW
  have hA : DataW.TrodAll enc Try.prog W 0 (fun _ => true) true Try.f5.params.toList args.toList ds p := hA0
  rw [Try.params5] at hA hval
  obtain ⟨v0, vs0, d0, ds0, p0, q0, hargs, rfl, rfl, h0, r0⟩ := trodAll_cons hA
  obtain ⟨rfl, rfl, rfl⟩ := trodAll_nil r0
  obtain rfl : args = #[v0] := by cases args; simp_all
  obtain ⟨rfl, rfl⟩ := trodVars_none hV
  obtain ⟨a0, len0, cap0, rfl⟩ := okWide_slice Try.underlying22 (hval 0 22 v0 rfl rfl)
  have k0 := h0
  have lt0 : ∀ x ∈ p0, x.block < W.heap.size := by obtain ⟨m, hm⟩ := k0; exact DataW.trod_lt m _ _ _ hm
  obtain ⟨z0, w0⟩ : ∃ zs, IsRow .u8 W a0 len0 cap0 zs := by
    obtain ⟨fuel, hf⟩ := h0
    rcases open_ints Try.underlying22 Try.underlying5 (by kernel_rfl) hf with ⟨hcs, _⟩ | ⟨x, l, c, zs, hcs, _, hl, hm, hz, _, hcell, hwz⟩
    · simp [Value.cells] at hcs
      obtain ⟨rfl, rfl, rfl⟩ := hcs
      exact ⟨[], .inl ⟨rfl, rfl, rfl, rfl⟩⟩
    · simp [Value.cells] at hcs
      obtain ⟨rfl, rfl, rfl⟩ := hcs
      exact ⟨zs, .inr ⟨_, rfl, hl, hm, by simpa using hz, hcell, hwz⟩⟩
  clear hA0 hval0
  refine (walk a0 len0 cap0 z0 W w0).mono fun e W' ⟨he, bel⟩ => ?_
  subst he
  exact ⟨_, rfl, _, _, _, [], _, [], hW', trodAll_mk1 (shut_bool Try.underlying4 _), (trodAll_cons_mk (Below.trod laidOut (by kernel_rfl) (of_decide_eq_true (by kernel_rfl)) k0 bel lt0) trodAll_mk0), rfl, bel.frame _, fun h => by cases h⟩

theorem over : Rows.fnExactUnframeRow.holds Try.pinned (OpenSpec.ofChange Rows.fnExactUnframeSpec) :=
  OpenClaim.holds_of_wide 5 Try.f5 rfl rfl rfl rfl rfl rfl rfl ⟨rfl, rfl, rfl, rfl, rfl⟩ rfl rfl rfl rfl rfl (by kernel_rfl) Try.func5 (by kernel_rfl)
    (of_decide_eq_true (by kernel_rfl)) (by unfold Func.isWrapper; first | (rw [if_pos (by decide +kernel)]; kernel_rfl) | (rw [if_neg (by decide +kernel)]; exact ⟨rfl, rfl⟩))
    (fun os started H enc _ => lifted os started H enc)

/-- ████ THE STATEMENT ████ -/
theorem proved : Rows.FnExactUnframeSaid := over
#print axioms proved
end Go.Proofs.Ytipcdioolafkpaf.fnExactUnframe

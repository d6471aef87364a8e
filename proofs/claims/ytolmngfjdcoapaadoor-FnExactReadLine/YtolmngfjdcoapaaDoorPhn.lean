/- A number's text that is read: the program's side. -/
import Derived.Test.YtolmngfjdcoapaaDoorPhr
namespace Go.Proofs.YtolmngfjdcoapaaDoor.phr
open Go.ChangeShapes Go.WideShapes Go.ChangeAt Go.RowKit
open Go.Proofs.YtolmngfjdcoapaaDoor.bytes Go.Proofs.YtolmngfjdcoapaaDoor.pile Go.Proofs.YtolmngfjdcoapaaDoor.jhelp Go.Proofs.YtolmngfjdcoapaaDoor.num
set_option linter.unusedVariables false
theorem numS_nil : numS [] = none := by decide
theorem ba_of {l : List UInt8} {A : ByteArray} (h : l = A.data.toList) : (⟨l.toArray⟩ : ByteArray) = A := by
  subst h
  simp
theorem beq_toList (X A : ByteArray) : (X.toList == A.toList) = decide (X = A) := by
  rw [ByteArray.toList_eq, ByteArray.toList_eq]
  obtain ⟨⟨x⟩⟩ := X
  obtain ⟨⟨a⟩⟩ := A
  by_cases h : x = a
  · subst h; simp
  · simp [h]
/-- What Atoi leaves: a number, or a fault. -/
theorem atoi_any (w : World) (A : ByteArray) (hs : A.size < 4294967281) (hv : Vr w) :
    Calls Tryd.prog 31 #[.string A] w fun e w' => ∃ (v : Int) (x : Value), e = .returned (.tuple #[.int .i64 v, x]) ∧ ((Lib.atoiAll A.data.toList = .ok v ∧ x = .nilIface ∧ (-9223372036854775808 ≤ v ∧ v ≤ 9223372036854775807)) ∨ (numS A.data.toList = none ∧ ∃ t p, x = .iface t p)) ∧ Below w.heap.size w w' := by
  obtain ⟨t1, p1, h1⟩ := hv.syn
  obtain ⟨t2, p2, h2⟩ := hv.rng
  cases h : Lib.atoiAll A.data.toList with
  | ok v =>
    refine (Tryd.strconv_Atoi_ok A (by omega) v h w).mono ?_
    rintro e w' ⟨rfl, hw⟩
    refine ⟨v, _, rfl, .inl ⟨rfl, rfl, ?_⟩, ?_⟩
    · exact Lib.atoiAll_bounds h
    · rcases hw with rfl | ⟨t, rfl⟩
      · exact Below.refl _ _
      · exact Lib.bytesWorld_below w 5 t
  | «syntax» =>
    refine (Tryd.strconv_Atoi_syntax A (by omega) h _ w h1 (.inr ⟨_, _, rfl⟩)).mono ?_
    rintro e w' ⟨M, rfl, _, _, hb⟩
    refine ⟨0, _, rfl, .inr ⟨?_, _, _, rfl⟩, hb⟩
    cases hn : numS A.data.toList with
    | none => rfl
    | some m => rw [((alike _ _).1 hn).1] at h; cases h
  | range =>
    refine (Tryd.strconv_Atoi_range A (by omega) h _ w h2 (.inr ⟨_, _, rfl⟩)).mono ?_
    rintro e w' ⟨M, rfl, _, _, hb⟩
    refine ⟨_, _, rfl, .inr ⟨?_, _, _, rfl⟩, hb⟩
    cases hn : numS A.data.toList with
    | none => rfl
    | some m => rw [((alike _ _).1 hn).1] at h; cases h
/-- Behind a number: its value if the text is a number's, and the phrase is wrong if not. -/
def NumE (w : World) (b : Nat) (s : ByteArray) (f : Bool) (e : Ending) (w' : World) : Prop :=
  ∃ (v : Int) (f' : Bool), e = .returned (.int .i64 v) ∧ Ph w' b (cutB s) f' ∧ w.grownBy w' (some b) ∧ ((numS (cutA s).data.toList = some v ∧ f' = f) ∨ (numS (cutA s).data.toList = none ∧ f' = true))
set_option maxRecDepth 10000 in
set_option maxHeartbeats 2000000 in
theorem number_any (w : World) (b : Nat) (s : ByteArray) (f : Bool) (h : Ph w b s f) (hs : s.size < 4294967281) (hv : Vr w) (hb4 : 4 ≤ b) :
    Calls Tryd.prog 27 #[.pointer (some ⟨b, 0, none⟩)] w fun e w' => NumE w b s f e w' := by
  have hsz := (cut_size s).1
  obtain ⟨A, hA⟩ : ∃ A, cutA s = A := ⟨_, rfl⟩
  have HW : Hid (Calls Tryd.prog 14 #[.pointer (some ⟨b, 0, none⟩)] w fun e w1 => e = .returned (.string A) ∧ Hid (Calls Tryd.prog 31 #[.string A] w1 fun e w2 => ∃ (v : Int) (x : Value), e = .returned (.tuple #[.int .i64 v, x]) ∧
      ((x = .nilIface ∧ ∃ (X : ByteArray) (bq : Bool), (X.toList == A.toList) = (!bq) ∧ Hid (Calls Tryd.prog 32 #[.int .i64 v] w2 fun e w3 => e = .returned (.string X) ∧ (∃ f0, w3.cell? ⟨b, 1, none⟩ = some (.bool f0)) ∧ w3.frozen? ⟨b, 1, none⟩ = false ∧ Hid ((bq = false ∧ -999999999999999999 ≤ v ∧ v ≤ 999999999999999999 ∧ NumE w b s f (.returned (.int .i64 v)) w3) ∨ ((bq = true ∨ v < -999999999999999999 ∨ 999999999999999999 < v) ∧ NumE w b s f (.returned (.int .i64 v)) (w3.setCell ⟨b, 1, none⟩ (.bool true))))))
       ∨ ((∃ t p, x = .iface t p) ∧ (∃ f0, w2.cell? ⟨b, 1, none⟩ = some (.bool f0)) ∧ w2.frozen? ⟨b, 1, none⟩ = false ∧ Hid (NumE w b s f (.returned (.int .i64 v)) (w2.setCell ⟨b, 1, none⟩ (.bool true))))))) := by
    refine (word_any w b s f h hs hv).mono ?_
    rintro e w1 ⟨rfl, h1, g1⟩
    refine ⟨by rw [hA], ?_⟩
    have v1 := hv.grown g1 hb4
    rw [hA] at h1
    refine (atoi_any w1 A (by rw [← hA]; omega) v1).mono ?_
    rintro e w2 ⟨v, x, rfl, hx, b2⟩
    refine ⟨v, x, rfl, ?_⟩
    have h2 := h1.below b2
    have g2 : w.grownBy w2 (some b) := grown_tr g1 (grown_of b2)
    have wrong : ∀ {W : World} {f0 : Bool}, Ph W b (cutB s) f0 → w.grownBy W (some b) → numS A.data.toList = none → NumE w b s f (.returned (.int .i64 v)) (W.setCell ⟨b, 1, none⟩ (.bool true)) := fun hp hg hn => ⟨v, true, rfl, set1 hp true, grown_set hg 1 _, .inr ⟨by rw [hA]; exact hn, rfl⟩⟩
    rcases hx with ⟨hok, rfl, hb1, hb2⟩ | ⟨hno, hif⟩
    · refine .inl ⟨rfl, ⟨(Lib.itoa v).toArray⟩, !decide ((⟨(Lib.itoa v).toArray⟩ : ByteArray) = A), by rw [Bool.not_not]; exact beq_toList _ _, ?_⟩
      refine (Tryd.strconv_Itoa v hb1 hb2 w2 (v1.below b2).tab).mono ?_
      rintro e w3 ⟨rfl, k, os, rfl⟩
      have b3 := Lib.below_grow w2.heap.size w2 (Nat.le_refl _) k os
      have h3 := h2.below b3
      have g3 : w.grownBy _ (some b) := grown_tr g2 (grown_of b3)
      refine ⟨rfl, ⟨_, cell_of h3 rfl⟩, frozen_of h3 1, ?_⟩
      by_cases hn : ∃ m, numS A.data.toList = some m
      · obtain ⟨m, hm⟩ := hn
        obtain ⟨a1, a2, a3, a4⟩ := (alike _ _).1 hm
        obtain rfl : v = m := by rw [a1] at hok; cases hok; rfl
        have hAe : A ≠ emp := by
          rintro rfl
          simp [emp, numS_nil] at hm
        refine .inl ⟨by simp [ba_of a2], a3, a4, v, f, rfl, ?_, g3, .inl ⟨by rw [hA]; exact hm, rfl⟩⟩
        have : (f || decide (A = emp)) = f := by simp [hAe]
        rwa [this] at h3
      · have hn' : numS A.data.toList = none := by
          cases e : numS A.data.toList with
          | none => rfl
          | some m => exact absurd ⟨m, e⟩ hn
        refine .inr ⟨?_, wrong h3 g3 hn'⟩
        by_cases e1 : (⟨(Lib.itoa v).toArray⟩ : ByteArray) = A
        · by_cases e2 : v < -999999999999999999
          · exact .inr (.inl e2)
          · by_cases e3 : 999999999999999999 < v
            · exact .inr (.inr e3)
            · have : numS A.data.toList = some v := (alike _ _).2 ⟨hok, by rw [← e1], by omega, by omega⟩
              rw [hn'] at this; cases this
        · exact .inl (by simp [e1])
    · exact .inr ⟨hif, ⟨_, cell_of h2 rfl⟩, frozen_of h2 1, wrong h2 g2 hno⟩
  clear h hs hv hsz hA
  go_enter Tryd.func27, Tryd.ntmps27
  go_wp2_with fail
  refine HW.out.mono ?_
  rintro e w1 ⟨rfl, HA⟩
  clear HW
  go_wp2_with fail
  refine HA.out.mono ?_
  rintro e w2 ⟨v, x, rfl, hx⟩
  clear HA
  rcases hx with ⟨rfl, X, bq, hcmp, HI⟩ | ⟨⟨t, p, rfl⟩, ⟨f0, c1⟩, f1, HN⟩
  · go_wp2_with fail
    refine HI.out.mono ?_
    rintro e w3 ⟨rfl, ⟨f0, c1⟩, f1, HN⟩
    clear HI
    rcases HN.out with ⟨rfl, ha, hb, hE⟩ | ⟨hw, hE⟩
    · have HE := hide hE
      have h1 : ¬ v < -999999999999999999 := by omega
      have h2 : ¬ 999999999999999999 < v := by omega
      simp only [Bool.not_false] at hcmp
      clear hE HN
      go_wp2
      go_ret
      exact HE.out
    · have HE := hide hE
      clear hE HN
      cases bq with
      | true =>
        clear hw
        simp only [Bool.not_true] at hcmp
        go_wp2
        go_ret
        exact HE.out
      | false =>
        simp only [Bool.not_false] at hcmp
        by_cases h1 : v < -999999999999999999
        · clear hw
          go_wp2
          go_ret
          exact HE.out
        · have h2 : 999999999999999999 < v := by rcases hw with hw | hw | hw; (cases hw); (omega); exact hw
          clear hw
          go_wp2
          go_ret
          exact HE.out
  · go_wp2
    go_ret
    exact HN.out
end Go.Proofs.YtolmngfjdcoapaaDoor.phr

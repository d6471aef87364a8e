/- FnNumbers returns true at all bytes and leaves them as they were: a number is read back from its bytes wherever they stand, and from fewer it is not; no condition. -/
import Derived.Test.YtipcdioolafkpaaChoice
import Derived.Test.YtipcdioolafkpaaBack
import Derived.Test.YtipcdioolafkpaaGetN
import Derived.Test.YtipcdioolafkpaaPutN
import Derived.OpenShut
import Derived.ShutString
import Derived.ChangeOld
namespace Go.Proofs.Ytipcdioolafkpaa.fnNumbers
open Go.ChangeShapes Go.WideShapes Go.ChangeAt Go.RowKit
open Go.ChangeMaps (open_string shut_string)
open Go.Proofs.Ytipcdioolafkpaa.bytes Go.Proofs.Ytipcdioolafkpaa.pile Go.Proofs.Ytipcdioolafkpaa.put Go.Proofs.Ytipcdioolafkpaa.get Go.Proofs.Ytipcdioolafkpaa.dec Go.Proofs.Ytipcdioolafkpaa.choice Go.Proofs.Ytipcdioolafkpaa.back Go.Proofs.Ytipcdioolafkpaa.fnExactGetNumber Go.Proofs.Ytipcdioolafkpaa.fnExactPutNumber
set_option linter.unusedVariables false

theorem own : ownKnob Try.prog.godebug = none := by kernel_rfl
theorem laidOut : laidOutB Try.prog = true := by kernel_rfl

/-- WHAT THE WALK IS TOLD OF A SLICE OF INTEGERS THAT CAME IN: it is nil; or it leads to a row of 'cap' cells, the numbers 'zs' (the first 'len' are its elements, the rest its spare room), each fitting its kind. -/
def IsRow (k : IntKind) (w : World) (a : Option Addr) (len cap : Nat) (zs : List Int) : Prop :=
  (a = none ∧ len = 0 ∧ cap = 0 ∧ zs = []) ∨
  ∃ x, a = some x ∧ len ≤ cap ∧ cap ≤ maxLen ∧ zs.length = cap ∧ (∀ i, i < zs.length → w.cell? (x.add i) = some (.int k (zs.getD i 0))) ∧ ∀ n ∈ zs, (Lit.int k n).wf = true

theorem rd_of_row {w : World} {a : Option Addr} {len cap : Nat} {zs : List Int} (h : IsRow .u8 w a len cap zs) : ∃ xs : List Int, Rd w (.slice a len cap) xs ∧ xs.length = len := by
  rcases h with ⟨rfl, rfl, rfl, rfl⟩ | ⟨x, rfl, hl, hm, hz, hcell, hwz⟩
  · exact ⟨[], ⟨none, 0, rfl, by simp, by simp [maxLen], by simp, by simp⟩, rfl⟩
  · have hlen : (zs.take len).length = len := by simp; omega
    refine ⟨zs.take len, ⟨some x, cap, by rw [hlen], by omega, hm, ?_, fun hp => ?_⟩, hlen⟩
    · intro y hy
      have := hwz y (List.mem_of_mem_take hy)
      simpa [Lit.wf, IntKind.min, IntKind.max, IntKind.signed, IntKind.bits] using this
    · obtain ⟨b, off, spot⟩ := x
      have hc := hcell 0 (by omega)
      have hspot : spot = none := by simpa [Addr.add] using World.cell?_spot hc
      subst hspot
      refine ⟨b, off, rfl, fun i hi => ?_⟩
      have := hcell i (by omega)
      have hadd : (⟨b, off, none⟩ : Addr).add i = ⟨b, off + i, none⟩ := by
        unfold Addr.add
        split
        · rename_i h; subst h; rfl
        · rfl
      rw [hadd] at this
      rw [this]
      have hi' : i < len := by omega
      simp [List.getD_eq_getElem?_getD, hi']

theorem le_max_of {w : World} {v : Value} {xs : List Int} (h : Rd w v xs) : xs.length ≤ maxLen := by
  obtain ⟨ao, cap, _, h1, h2, _⟩ := h
  omega

theorem rdA_of_row {w : World} {a : Option Addr} {len cap : Nat} {zs : List Int} (h : IsRow .u8 w a len cap zs) : ∃ xs : List Int, RdA w (.slice a len cap) xs ∧ xs.length = len := by
  obtain ⟨xs, h1, h2⟩ := rd_of_row h
  refine ⟨xs, ⟨h1, fun n c e => ?_⟩, h2⟩
  rcases h with ⟨rfl, rfl, rfl, rfl⟩ | ⟨x, rfl, _⟩
  · rfl
  · simp at e
theorem get_back (xs : List Int) (N : Nat) (h1 : xs.length ≤ 60000) (h2 : (putN N).length ≤ 5) (h3 : N < 9223372036854775808) :
    getA (([] ++ xs) ++ putN N) (xs.length : Int) = ((N : Int), (xs.length : Int) + ((putN N).length : Int), 0) := by
  have hg : gotN (([] ++ xs) ++ putN N) xs.length = ((N : Int), (putN N).length, 0) := by
    have := gotN_put xs N [] h3
    simpa using this
  have hlen : (([] ++ xs) ++ putN N).length = xs.length + (putN N).length := by simp
  rw [getA_good (by omega) (by omega) (by rw [hg]), hg]
theorem get_cut (N : Nat) (h2 : (putN N).length ≤ 5) (h3 : N < 9223372036854775808) : getA ((putN N).take ((putN N).length - 1)) 0 = (0, 0, 3) := by
  have hl : ((putN N).take ((putN N).length - 1)).length ≤ 5 := by rw [List.length_take]; omega
  exact getA_bad (a := 0) (by omega) (by omega) (by rw [gotN_cut N h3]; decide)
theorem mul_bd {a b A B : Int} (ha : 0 ≤ a) (hA : a ≤ A) (hb : 0 ≤ b) (hB : b ≤ B) (hA0 : 0 ≤ A) : 0 ≤ a * b ∧ a * b ≤ A * B :=
  ⟨Int.mul_nonneg ha hb, Int.mul_le_mul hA hB hb hA0⟩

set_option maxHeartbeats 1000000 in
theorem walk (a0 : Option Addr) (len0 cap0 : Nat) (z0 : List Int) (a1 : Option Addr) (len1 cap1 : Nat) (z1 : List Int) (w : World) (w0 : IsRow .u8 w a0 len0 cap0 z0) (w1 : IsRow .u8 w a1 len1 cap1 z1) :
    Calls Try.prog 3 #[.slice a0 len0 cap0, .slice a1 len1 cap1] w fun e w' => e = .returned (.bool true) ∧ Below w.heap.size w w' := by
  obtain ⟨xs, HR, hlen⟩ : ∃ xs : List Int, RdA w (.slice a0 len0 cap0) xs ∧ xs.length = len0 := rdA_of_row w0
  obtain ⟨ms, HM, hlen2⟩ : ∃ ms : List Int, RdA w (.slice a1 len1 cap1) ms ∧ ms.length = len1 := rdA_of_row w1
  clear w0 w1
  subst hlen
  subst hlen2
  have hm := le_max_of HR.1
  have hm2 := le_max_of HM.1
  unfold maxLen at hm hm2
  by_cases hbig : (60000 : Int) < xs.length
  · go_enter Try.func3, Try.ntmps3
    go_wp2
    go_ret
    exact ⟨rfl, Below.refl _ _⟩
  · by_cases hbig2 : (1048576 : Int) < ms.length
    · go_enter Try.func3, Try.ntmps3
      go_wp2
      go_ret
      exact ⟨rfl, Below.refl _ _⟩
    · go_enter Try.func3, Try.ntmps3
      go_wp2_with fail
      refine (at_any _ _ ms 0 1000 (by omega) (by omega) (by exact HM.1)).mono ?_
      rintro e w1 ⟨r1, rfl, h10, h11, m1, rfl⟩
      go_wp2_with fail
      refine (at_any _ _ ms 1 1000 (by omega) (by omega) (by exact HM.1)).mono ?_
      rintro e w2 ⟨r2, rfl, h20, h21, m2, rfl⟩
      obtain ⟨hp0, hp1⟩ := mul_bd (a := r1) (b := r2) (A := 999) (B := 999) h10 (by omega) h20 (by omega) (by omega)
      go_wp2_with fail
      refine (at_any _ _ ms 2 50 (by omega) (by omega) (by exact HM.1)).mono ?_
      rintro e w3 ⟨r3, rfl, h30, h31, m3, rfl⟩
      obtain ⟨hq0, hq1⟩ := mul_bd (a := r1 * r2) (b := r3) (A := 998001) (B := 49) hp0 (by omega) h30 (by omega) (by omega)
      go_wp2_with fail
      obtain ⟨N, hN⟩ := Int.eq_ofNat_of_zero_le hq0
      rw [hN]
      have hNb : N ≤ 48902049 := by omega
      clear hN hq0 hq1 hp0 hp1 h10 h11 h20 h21 h30 h31
      have HPL : Hid (putL (N : Int) = putN N ∧ putC (N : Int) = 0) := by
        have h0 : ¬ ((N : Int) < 0) := by omega
        simp [Hid, putL, putC, h0]
      refine (implPut (N : Int) _ (by omega)).mono ?_
      rintro e w4 ⟨v1, rfl, HO1, hb4⟩
      rw [HPL.out.1] at HO1
      rw [HPL.out.2]
      go_wp2_with fail
      refine (specPut (N : Int) _ (by omega)).mono ?_
      rintro e w5 ⟨v2, rfl, HO2, hb5⟩
      rw [HPL.out.1] at HO2
      rw [HPL.out.2]
      have b4 : Below w.heap.size w w4 := ⟨hb4.os, hb4.tape, hb4.output, hb4.size, hb4.block⟩
      have s4 := b4.size
      have s5 := hb5.size
      have b5 : Below w.heap.size w w5 := b4.trans (hb5.mono s4)
      have HO15 := HO1.below hb5 (Nat.le_refl _)
      have HR5 := HR.below b5 (Nat.le_refl _)
      have ba : Below w5.heap.size w5 (w5.alloc (.cells #[] 5)) := (Below.refl _ _).alloc (Nat.le_refl _) _
      have HE : Own (w5.alloc (.cells #[] 5)) w5.heap.size (.slice (some ⟨w5.heap.size, 0, none⟩) 0 0) [] := ⟨by simp, World.ownsRow_lit _ #[] 0 (Nat.le_refl _) (by simp [maxLen]) (by simp)⟩
      have HR6 := HR5.below ba (Nat.le_refl _)
      have HO25 := HO2
      have HO16 := HO15.below ba (Nat.le_refl _)
      have HO26 := HO2.below ba (Nat.le_refl _)
      have HL1 : Hid (([] : List Int).length + xs.length ≤ 140737488355328) := by simp [Hid]; omega
      have hpl := putN_len 4 N (by omega)
      have hpos := put_pos N
      have HL2 : Hid ((([] : List Int) ++ xs).length + (putN N).length ≤ 140737488355328) := by simp [Hid]; omega
      have HP : Hid ((putN N).length ≤ 5 ∧ 0 < (putN N).length) := ⟨hpl, hpos⟩
      clear hb4 b4 HO1 HO2 HR5 hpl hpos
      go_wp2_with (first | (at_builtin; refine wpList_append_rd _ rfl (.tmp 43) (.tmp 44) 22 rfl Try.underlying22 info5 w5.heap.size _ [] rfl HE _ xs rfl HR6 HL1.out (by simp) ?_; intro v7 w7 hown7 hgrow7; have b7 : Below w5.heap.size w5 w7 := ba.grown hgrow7 (by simp) (fun k hk => (HE.lt k hk).1); have HO17 := HO15.below b7 (Nat.le_refl _); have s7 := b7.size) | (at_builtin; refine wpList_append_rd _ rfl (.tmp 45) (.tmp 46) 22 rfl Try.underlying22 info5 w5.heap.size _ ([] ++ xs) rfl hown7 _ (putN N) rfl (Own.rdA HO17) HL2.out s7 ?_; intro v8 w8 hown8 hgrow8))
      have b8 : Below w5.heap.size w5 w8 := b7.grown hgrow8 s7 (fun k hk => (hown7.lt k hk).1)
      have HG8 : Hid (getA (([] ++ xs) ++ putN N) (xs.length : Int) = ((N : Int), (xs.length : Int) + ((putN N).length : Int), 0)) := get_back xs N (by omega) (by have := HP.out.1; omega) (by omega)
      refine (implGet _ _ _ (xs.length : Int) hown8.rd).mono ?_
      rintro e w9 ⟨rfl, hb9⟩
      rw [HG8.out]
      have s8 := b8.size
      have b9 : Below w5.heap.size w5 w9 := b8.trans (hb9.mono s8)
      have HO19 := HO15.below b9 (Nat.le_refl _)
      have HO26' : Own w5 _ v2 (putN N) := HO25
      have HO29 := HO26'.below b9 (Nat.le_refl _)
      clear hown8 hgrow8 hown7 hgrow7 HO17 HE HR6 HO16 HO26 HO26' HO25 HG8 hb9
      obtain ⟨o1, c1, e1, _⟩ := HO19.rd
      subst e1
      have hp1 := HP.out.1
      have hp2 := HP.out.2
      unfold tri
      go_wp2_with fail
      have HC : Hid (getA ((putN N).take ((putN N).length - 1)) 0 = (0, 0, 3)) := get_cut N hp1 (by omega)
      refine (implGet _ _ ((putN N).take ((putN N).length - 1)) 0 (by exact Rd.take HO19.rd _ (by omega))).mono ?_
      rintro e w10 ⟨rfl, hb10⟩
      rw [HC.out]
      unfold tri
      have HO1A := HO19.below hb10 (Nat.le_refl _)
      have HO2A := HO29.below hb10 (Nat.le_refl _)
      have hk1 := run_str (Own.rdA HO1A)
      have hk2 := run_str (Own.rdA HO2A)
      have s9 := b9.size
      have HFin : Hid (Below w.heap.size w w10) := (b5.trans (b9.mono (by omega))).trans (hb10.mono (by omega))
      clear HO1A HO2A HO19 HO29 hb10 b9 b8 b7 HC
      go_wp2
      go_ret
      exact ⟨rfl, HFin.out⟩

set_option maxRecDepth 100000 in
theorem lifted (os : Os) (started : os.Started) (H : Type) (enc : TypeId × Value → H) :
    ReturnsInHanded {} Try.checked os 3 .any (Rows.fnNumbersSpec.pre6 enc Try.prog Try.f3 Rows.fnNumbersRow.domain false) (Rows.fnNumbersSpec.post enc Try.prog Try.f3 false true false false) := by
  refine returnsInHanded_of_change (C := Try.checked) own started (by kernel_rfl) Try.func3
    (ChangeSpec.witness6 (enc := enc) (C := Try.checked) false ⟨#[], #[.slice none 0 0, .slice none 0 0], []⟩ 8 (by kernel_rfl) (by kernel_rfl) (by kernel_rfl) (by kernel_rfl)) ?_
  intro W base args ds gs before hval0 hW hcnd _
  have hval : ∀ (j : Nat) t v, Try.f3.params[j]? = some t → args[j]? = some v → Value.okWide Try.prog W .any base t v := hval0
  have hW' := hW
  obtain ⟨p, q, hA0, hV, rfl, hfz, hnd⟩ := hW
  have hA : DataW.TrodAll enc Try.prog W 0 (fun _ => true) true Try.f3.params.toList args.toList ds p := hA0
  rw [Try.params3] at hA hval
  obtain ⟨v0, vs0, d0, ds0, p0, q0, hargs, rfl, rfl, h0, r0⟩ := trodAll_cons hA
  obtain ⟨v1, vs1, d1, ds1, p1, q1, rfl, rfl, rfl, h1, r1⟩ := trodAll_cons r0
  obtain ⟨rfl, rfl, rfl⟩ := trodAll_nil r1
  obtain rfl : args = #[v0, v1] := by cases args; simp_all
  obtain ⟨rfl, rfl⟩ := trodVars_none hV
  obtain ⟨a0, len0, cap0, rfl⟩ := okWide_slice Try.underlying22 (hval 0 22 v0 rfl rfl)
  have k0 := h0
  have lt0 : ∀ x ∈ p0, x.block < W.heap.size := by obtain ⟨m, hm⟩ := k0; exact DataW.trod_lt m _ _ _ hm
  obtain ⟨z0, w0⟩ : ∃ zs, IsRow .u8 W a0 len0 cap0 zs := by
    obtain ⟨fuel, hf⟩ := h0
    rcases open_ints Try.underlying22 Try.underlying5 (by kernel_rfl) hf with ⟨hcs, _⟩ | ⟨x, l, c, zs, hcs, _, hl, hm, hz, _, hcell, hwz⟩
    · simp [Value.cells] at hcs
      obtain ⟨rfl, rfl, rfl⟩ := hcs
      exact ⟨[], .inl ⟨rfl, rfl, rfl, rfl⟩⟩
    · simp [Value.cells] at hcs
      obtain ⟨rfl, rfl, rfl⟩ := hcs
      exact ⟨zs, .inr ⟨_, rfl, hl, hm, by simpa using hz, hcell, hwz⟩⟩
  obtain ⟨a1, len1, cap1, rfl⟩ := okWide_slice Try.underlying22 (hval 1 22 v1 rfl rfl)
  have k1 := h1
  have lt1 : ∀ x ∈ p1, x.block < W.heap.size := by obtain ⟨m, hm⟩ := k1; exact DataW.trod_lt m _ _ _ hm
  obtain ⟨z1, w1⟩ : ∃ zs, IsRow .u8 W a1 len1 cap1 zs := by
    obtain ⟨fuel, hf⟩ := h1
    rcases open_ints Try.underlying22 Try.underlying5 (by kernel_rfl) hf with ⟨hcs, _⟩ | ⟨x, l, c, zs, hcs, _, hl, hm, hz, _, hcell, hwz⟩
    · simp [Value.cells] at hcs
      obtain ⟨rfl, rfl, rfl⟩ := hcs
      exact ⟨[], .inl ⟨rfl, rfl, rfl, rfl⟩⟩
    · simp [Value.cells] at hcs
      obtain ⟨rfl, rfl, rfl⟩ := hcs
      exact ⟨zs, .inr ⟨_, rfl, hl, hm, by simpa using hz, hcell, hwz⟩⟩
  clear hA0 hval0
  refine (walk a0 len0 cap0 z0 a1 len1 cap1 z1 W w0 w1).mono fun e W' ⟨he, bel⟩ => ?_
  subst he
  exact ⟨_, rfl, _, _, _, [], _, [], hW', trodAll_mk1 (shut_bool Try.underlying4 _), (trodAll_cons_mk (Below.trod laidOut (by kernel_rfl) (of_decide_eq_true (by kernel_rfl)) k0 bel lt0) (trodAll_cons_mk (Below.trod laidOut (by kernel_rfl) (of_decide_eq_true (by kernel_rfl)) k1 bel lt1) trodAll_mk0)), rfl, bel.frame _, fun h => by cases h⟩

theorem over : Rows.fnNumbersRow.holds Try.pinned (OpenSpec.ofChange Rows.fnNumbersSpec) :=
  OpenClaim.holds_of_wide 3 Try.f3 rfl rfl rfl rfl rfl rfl rfl ⟨rfl, rfl, rfl, rfl, rfl⟩ rfl rfl rfl rfl rfl (by kernel_rfl) Try.func3 (by kernel_rfl)
    (of_decide_eq_true (by kernel_rfl)) (by unfold Func.isWrapper; first | (rw [if_pos (by decide +kernel)]; kernel_rfl) | (rw [if_neg (by decide +kernel)]; exact ⟨rfl, rfl⟩))
    (fun os started H enc _ => lifted os started H enc)

/-- ████ THE STATEMENT ████ -/
theorem proved : Rows.FnNumbersSaid := over
#print axioms proved
end Go.Proofs.Ytipcdioolafkpaa.fnNumbers

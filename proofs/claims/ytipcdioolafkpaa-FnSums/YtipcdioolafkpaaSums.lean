/- FnSums returns true at all bytes and leaves them as they were: one byte of a payload changed is found by its frame's sum; no condition. -/
import Derived.Test.YtipcdioolafkpaaChoice
import Derived.Test.YtipcdioolafkpaaChanged
import Derived.OpenShut
import Derived.Deep.RegionLaw
import Derived.ShutString
import Derived.ChangeOld
namespace Go.Proofs.Ytipcdioolafkpaa.fnSums
open Go.ChangeShapes Go.WideShapes Go.ChangeAt Go.RowKit
open Go.ChangeMaps (open_string shut_string)
open Go.Proofs.Ytipcdioolafkpaa.bytes Go.Proofs.Ytipcdioolafkpaa.pile Go.Proofs.Ytipcdioolafkpaa.put Go.Proofs.Ytipcdioolafkpaa.get Go.Proofs.Ytipcdioolafkpaa.dec Go.Proofs.Ytipcdioolafkpaa.choice Go.Proofs.Ytipcdioolafkpaa.back Go.Proofs.Ytipcdioolafkpaa.crcs Go.Proofs.Ytipcdioolafkpaa.join Go.Proofs.Ytipcdioolafkpaa.frames Go.Proofs.Ytipcdioolafkpaa.take Go.Proofs.Ytipcdioolafkpaa.reader Go.Proofs.Ytipcdioolafkpaa.one Go.Proofs.Ytipcdioolafkpaa.many Go.Proofs.Ytipcdioolafkpaa.differ Go.Proofs.Ytipcdioolafkpaa.changed
set_option linter.unusedVariables false

theorem own : ownKnob Try.prog.godebug = none := by kernel_rfl
theorem laidOut : laidOutB Try.prog = true := by kernel_rfl

/-- WHAT THE WALK IS TOLD OF A SLICE OF INTEGERS THAT CAME IN: it is nil; or it leads to a row of 'cap' cells, the numbers 'zs' (the first 'len' are its elements, the rest its spare room), each fitting its kind. -/
def IsRow (k : IntKind) (w : World) (a : Option Addr) (len cap : Nat) (zs : List Int) : Prop :=
  (a = none ∧ len = 0 ∧ cap = 0 ∧ zs = []) ∨
  ∃ x, a = some x ∧ len ≤ cap ∧ cap ≤ maxLen ∧ zs.length = cap ∧ (∀ i, i < zs.length → w.cell? (x.add i) = some (.int k (zs.getD i 0))) ∧ ∀ n ∈ zs, (Lit.int k n).wf = true

theorem rd_of_row {w : World} {a : Option Addr} {len cap : Nat} {zs : List Int} (h : IsRow .u8 w a len cap zs) : ∃ xs : List Int, Rd w (.slice a len cap) xs ∧ xs.length = len := by
  rcases h with ⟨rfl, rfl, rfl, rfl⟩ | ⟨x, rfl, hl, hm, hz, hcell, hwz⟩
  · exact ⟨[], ⟨none, 0, rfl, by simp, by simp [maxLen], by simp, by simp⟩, rfl⟩
  · have hlen : (zs.take len).length = len := by simp; omega
    refine ⟨zs.take len, ⟨some x, cap, by rw [hlen], by omega, hm, ?_, fun hp => ?_⟩, hlen⟩
    · intro y hy
      have := hwz y (List.mem_of_mem_take hy)
      simpa [Lit.wf, IntKind.min, IntKind.max, IntKind.signed, IntKind.bits] using this
    · obtain ⟨b, off, spot⟩ := x
      have hc := hcell 0 (by omega)
      have hspot : spot = none := by simpa [Addr.add] using World.cell?_spot hc
      subst hspot
      refine ⟨b, off, rfl, fun i hi => ?_⟩
      have := hcell i (by omega)
      have hadd : (⟨b, off, none⟩ : Addr).add i = ⟨b, off + i, none⟩ := by
        unfold Addr.add
        split
        · rename_i h; subst h; rfl
        · rfl
      rw [hadd] at this
      rw [this]
      have hi' : i < len := by omega
      simp [List.getD_eq_getElem?_getD, hi']

theorem le_max_of {w : World} {v : Value} {xs : List Int} (h : Rd w v xs) : xs.length ≤ maxLen := by
  obtain ⟨ao, cap, _, h1, h2, _⟩ := h
  omega

theorem rdA_of_row {w : World} {a : Option Addr} {len cap : Nat} {zs : List Int} (h : IsRow .u8 w a len cap zs) : ∃ xs : List Int, RdA w (.slice a len cap) xs ∧ xs.length = len := by
  obtain ⟨xs, h1, h2⟩ := rd_of_row h
  refine ⟨xs, ⟨h1, fun n c e => ?_⟩, h2⟩
  rcases h with ⟨rfl, rfl, rfl, rfl⟩ | ⟨x, rfl, _⟩
  · rfl
  · simp at e
/-- What a row of bytes that is owned looks like, and what a store into it leaves. -/
theorem own_form {w : World} {base : Nat} {v : Value} {xs : List Int} (h : Own w base v xs) (hp : 0 < xs.length) :
    ∃ g cap, v = .slice (some ⟨g, 0, none⟩) xs.length cap ∧ base ≤ g ∧ (∀ i, i < xs.length → w.cell? ⟨g, i, none⟩ = some (.int .u8 (xs.getD i 0))) ∧ (∀ i, w.frozen? ⟨g, i, none⟩ = false) ∧
      ∀ j u, 0 ≤ u ∧ u ≤ 255 → Own (w.setCell ⟨g, j, none⟩ (.int .u8 u)) base (.slice (some ⟨g, 0, none⟩) xs.length cap) (xs.set j u) := by
  have h' := h.2
  obtain ⟨h1, ⟨rfl, h2⟩ | ⟨g, cap, cur, rfl, hb, hg, hnc, hcm, hcs, htake⟩⟩ := h.2
  · omega
  · refine ⟨g, cap, rfl, hb, fun i hi => ?_, fun i => World.ownsRow.frozenAt h' i, fun j u hu => ⟨set_bd h.1 hu, ?_⟩⟩
    · rw [World.ownsRow.cellAt h' i (by omega)]
      simp [hi]
    · rw [List.length_set, List.map_set]
      exact (World.ownsRow.stored h' j (.int .u8 u)).1

set_option maxHeartbeats 1000000 in
theorem walk (a0 : Option Addr) (len0 cap0 : Nat) (z0 : List Int) (a1 : Option Addr) (len1 cap1 : Nat) (z1 : List Int) (w : World) (w0 : IsRow .u8 w a0 len0 cap0 z0) (w1 : IsRow .u8 w a1 len1 cap1 z1) :
    Calls Try.prog 5 #[.slice a0 len0 cap0, .slice a1 len1 cap1] w fun e w' => e = .returned (.bool true) ∧ Below w.heap.size w w' := by
  obtain ⟨xs, HR, hlen⟩ : ∃ xs : List Int, RdA w (.slice a0 len0 cap0) xs ∧ xs.length = len0 := rdA_of_row w0
  obtain ⟨ms, HM, hlen2⟩ : ∃ ms : List Int, RdA w (.slice a1 len1 cap1) ms ∧ ms.length = len1 := rdA_of_row w1
  clear w0 w1
  subst hlen
  subst hlen2
  have hm := le_max_of HR.1
  have hm2 := le_max_of HM.1
  unfold maxLen at hm hm2
  by_cases hz : xs.length = 0
  · have hz' : (((xs.length : Nat) : Int) == 0) = true := by simp [hz]
    go_enter Try.func5, Try.ntmps5
    go_wp2
    go_ret
    exact ⟨rfl, Below.refl _ _⟩
  · have hz' : (((xs.length : Nat) : Int) == 0) = false := beq_eq_false_iff_ne.2 (by omega)
    by_cases hbig : (4096 : Int) < xs.length
    · go_enter Try.func5, Try.ntmps5
      go_wp2
      go_ret
      exact ⟨rfl, Below.refl _ _⟩
    · by_cases hbig2 : (1048576 : Int) < ms.length
      · go_enter Try.func5, Try.ntmps5
        go_wp2
        go_ret
        exact ⟨rfl, Below.refl _ _⟩
      · have hfc : frameC xs = 0 := by rw [frameC, if_pos (by omega)]
        have hfa : frameA xs = frameN xs := by rw [frameA, if_pos (by omega)]
        have HF : Hid (frameC xs = 0 ∧ frameA xs = frameN xs) := ⟨hfc, hfa⟩
        have HX : Hid (∀ x ∈ xs, 0 ≤ x ∧ x ≤ 255) := rd_bd HR.1
        clear hfc hfa
        go_enter Try.func5, Try.ntmps5
        go_wp2_with fail
        refine (implFrame _ _ xs (by exact HR)).mono ?_
        rintro e w1 ⟨vB, rfl, HB, hb1⟩
        rw [HF.out.2] at HB
        rw [HF.out.1]
        have s1 := hb1.size
        go_wp2_with fail
        refine (specFrame _ _ xs (HR.below hb1 (Nat.le_refl _))).mono ?_
        rintro e w2 ⟨vW, rfl, HW, hb2⟩
        rw [HF.out.2] at HW
        rw [HF.out.1]
        have s2 := hb2.size
        have HB2 := HB.below hb2 (Nat.le_refl _)
        have b2 : Below w.heap.size w w2 := hb1.trans (hb2.mono s1)
        have hk1 := run_str (Own.rdA HB2)
        have hk2 := run_str (Own.rdA HW)
        have hfl : (frameN xs).length = (putN xs.length).length + xs.length + 4 := by simp [frameN, four]; omega
        have hpl := putN_len 9 xs.length (by omega)
        have HFL : Hid ((frameN xs).length = (putN xs.length).length + xs.length + 4) := hfl
        obtain ⟨g, capB, hv, hgb, hcells, hfz, hst⟩ := own_form HB2 (by omega)
        subst hv
        have HST : Hid (∀ j u, 0 ≤ u ∧ u ≤ 255 → Own (w2.setCell ⟨g, j, none⟩ (.int .u8 u)) w.heap.size (.slice (some ⟨g, 0, none⟩) (frameN xs).length capB) ((frameN xs).set j u)) := hst
        have HCells : Hid (∀ i, i < (frameN xs).length → w2.cell? ⟨g, i, none⟩ = some (.int .u8 ((frameN xs).getD i 0))) := hcells
        have HFz : Hid (∀ i, w2.frozen? ⟨g, i, none⟩ = false) := hfz
        clear HB HW hst hcells hfz
        rw [hfl] at hk1 ⊢
        go_wp2_with fail
        refine (at_any _ _ ms 0 (xs.length : Int) (by omega) (by omega) (by exact (HM.below b2 (Nat.le_refl _)).1)).mono ?_
        rintro e w3 ⟨r, rfl, hr0, hr1, m3, rfl⟩
        obtain ⟨R, rfl⟩ := Int.eq_ofNat_of_zero_le hr0
        have hR : R < xs.length := by omega
        clear hr0 hr1 hk1 hk2
        generalize hp : (putN xs.length).length = p at hpl HFL ⊢
        have HP : Hid ((putN xs.length).length = p) := hp
        clear hp
        have hx1 : (frameN xs).getD (p + R) 0 = xs.getD R 0 := by
          rw [← HP.out, frameN, List.append_assoc]
          simp [List.getD_eq_getElem?_getD, List.getElem?_append_right, List.getElem?_append_left hR]
        have hcB := HCells.out (p + R) (by rw [HFL.out]; omega)
        rw [hx1] at hcB
        have hfB := HFz.out (p + R)
        have hxb := getD_bd HX.out R
        have HXR : Hid (∃ x, x = xs.getD R 0) := ⟨_, rfl⟩
        clear hx1
        generalize hxx : xs.getD R 0 = x at hcB hxb
        have HXX : Hid (xs.getD R 0 = x) := hxx
        clear hxx
        have HMB : Hid (∀ m, Rd (w2.drewN m) (.slice a1 ms.length cap1) ms) := fun m => (HM.below (below_drewN b2 m) (Nat.le_refl _)).1
        go_wp2
        rw [show (p : Int) + (R : Int) = ((p + R : Nat) : Int) from rfl]
        have hKl : p + R < p + xs.length + 4 := by omega
        generalize hK : p + R = K at hKl hcB hfB ⊢
        have HK : Hid (p + R = K) := hK
        clear hK
        have hKi : (K : Int) < ((p + xs.length + 4 : Nat) : Int) := by omega
        have hKi' : (K : Int) < (p : Int) + (xs.length : Int) + 4 := by omega
        go_region_law (first | (go_simp; go_at_call 9; refine (at_any _ _ ms 1 255 (by omega) (by omega) (by exact HMB.out _)).mono ?_; rintro e w4 ⟨r2, rfl, h20, h21, m4, rfl⟩))
        all_goals
          go_wp2_with fail
          have hY : 0 ≤ (x + 1 + r2) % 256 ∧ (x + 1 + r2) % 256 ≤ 255 := by omega
          have hYne : x ≠ (x + 1 + r2) % 256 := by omega
          have HY : Own ((w2.drewN (m3 + 1 + m4)).setCell ⟨g, K, none⟩ (.int .u8 ((x + 1 + r2) % 256))) w.heap.size (.slice (some ⟨g, 0, none⟩) (p + xs.length + 4) capB) ((frameN xs).set K ((x + 1 + r2) % 256)) := by
            have h1 := HST.out K _ hY
            rw [HFL.out] at h1
            exact h1
          have HU : Hid (unfA ((frameN xs).set K ((x + 1 + r2) % 256)) = ([], 0, 8)) := by
            have h1 := changed_found HX.out (by omega) hR hY (by rw [HXX.out]; exact hYne)
            rw [HP.out, HK.out] at h1
            exact h1
          have HD : Hid (crcN xs ≠ crcN (xs.set R ((x + 1 + r2) % 256))) := crc_set HX.out hR hY (by rw [HXX.out]; exact hYne)
          have HSet : Hid ((frameN xs).set K ((x + 1 + r2) % 256) = putN xs.length ++ xs.set R ((x + 1 + r2) % 256) ++ four (crcN xs)) := by
            unfold Hid
            rw [frameN, ← HK.out, ← HP.out, set_mid _ hR]
          have B4 : Below w.heap.size w ((w2.drewN (m3 + 1 + m4)).setCell ⟨g, K, none⟩ (.int .u8 ((x + 1 + r2) % 256))) := (below_drewN b2 _).setCell hgb _
          clear hcB hfB
          generalize (x + 1 + r2) % 256 = y at hY HY HU HD HSet B4 ⊢
          generalize (w2.drewN (m3 + 1 + m4)).setCell ⟨g, K, none⟩ (.int .u8 y) = w5 at HY B4 ⊢
          refine (implUnframe _ _ _ (Own.rdA HY)).mono ?_
          rintro e w6 ⟨v6, us6, rfl, _, _, hb6⟩
          rw [HU.out]
          have s5 := B4.size
          have B6 : Below w.heap.size w w6 := B4.trans (hb6.mono s5)
          have HY6 := HY.below hb6 (Nat.le_refl _)
          have HR6 := HR.below B6 (Nat.le_refl _)
          clear HY hb6 HU
          have hcap : p + xs.length + 4 ≤ capB := (le_cap HY6.rd).2.1
          have hcp : ¬ capB = p := by omega
          have HC1 : Hid (∀ m, Calls Try.prog 19 #[.slice a0 xs.length cap0] (w6.drewN m) fun e w'' => e = .returned (.int .i64 (crcN xs)) ∧ ∃ n, w'' = w6.drewN n) := fun m =>
            (implCrc_any (w6.drewN m) _ xs (by omega) (by exact HR6.1)).mono fun e w'' h => ⟨h.1, m, h.2⟩
          have HC2 : Hid (∀ m, Calls Try.prog 19 #[.slice (some ⟨g, p, none⟩) xs.length (capB - p)] (w6.drewN m) fun e w'' => e = .returned (.int .i64 (crcN (xs.set R y))) ∧ ∃ n, w'' = w6.drewN n) := by
            intro m
            have hr := Own.rdA HY6
            have hl6 : ((frameN xs).set K y).length = p + xs.length + 4 := by rw [List.length_set, HFL.out]
            rw [← hl6] at hr
            have hc := cut_rd (at_ := p) (n := xs.length) hr (by omega)
            have hcv : cutV (some ⟨g, 0, none⟩) capB p xs.length = .slice (some ⟨g, p, none⟩) xs.length (capB - p) := by
              unfold cutV
              rw [if_neg hcp]
              simp [add_at]
            have hdt : (((frameN xs).set K y).drop p).take xs.length = xs.set R y := by
              rw [HSet.out, ← HP.out, List.append_assoc, List.drop_left]
              have : xs.length = (xs.set R y).length := by simp
              rw [this, List.take_left]
            rw [hcv, hdt] at hc
            exact (implCrc_any (w6.drewN m) _ (xs.set R y) (by simp; omega) (by exact hc.1)).mono fun e w'' h => ⟨h.1, m, h.2⟩
          have hdne : (((crcN xs : Nat) : Int) != ((crcN (xs.set R y) : Nat) : Int)) = true := by
            rw [bne_iff_ne]
            intro e
            exact HD.out (Int.ofNat.inj e)
          generalize crcN xs = c1 at HC1 hdne
          generalize crcN (xs.set R y) = c2 at HC2 hdne
          clear HSet HD HY6 HR6
          go_wp2
          go_quiet ((first | (go_at_call_of 19 (Value.slice a0 xs.length cap0); exact HC1.out _) | (go_at_call 19; exact HC2.out _)))
          go_wp2
          go_ret
          exact ⟨rfl, below_drewN B6 _⟩

set_option maxRecDepth 100000 in
theorem lifted (os : Os) (started : os.Started) (H : Type) (enc : TypeId × Value → H) :
    ReturnsInHanded {} Try.checked os 5 .any (Rows.fnSumsSpec.pre6 enc Try.prog Try.f5 Rows.fnSumsRow.domain false) (Rows.fnSumsSpec.post enc Try.prog Try.f5 false true false false) := by
  refine returnsInHanded_of_change (C := Try.checked) own started (by kernel_rfl) Try.func5
    (ChangeSpec.witness6 (enc := enc) (C := Try.checked) false ⟨#[], #[.slice none 0 0, .slice none 0 0], []⟩ 8 (by kernel_rfl) (by kernel_rfl) (by kernel_rfl) (by kernel_rfl)) ?_
  intro W base args ds gs before hval0 hW hcnd _
  have hval : ∀ (j : Nat) t v, Try.f5.params[j]? = some t → args[j]? = some v → Value.okWide Try.prog W .any base t v := hval0
  have hW' := hW
  obtain ⟨p, q, hA0, hV, rfl, hfz, hnd⟩ := hW
  have hA : DataW.TrodAll enc Try.prog W 0 (fun _ => true) true Try.f5.params.toList args.toList ds p := hA0
  rw [Try.params5] at hA hval
  obtain ⟨v0, vs0, d0, ds0, p0, q0, hargs, rfl, rfl, h0, r0⟩ := trodAll_cons hA
  obtain ⟨v1, vs1, d1, ds1, p1, q1, rfl, rfl, rfl, h1, r1⟩ := trodAll_cons r0
  obtain ⟨rfl, rfl, rfl⟩ := trodAll_nil r1
  obtain rfl : args = #[v0, v1] := by cases args; simp_all
  obtain ⟨rfl, rfl⟩ := trodVars_none hV
  obtain ⟨a0, len0, cap0, rfl⟩ := okWide_slice Try.underlying22 (hval 0 22 v0 rfl rfl)
  have k0 := h0
  have lt0 : ∀ x ∈ p0, x.block < W.heap.size := by obtain ⟨m, hm⟩ := k0; exact DataW.trod_lt m _ _ _ hm
  obtain ⟨z0, w0⟩ : ∃ zs, IsRow .u8 W a0 len0 cap0 zs := by
    obtain ⟨fuel, hf⟩ := h0
    rcases open_ints Try.underlying22 Try.underlying5 (by kernel_rfl) hf with ⟨hcs, _⟩ | ⟨x, l, c, zs, hcs, _, hl, hm, hz, _, hcell, hwz⟩
    · simp [Value.cells] at hcs
      obtain ⟨rfl, rfl, rfl⟩ := hcs
      exact ⟨[], .inl ⟨rfl, rfl, rfl, rfl⟩⟩
    · simp [Value.cells] at hcs
      obtain ⟨rfl, rfl, rfl⟩ := hcs
      exact ⟨zs, .inr ⟨_, rfl, hl, hm, by simpa using hz, hcell, hwz⟩⟩
  obtain ⟨a1, len1, cap1, rfl⟩ := okWide_slice Try.underlying22 (hval 1 22 v1 rfl rfl)
  have k1 := h1
  have lt1 : ∀ x ∈ p1, x.block < W.heap.size := by obtain ⟨m, hm⟩ := k1; exact DataW.trod_lt m _ _ _ hm
  obtain ⟨z1, w1⟩ : ∃ zs, IsRow .u8 W a1 len1 cap1 zs := by
    obtain ⟨fuel, hf⟩ := h1
    rcases open_ints Try.underlying22 Try.underlying5 (by kernel_rfl) hf with ⟨hcs, _⟩ | ⟨x, l, c, zs, hcs, _, hl, hm, hz, _, hcell, hwz⟩
    · simp [Value.cells] at hcs
      obtain ⟨rfl, rfl, rfl⟩ := hcs
      exact ⟨[], .inl ⟨rfl, rfl, rfl, rfl⟩⟩
    · simp [Value.cells] at hcs
      obtain ⟨rfl, rfl, rfl⟩ := hcs
      exact ⟨zs, .inr ⟨_, rfl, hl, hm, by simpa using hz, hcell, hwz⟩⟩
  clear hA0 hval0
  refine (walk a0 len0 cap0 z0 a1 len1 cap1 z1 W w0 w1).mono fun e W' ⟨he, bel⟩ => ?_
  subst he
  exact ⟨_, rfl, _, _, _, [], _, [], hW', trodAll_mk1 (shut_bool Try.underlying4 _), (trodAll_cons_mk (Below.trod laidOut (by kernel_rfl) (of_decide_eq_true (by kernel_rfl)) k0 bel lt0) (trodAll_cons_mk (Below.trod laidOut (by kernel_rfl) (of_decide_eq_true (by kernel_rfl)) k1 bel lt1) trodAll_mk0)), rfl, bel.frame _, fun h => by cases h⟩

theorem over : Rows.fnSumsRow.holds Try.pinned (OpenSpec.ofChange Rows.fnSumsSpec) :=
  OpenClaim.holds_of_wide 5 Try.f5 rfl rfl rfl rfl rfl rfl rfl ⟨rfl, rfl, rfl, rfl, rfl⟩ rfl rfl rfl rfl rfl (by kernel_rfl) Try.func5 (by kernel_rfl)
    (of_decide_eq_true (by kernel_rfl)) (by unfold Func.isWrapper; first | (rw [if_pos (by decide +kernel)]; kernel_rfl) | (rw [if_neg (by decide +kernel)]; exact ⟨rfl, rfl⟩))
    (fun os started H enc _ => lifted os started H enc)

/-- ████ THE STATEMENT ████ -/
theorem proved : Rows.FnSumsSaid := over
#print axioms proved
end Go.Proofs.Ytipcdioolafkpaa.fnSums

/- FnDisk returns true at all bytes and leaves them as they were: what was synced is never lost in a crash, and what is left is a beginning of all that was written; no condition. -/
import Derived.Test.YtipcdioolafkpaaDLaw
import Derived.Test.YtipcdioolafkpaaImplBytes
import Derived.OpenShut
import Derived.Deep.RegionLaw
import Derived.ShutString
import Derived.ChangeOld
namespace Go.Proofs.Ytipcdioolafkpaa.fnDisk
open Go.ChangeShapes Go.WideShapes Go.ChangeAt Go.RowKit
open Go.ChangeMaps (open_string shut_string)
open Go.Proofs.Ytipcdioolafkpaa.bytes Go.Proofs.Ytipcdioolafkpaa.put Go.Proofs.Ytipcdioolafkpaa.pile Go.Proofs.Ytipcdioolafkpaa.join Go.Proofs.Ytipcdioolafkpaa.frames Go.Proofs.Ytipcdioolafkpaa.reader Go.Proofs.Ytipcdioolafkpaa.one Go.Proofs.Ytipcdioolafkpaa.many Go.Proofs.Ytipcdioolafkpaa.draws Go.Proofs.Ytipcdioolafkpaa.payloads Go.Proofs.Ytipcdioolafkpaa.bytefn Go.Proofs.Ytipcdioolafkpaa.drawsfn Go.Proofs.Ytipcdioolafkpaa.acts Go.Proofs.Ytipcdioolafkpaa.implrun Go.Proofs.Ytipcdioolafkpaa.disks Go.Proofs.Ytipcdioolafkpaa.actsfn Go.Proofs.Ytipcdioolafkpaa.diskacts Go.Proofs.Ytipcdioolafkpaa.specdisk Go.Proofs.Ytipcdioolafkpaa.crashes Go.Proofs.Ytipcdioolafkpaa.crashans Go.Proofs.Ytipcdioolafkpaa.doside Go.Proofs.Ytipcdioolafkpaa.specrows Go.Proofs.Ytipcdioolafkpaa.specact Go.Proofs.Ytipcdioolafkpaa.specrun Go.Proofs.Ytipcdioolafkpaa.implcrash Go.Proofs.Ytipcdioolafkpaa.implbytes Go.Proofs.Ytipcdioolafkpaa.choice Go.Proofs.Ytipcdioolafkpaa.same Go.Proofs.Ytipcdioolafkpaa.lists Go.Proofs.Ytipcdioolafkpaa.sizes Go.Proofs.Ytipcdioolafkpaa.diskof Go.Proofs.Ytipcdioolafkpaa.pieces Go.Proofs.Ytipcdioolafkpaa.dlaw
set_option linter.unusedVariables false

theorem own : ownKnob Try.prog.godebug = none := by kernel_rfl
theorem laidOut : laidOutB Try.prog = true := by kernel_rfl

/-- WHAT THE WALK IS TOLD OF A SLICE OF INTEGERS THAT CAME IN: it is nil; or it leads to a row of 'cap' cells, the numbers 'zs' (the first 'len' are its elements, the rest its spare room), each fitting its kind. -/
def IsRow (k : IntKind) (w : World) (a : Option Addr) (len cap : Nat) (zs : List Int) : Prop :=
  (a = none ∧ len = 0 ∧ cap = 0 ∧ zs = []) ∨
  ∃ x, a = some x ∧ len ≤ cap ∧ cap ≤ maxLen ∧ zs.length = cap ∧ (∀ i, i < zs.length → w.cell? (x.add i) = some (.int k (zs.getD i 0))) ∧ ∀ n ∈ zs, (Lit.int k n).wf = true

theorem rd_of_row {w : World} {a : Option Addr} {len cap : Nat} {zs : List Int} (h : IsRow .u8 w a len cap zs) : ∃ xs : List Int, Rd w (.slice a len cap) xs ∧ xs.length = len := by
  rcases h with ⟨rfl, rfl, rfl, rfl⟩ | ⟨x, rfl, hl, hm, hz, hcell, hwz⟩
  · exact ⟨[], ⟨none, 0, rfl, by simp, by simp [maxLen], by simp, by simp⟩, rfl⟩
  · have hlen : (zs.take len).length = len := by simp; omega
    refine ⟨zs.take len, ⟨some x, cap, by rw [hlen], by omega, hm, ?_, fun hp => ?_⟩, hlen⟩
    · intro y hy
      have := hwz y (List.mem_of_mem_take hy)
      simpa [Lit.wf, IntKind.min, IntKind.max, IntKind.signed, IntKind.bits] using this
    · obtain ⟨b, off, spot⟩ := x
      have hc := hcell 0 (by omega)
      have hspot : spot = none := by simpa [Addr.add] using World.cell?_spot hc
      subst hspot
      refine ⟨b, off, rfl, fun i hi => ?_⟩
      have := hcell i (by omega)
      have hadd : (⟨b, off, none⟩ : Addr).add i = ⟨b, off + i, none⟩ := by
        unfold Addr.add
        split
        · rename_i h; subst h; rfl
        · rfl
      rw [hadd] at this
      rw [this]
      have hi' : i < len := by omega
      simp [List.getD_eq_getElem?_getD, hi']

theorem le_max_of {w : World} {v : Value} {xs : List Int} (h : Rd w v xs) : xs.length ≤ maxLen := by
  obtain ⟨ao, cap, _, h1, h2, _⟩ := h
  omega

theorem rdA_of_row {w : World} {a : Option Addr} {len cap : Nat} {zs : List Int} (h : IsRow .u8 w a len cap zs) : ∃ xs : List Int, RdA w (.slice a len cap) xs ∧ xs.length = len := by
  obtain ⟨xs, h1, h2⟩ := rd_of_row h
  refine ⟨xs, ⟨h1, fun n c e => ?_⟩, h2⟩
  rcases h with ⟨rfl, rfl, rfl, rfl⟩ | ⟨x, rfl, _⟩
  · rfl
  · simp at e
theorem more {W wx : World} (h : Below W.heap.size W wx) (o : Obj) : Below W.heap.size W (wx.alloc o) := h.alloc h.size o
theorem k_on {W w9 : World} {g : Nat} {c : Obj} (h : Below W.heap.size W w9) (k : W.heap[g]? = some c) : w9.heap[g]? = some c := (h.block g (Array.getElem?_eq_some_iff.1 k).1).trans k
theorem pre_rd {w : World} {ao : Option Addr} {cap n : Nat} {xs : List Int} (h : RdA w (.slice ao xs.length cap) xs) (hn : n ≤ xs.length) : RdA w (.slice ao n cap) (xs.take n) := by
  obtain ⟨⟨ao', cap', e, h1, h2, h3, h4⟩, hnil⟩ := h
  simp only [Value.slice.injEq, true_and] at e
  obtain ⟨rfl, rfl⟩ := e
  have hl : (xs.take n).length = n := by simp; omega
  refine ⟨⟨ao, cap, by rw [hl], by omega, h2, fun x hx => h3 x (List.mem_of_mem_take hx), fun hp => ?_⟩, fun n' c e => ?_⟩
  · obtain ⟨b, off, rfl, hc⟩ := h4 (by omega)
    refine ⟨b, off, rfl, fun i hi => ?_⟩
    rw [hc i (by omega)]
    have hi' : i < n := by omega
    simp [List.getD_eq_getElem?_getD, hi']
  · simp only [Value.slice.injEq] at e
    obtain ⟨rfl, rfl, rfl⟩ := e
    have := hnil _ _ rfl
    simp only [Value.slice.injEq, true_and] at this
    obtain ⟨h5, rfl⟩ := this
    obtain rfl : n = 0 := by omega
    rfl

set_option maxRecDepth 20000 in
set_option maxHeartbeats 20000000 in
theorem walk (a0 : Option Addr) (len0 cap0 : Nat) (z0 : List Int) (a1 : Option Addr) (len1 cap1 : Nat) (z1 : List Int) (w : World) (w0 : IsRow .u8 w a0 len0 cap0 z0) (w1 : IsRow .u8 w a1 len1 cap1 z1) :
    Calls Try.prog 6 #[.slice a0 len0 cap0, .slice a1 len1 cap1] w fun e w' => e = .returned (.bool true) ∧ Below w.heap.size w w' := by
  obtain ⟨xs, HR, hlen⟩ : ∃ xs : List Int, RdA w (.slice a0 len0 cap0) xs ∧ xs.length = len0 := rdA_of_row w0
  obtain ⟨ms, HM, hlen2⟩ : ∃ ms : List Int, RdA w (.slice a1 len1 cap1) ms ∧ ms.length = len1 := rdA_of_row w1
  clear w0 w1
  subst hlen
  subst hlen2
  have hm := le_max_of HR.1
  have hm2 := le_max_of HM.1
  unfold maxLen at hm hm2
  by_cases hbig : (1048576 : Int) < xs.length
  · go_enter Try.func6, Try.ntmps6
    go_wp2
    go_ret
    exact ⟨rfl, Below.refl _ _⟩
  by_cases hbig2 : (1048576 : Int) < ms.length
  · go_enter Try.func6, Try.ntmps6
    go_wp2
    go_ret
    exact ⟨rfl, Below.refl _ _⟩
  obtain ⟨codes, X, cs, hrun, hright⟩ := run_facts xs
  have HRt : Hid (Right X cs) := hright
  have HFit := hide (actsOf_fit xs).1
  have HRun : Hid (runA (actsOf xs) = (codes, X, cs, 0)) := hrun
  clear hrun hright
  go_enter Try.func6, Try.ntmps6
  go_wp2_with fail
  refine (diskActsOf_fn w a0 cap0 xs HR).mono ?_
  rintro e w1 ⟨ao1, n1, c1, rfl, A1, b1⟩
  have hI := implRun w1 _ _ A1 HFit.out
  rw [HRun.out] at hI
  have HI := hide hI
  clear hI A1
  go_wp2_with fail
  refine HI.out.mono ?_
  rintro e w2 ⟨cv, ao, ca, pv, rfl, hcv, hpv, hO, b2⟩
  simp only at hcv hpv hO ⊢
  have hPT := pieces_texts (Own.rdA hO)
  have hus : (piecesV ao X.length cs cs.length).length = cs.length := piecesV_length _ _ _ _
  generalize piecesV ao X.length cs cs.length = us at hpv hPT hus
  rw [← hus] at hpv
  have hPS := Go.Proofs.Ytipcdioolafkpaa.same.row_rdS hpv
  have hCN : RdN w2 cv codes := OwnN.rd hcv
  have HD2 : Hid (RdN w2 cv codes ∧ RdA w2 (.slice ao X.length X.length) X ∧ RdS w2 pv us ∧ Texts w2 us cs) := ⟨hCN, hPT.1, hPS, hPT.2⟩
  obtain ⟨co, cc, rfl, hc1, hc2, _⟩ := hCN
  obtain ⟨po, pc, rfl, hp1, hp2, _⟩ := hPS
  unfold maxLen at hc2 hp2
  clear hcv hpv hO hPT hus HI
  have B2 : Below w.heap.size w w2 := b1.trans (b2.mono b1.size)
  obtain ⟨W2, hW2⟩ : ∃ W2, W2 = w2.alloc (.cells #[.slice ao X.length X.length, .slice po us.length pc] 40) := ⟨_, rfl⟩
  have bW2 : Below w2.heap.size w2 W2 := by rw [hW2]; exact (Below.refl _ _).alloc (Nat.le_refl _) _
  have sW2 : W2.heap.size = w2.heap.size + 1 := by rw [hW2]; simp
  have k2 : W2.heap[w2.heap.size]? = some (.cells #[.slice ao X.length X.length, .slice po us.length pc] 40 (0, 0)) := by rw [hW2]; exact heap_alloc_new w2 _
  have BW2 : Below w.heap.size w W2 := B2.trans (bW2.mono B2.size)
  go_wp2_with fail
  rw [← hW2]
  clear hW2
  refine (diskActsOf_fn W2 a0 cap0 xs (HR.below BW2 (Nat.le_refl _))).mono ?_
  rintro e w3 ⟨ao3, n3, c3, rfl, A3, b3⟩
  have hJ := specRun w3 _ _ A3 HFit.out
  rw [HRun.out] at hJ
  have HJ := hide hJ
  clear hJ A3
  go_wp2_with fail
  refine HJ.out.mono ?_
  rintro e w4 ⟨cv4, so, sl, sc, qo, qc, us4, rfl, hcv4, hD4, b4⟩
  simp only at hcv4 hD4 ⊢
  have hCN4 : RdN w4 cv4 codes := OwnN.rd hcv4
  have HD4 : Hid (RdN w4 cv4 codes ∧ DiskRd w4 (.slice so sl sc) (.slice qo us4.length qc) X us4 cs) := ⟨hCN4, hD4⟩
  obtain ⟨co4, cc4, rfl, hd1, hd2, _⟩ := hCN4
  obtain ⟨qo', qc', hq0, hq1, hq2, _⟩ := hD4.writes
  simp only [Value.slice.injEq, true_and] at hq0
  obtain ⟨rfl, rfl⟩ := hq0
  obtain ⟨so', sc', hs0, hs1, hs2, _⟩ := hD4.synced.1
  simp only [Value.slice.injEq] at hs0
  obtain ⟨rfl, rfl, rfl⟩ := hs0
  unfold maxLen at hd2 hq2 hs2
  clear hcv4 hD4 HJ HRun HFit
  have B4 : Below W2.heap.size W2 w4 := b3.trans (b4.mono b3.size)
  obtain ⟨W4, hW4⟩ : ∃ W4, W4 = w4.alloc (.cells #[.slice so X.length sc, .slice qo us4.length qc] 40) := ⟨_, rfl⟩
  have bW4 : Below w4.heap.size w4 W4 := by rw [hW4]; exact (Below.refl _ _).alloc (Nat.le_refl _) _
  have sW4 : W4.heap.size = w4.heap.size + 1 := by rw [hW4]; simp
  have k4 : W4.heap[w4.heap.size]? = some (.cells #[.slice so X.length sc, .slice qo us4.length qc] 40 (0, 0)) := by rw [hW4]; exact heap_alloc_new w4 _
  have HW : Hid (∀ wx, Below W4.heap.size W4 wx → ((RdN wx (.slice co codes.length cc) codes ∧ RdN wx (.slice co4 codes.length cc4) codes) ∧ (RdA wx (.slice ao X.length X.length) X ∧ RdS wx (.slice po us.length pc) us ∧ Texts wx us cs) ∧ DiskRd wx (.slice so X.length sc) (.slice qo us4.length qc) X us4 cs) ∧
      (wx.cell? ⟨w2.heap.size, 0, none⟩ = some (.slice ao X.length X.length) ∧ wx.cell? ⟨w2.heap.size, 1, none⟩ = some (.slice po us.length pc)) ∧ (wx.cell? ⟨w4.heap.size, 0, none⟩ = some (.slice so X.length sc) ∧ wx.cell? ⟨w4.heap.size, 1, none⟩ = some (.slice qo us4.length qc)) ∧ Below w.heap.size w wx) := fun wx hb => by
    have x4 : Below w4.heap.size w4 wx := bW4.trans (hb.mono (by omega))
    have xW2 : Below W2.heap.size W2 wx := B4.trans (x4.mono B4.size)
    have x2 : Below w2.heap.size w2 wx := bW2.trans (xW2.mono (by omega))
    have g2 := (xW2.block w2.heap.size (by omega)).trans k2
    have g4 := (hb.block w4.heap.size (by omega)).trans k4
    exact ⟨⟨⟨HD2.out.1.below x2 (Nat.le_refl _), HD4.out.1.below x4 (Nat.le_refl _)⟩, ⟨HD2.out.2.1.below x2 (Nat.le_refl _), HD2.out.2.2.1.below x2 (Nat.le_refl _), HD2.out.2.2.2.below x2 (Nat.le_refl _)⟩, HD4.out.2.below x4 (Nat.le_refl _)⟩,
      ⟨cell_of g2 rfl, cell_of g2 rfl⟩, ⟨cell_of g4 rfl, cell_of g4 rfl⟩, B2.trans (x2.mono B2.size)⟩
  go_wp2_with fail
  rw [← hW4]
  clear hW4 k4 k2 b1 b2 b3 b4 B2 B4 bW2 bW4 BW2 HD2 HD4
  refine (sameInts_same W4 _ _ codes (HW.out _ (Below.refl _ _)).1.1.1 (HW.out _ (Below.refl _ _)).1.1.2).mono ?_
  rintro e w5 ⟨rfl, m5, hw5⟩
  have b5 : Below W4.heap.size W4 w5 := by rw [hw5]; exact below_same _ _
  clear hw5
  obtain ⟨q0, q1⟩ := (HW.out _ b5).2.1
  obtain ⟨q2, q3⟩ := (HW.out _ b5).2.2.1
  have hk1 := run_str (HW.out _ b5).1.2.1.1
  have hk2 := run_str (HW.out _ b5).1.2.2.synced
  go_wp2_with fail
  refine (same_any w5 _ _ us us4 cs (HW.out _ b5).1.2.1.2.1 (HW.out _ b5).1.2.2.writes (HW.out _ b5).1.2.1.2.2 (HW.out _ b5).1.2.2.texts).mono ?_
  rintro e w6 ⟨rfl, m6, hw6⟩
  have b6 : Below W4.heap.size W4 w6 := by rw [hw6]; exact b5.trans ((below_same _ _).mono b5.size)
  clear hw6 q0 q1 q2 q3 hk1 hk2
  obtain ⟨q0, q1⟩ := (HW.out _ b6).2.1
  have hXT := HRt.out.2
  have hB := implBytes w6 _ _ X us cs (HW.out _ b6).1.2.1.1 (HW.out _ b6).1.2.1.2.1 (HW.out _ b6).1.2.1.2.2 (by omega)
  rw [diskA_right HRt.out] at hB
  have HB := hide hB
  clear hB b5
  go_wp2_with fail
  refine HB.out.mono ?_
  rintro e w7 ⟨v7, rfl, hO7, b7⟩
  have B7 : Below W4.heap.size W4 w7 := b6.trans (b7.mono b6.size)
  clear HB q0 q1
  generalize hY : X ++ cs.flatten = Y at hO7
  have HY : Hid (X ++ cs.flatten = Y) := hY
  clear hY
  have HO7 := hide hO7
  obtain ⟨ko, kc, rfl, hk1, hk2, _⟩ := hO7.rd
  clear hO7
  unfold maxLen at hk2
  have HS : Hid (∀ wx, Below w7.heap.size w7 wx → (wx.cell? ⟨w2.heap.size, 0, none⟩ = some (.slice ao X.length X.length) ∧ wx.cell? ⟨w2.heap.size, 1, none⟩ = some (.slice po us.length pc)) ∧ Below w7.heap.size w7 wx) := fun wx h => ⟨(HW.out _ (B7.trans (h.mono B7.size))).2.1, h⟩
  have HAt : Hid (∀ (i n : Int), 0 ≤ i → i ≤ 1000 → 1 < n → n ≤ 1000 → ∀ wx, Below w7.heap.size w7 wx → Calls Try.prog 9 #[.slice a1 ms.length cap1, .int .i64 i, .int .i64 n] wx fun e w' => ∃ r : Nat, e = .returned (.int .i64 r) ∧ (r : Int) < n ∧ Hid (Below wx.heap.size wx w') ∧ Below w7.heap.size w7 w') := fun i n h1 h2 h3 h4 wx hb => by
    obtain ⟨i, rfl⟩ := Int.eq_ofNat_of_zero_le h1
    have bx := (HW.out _ (B7.trans (hb.mono B7.size))).2.2.2
    refine (at_any wx _ ms i n (by omega) (by omega) (HM.below bx (Nat.le_refl _)).1).mono ?_
    rintro e w' ⟨r, rfl, r0, r1, m, rfl⟩
    obtain ⟨r, rfl⟩ := Int.eq_ofNat_of_zero_le r0
    exact ⟨r, rfl, by omega, below_same _ _, hb.trans ((below_same _ _).mono hb.size)⟩
  have HCr : Hid (∀ (K T : Nat), K ≤ 1000 → T ≤ 1000 → ∀ wx, Below w7.heap.size w7 wx → Calls Try.prog 25 #[.agg #[.slice ao X.length X.length, .slice po us.length pc], .int .i64 K, .int .i64 T] wx fun e w' => ∃ F o c, e = .returned (.tuple #[.agg #[.slice o F.length c, .slice none 0 0], .int .i64 0]) ∧ Hid (F = crashF X cs K T) ∧ Hid (Own w' w7.heap.size (.slice o F.length c) F) ∧ Hid (Below wx.heap.size wx w') ∧ Below w7.heap.size w7 w') := fun K T h1 h2 wx hb => by
    have hx := (HW.out _ (B7.trans (hb.mono B7.size))).1.2.1
    have h := implDiskCrash wx _ _ X us cs hx.1 hx.2.1 hx.2.2 (by omega) (K : Int) (T : Int) (by omega) (by omega)
    rw [crashA_ok HRt.out] at h
    refine h.mono ?_
    rintro e w' ⟨o, c, rfl, hO, hB⟩
    exact ⟨_, o, c, rfl, rfl, own_down hO hb.size, hB, hb.trans (hB.mono hb.size)⟩
  have hS7 := (HS.out w7 (Below.refl _ _)).1
  go_wp2
  go_region_held_law (fun wx => (wx.cell? ⟨w2.heap.size, 0, none⟩ = some (.slice ao X.length X.length) ∧ wx.cell? ⟨w2.heap.size, 1, none⟩ = some (.slice po us.length pc)) ∧ Below w7.heap.size w7 wx)
    ((refine HS.out _ ?_; first | assumption | exact Below.refl _ _ | exact (Below.refl _ _).drew | exact more (by assumption) _ | exact more (more (by assumption) _) _ | exact more ((Below.refl _ _).drew) _ | exact Go.Proofs.Ytipcdioolafkpaa.crashans.below_set2 (more (by assumption) _) (by first | exact Nat.le_refl _ | exact D1.size | exact D2.size | exact D3.size) _ _ | exact Go.Proofs.Ytipcdioolafkpaa.crashans.below_set2 (by assumption) (by first | exact Nat.le_refl _ | exact D1.size | exact D2.size | exact D3.size) _ _))
    (first
      | (go_at_call 9; have _h1 := D1; refine (HAt.out _ _ (by omega) (by omega) (by omega) (by omega) _ (by first | assumption | exact And.right (by assumption) | exact more (by assumption) _ | exact more (more (by assumption) _) _)).mono ?_; rintro e w9 ⟨T, rfl, hT, R2, D2⟩)
      | (go_at_call 9; refine (HAt.out _ _ (by omega) (by omega) (by omega) (by omega) _ (by first | assumption | exact And.right (by assumption) | exact more (by assumption) _ | exact more (more (by assumption) _) _)).mono ?_; rintro e w8 ⟨K, rfl, hK, R1, D1⟩)
      | (go_at_call 25; refine (HCr.out K T (by omega) (by omega) _ (by first | assumption | exact And.right (by assumption) | exact more (by assumption) _ | exact more (more (by assumption) _) _)).mono ?_; rintro e w10 ⟨F, o10, c10, rfl, hF, HO10, R3, D3⟩; (first | (have k8 := k8_of (wr := w9) (c := .cells #[.slice none 0 0, .slice none 0 0] 40) R3.out rfl) | (have k8 := k_on R3.out (k8_of (wr := w8) (c := .cells #[.slice none 0 0, .slice none 0 0] 40) R2.out rfl)) | (have k8 := k_on R3.out (k_on R2.out (k8_of (wr := w7) (c := .cells #[.slice none 0 0, .slice none 0 0] 40) R1.out rfl))) | skip); try (have e80 := cell_of k8 (i := 0) rfl; have e81 := cell_of k8 (i := 1) rfl; have e82 := frozen_of k8 0; have e83 := frozen_of k8 1)))
  all_goals
    first
      | (have F3 : Hid (Below w7.heap.size w7 (World.setCell (World.setCell w10 ⟨w7.heap.size, 0, none⟩ (.slice o10 F.length c10)) ⟨w7.heap.size, 1, none⟩ (.slice none 0 0)) ∧ Own (World.setCell (World.setCell w10 ⟨w7.heap.size, 0, none⟩ (.slice o10 F.length c10)) ⟨w7.heap.size, 1, none⟩ (.slice none 0 0)) w7.heap.size (.slice o10 F.length c10) F ∧ (World.heap (World.setCell (World.setCell w10 ⟨w7.heap.size, 0, none⟩ (.slice o10 F.length c10)) ⟨w7.heap.size, 1, none⟩ (.slice none 0 0)))[w7.heap.size]? = some (.cells #[.slice o10 F.length c10, .slice none 0 0] 40 (0, 0))) := ⟨Go.Proofs.Ytipcdioolafkpaa.crashans.below_set2 D3 (Nat.le_refl _) _ _, Go.Proofs.Ytipcdioolafkpaa.crashans.own_set2 HO10.out k8 (by decide) _ _, Go.Proofs.Ytipcdioolafkpaa.crashans.set2 k8 _ _⟩; have p0 := cell_of F3.out.2.2 (i := 0) rfl; have p1 := cell_of F3.out.2.2 (i := 1) rfl; have HP : Hid (∀ wx, Below (World.heap (World.setCell (World.setCell w10 ⟨w7.heap.size, 0, none⟩ (.slice o10 F.length c10)) ⟨w7.heap.size, 1, none⟩ (.slice none 0 0))).size (World.setCell (World.setCell w10 ⟨w7.heap.size, 0, none⟩ (.slice o10 F.length c10)) ⟨w7.heap.size, 1, none⟩ (.slice none 0 0)) wx → wx.cell? ⟨w7.heap.size, 1, none⟩ = some (.slice none 0 0)) := fun wx hb => (cell_of ((hb.block _ (Array.getElem?_eq_some_iff.1 F3.out.2.2).1).trans F3.out.2.2) (i := 1) rfl); generalize (World.setCell (World.setCell w10 ⟨w7.heap.size, 0, none⟩ (.slice o10 F.length c10)) ⟨w7.heap.size, 1, none⟩ (.slice none 0 0)) = w11 at F3 p0 p1 HP ⊢)
      | (have F3 : Hid (Below w7.heap.size w7 (World.setCell (World.setCell w10 ⟨w8.heap.size, 0, none⟩ (.slice o10 F.length c10)) ⟨w8.heap.size, 1, none⟩ (.slice none 0 0)) ∧ Own (World.setCell (World.setCell w10 ⟨w8.heap.size, 0, none⟩ (.slice o10 F.length c10)) ⟨w8.heap.size, 1, none⟩ (.slice none 0 0)) w7.heap.size (.slice o10 F.length c10) F ∧ (World.heap (World.setCell (World.setCell w10 ⟨w8.heap.size, 0, none⟩ (.slice o10 F.length c10)) ⟨w8.heap.size, 1, none⟩ (.slice none 0 0)))[w8.heap.size]? = some (.cells #[.slice o10 F.length c10, .slice none 0 0] 40 (0, 0))) := ⟨Go.Proofs.Ytipcdioolafkpaa.crashans.below_set2 D3 D1.size _ _, Go.Proofs.Ytipcdioolafkpaa.crashans.own_set2 HO10.out k8 (by decide) _ _, Go.Proofs.Ytipcdioolafkpaa.crashans.set2 k8 _ _⟩; have p0 := cell_of F3.out.2.2 (i := 0) rfl; have p1 := cell_of F3.out.2.2 (i := 1) rfl; have HP : Hid (∀ wx, Below (World.heap (World.setCell (World.setCell w10 ⟨w8.heap.size, 0, none⟩ (.slice o10 F.length c10)) ⟨w8.heap.size, 1, none⟩ (.slice none 0 0))).size (World.setCell (World.setCell w10 ⟨w8.heap.size, 0, none⟩ (.slice o10 F.length c10)) ⟨w8.heap.size, 1, none⟩ (.slice none 0 0)) wx → wx.cell? ⟨w8.heap.size, 1, none⟩ = some (.slice none 0 0)) := fun wx hb => (cell_of ((hb.block _ (Array.getElem?_eq_some_iff.1 F3.out.2.2).1).trans F3.out.2.2) (i := 1) rfl); generalize (World.setCell (World.setCell w10 ⟨w8.heap.size, 0, none⟩ (.slice o10 F.length c10)) ⟨w8.heap.size, 1, none⟩ (.slice none 0 0)) = w11 at F3 p0 p1 HP ⊢)
      | (have F3 : Hid (Below w7.heap.size w7 (World.setCell (World.setCell w10 ⟨w9.heap.size, 0, none⟩ (.slice o10 F.length c10)) ⟨w9.heap.size, 1, none⟩ (.slice none 0 0)) ∧ Own (World.setCell (World.setCell w10 ⟨w9.heap.size, 0, none⟩ (.slice o10 F.length c10)) ⟨w9.heap.size, 1, none⟩ (.slice none 0 0)) w7.heap.size (.slice o10 F.length c10) F ∧ (World.heap (World.setCell (World.setCell w10 ⟨w9.heap.size, 0, none⟩ (.slice o10 F.length c10)) ⟨w9.heap.size, 1, none⟩ (.slice none 0 0)))[w9.heap.size]? = some (.cells #[.slice o10 F.length c10, .slice none 0 0] 40 (0, 0))) := ⟨Go.Proofs.Ytipcdioolafkpaa.crashans.below_set2 D3 D2.size _ _, Go.Proofs.Ytipcdioolafkpaa.crashans.own_set2 HO10.out k8 (by decide) _ _, Go.Proofs.Ytipcdioolafkpaa.crashans.set2 k8 _ _⟩; have p0 := cell_of F3.out.2.2 (i := 0) rfl; have p1 := cell_of F3.out.2.2 (i := 1) rfl; have HP : Hid (∀ wx, Below (World.heap (World.setCell (World.setCell w10 ⟨w9.heap.size, 0, none⟩ (.slice o10 F.length c10)) ⟨w9.heap.size, 1, none⟩ (.slice none 0 0))).size (World.setCell (World.setCell w10 ⟨w9.heap.size, 0, none⟩ (.slice o10 F.length c10)) ⟨w9.heap.size, 1, none⟩ (.slice none 0 0)) wx → wx.cell? ⟨w9.heap.size, 1, none⟩ = some (.slice none 0 0)) := fun wx hb => (cell_of ((hb.block _ (Array.getElem?_eq_some_iff.1 F3.out.2.2).1).trans F3.out.2.2) (i := 1) rfl); generalize (World.setCell (World.setCell w10 ⟨w9.heap.size, 0, none⟩ (.slice o10 F.length c10)) ⟨w9.heap.size, 1, none⟩ (.slice none 0 0)) = w11 at F3 p0 p1 HP ⊢)
      | (have F3 : Hid (Below w7.heap.size w7 (World.alloc w10 (.cells #[.slice o10 F.length c10, .slice none 0 0] 40)) ∧ Own (World.alloc w10 (.cells #[.slice o10 F.length c10, .slice none 0 0] 40)) w7.heap.size (.slice o10 F.length c10) F ∧ (World.heap (World.alloc w10 (.cells #[.slice o10 F.length c10, .slice none 0 0] 40)))[w10.heap.size]? = some (.cells #[.slice o10 F.length c10, .slice none 0 0] 40 (0, 0))) := ⟨D3.alloc D3.size _, HO10.out.below ((Below.refl _ _).alloc (Nat.le_refl _) _) (Nat.le_refl _), heap_alloc_new w10 _⟩; have p0 := cell_of F3.out.2.2 (i := 0) rfl; have p1 := cell_of F3.out.2.2 (i := 1) rfl; have HP : Hid (∀ wx, Below (World.heap (World.alloc w10 (.cells #[.slice o10 F.length c10, .slice none 0 0] 40))).size (World.alloc w10 (.cells #[.slice o10 F.length c10, .slice none 0 0] 40)) wx → wx.cell? ⟨w10.heap.size, 1, none⟩ = some (.slice none 0 0)) := fun wx hb => (cell_of ((hb.block _ (Array.getElem?_eq_some_iff.1 F3.out.2.2).1).trans F3.out.2.2) (i := 1) rfl); generalize (World.alloc w10 (.cells #[.slice o10 F.length c10, .slice none 0 0] 40)) = w11 at F3 p0 p1 HP ⊢)
    have HF := hF
    clear hF HAt HCr HS hS7
    obtain ⟨hcf1, hcf2, hcf3, hcf4⟩ := crash_facts HRt.out K T
    rw [← HF.out, HY.out] at hcf1 hcf3
    rw [← HF.out] at hcf2 hcf4
    have hFl := hcf4.2
    simp only [List.flatten_nil, List.length_nil, Nat.add_zero] at hFl
    have hB := implBytes w11 (.slice o10 F.length c10) (.slice none 0 0) F [] [] (Own.rdA F3.out.2.1) ⟨none, 0, rfl, by simp, by simp [maxLen], by simp⟩ ⟨rfl, by simp⟩ (by simp; omega)
    rw [diskA_right hcf4] at hB
    simp only [List.flatten_nil, List.append_nil] at hB
    have HB := hide hB
    clear hB hcf4
    go_wp2_with fail
    refine HB.out.mono ?_
    rintro e w12 ⟨v12, rfl, hO12, b12⟩
    clear HB p0 p1
    have p1 := HP.out _ b12
    have B11 : Below W4.heap.size W4 w11 := B7.trans (F3.out.1.mono B7.size)
    have B12 : Below W4.heap.size W4 w12 := B11.trans (b12.mono B11.size)
    have q0 := (HW.out _ B12).2.1.1
    have HEnd : Hid (Below w.heap.size w w12) := (HW.out _ B12).2.2.2
    obtain ⟨lo, lc, rfl, hl1, hl2, _⟩ := hO12.rd
    unfold maxLen at hl2
    have hs1 : ∀ n, (convert 22 9 (.slice lo F.length lc)).run Try.prog (w12.drewN n) = .ok (.string (Go.Proofs.Ytipcdioolafkpaa.choice.strOf F)) (w12.drewN n) := fun n => run_str ((Own.rdA hO12).below (below_same w12 n) (Nat.le_refl _))
    have b7x : Below w7.heap.size w7 w12 := F3.out.1.trans (b12.mono F3.out.1.size)
    have hs2 : ∀ n, (convert 22 9 (.slice ko F.length kc)).run Try.prog (w12.drewN n) = .ok (.string (Go.Proofs.Ytipcdioolafkpaa.choice.strOf F)) (w12.drewN n) := fun n => by
      have h := run_str ((pre_rd (n := F.length) (Own.rdA (HO7.out.below b7x (Nat.le_refl _))) hcf3).below (below_same w12 n) (Nat.le_refl _))
      rwa [hcf1] at h
    clear hO12 hcf1 F3 HP HW
    have h1 : (F.length : Int) ≤ (Y.length : Int) := by omega
    have h2 : (X.length : Int) ≤ (F.length : Int) := by omega
    have h3 : (F.length : Int) ≤ (kc : Int) := by omega
    go_wp2
    go_quiet (fail)
    go_wp2
    go_ret
    exact ⟨rfl, below_drewN HEnd.out _⟩

set_option maxRecDepth 100000 in
theorem lifted (os : Os) (started : os.Started) (H : Type) (enc : TypeId × Value → H) :
    ReturnsInHanded {} Try.checked os 6 .any (Rows.fnDiskSpec.pre6 enc Try.prog Try.f6 Rows.fnDiskRow.domain false) (Rows.fnDiskSpec.post enc Try.prog Try.f6 false true false false) := by
  refine returnsInHanded_of_change (C := Try.checked) own started (by kernel_rfl) Try.func6
    (ChangeSpec.witness6 (enc := enc) (C := Try.checked) false ⟨#[], #[.slice none 0 0, .slice none 0 0], []⟩ 8 (by kernel_rfl) (by kernel_rfl) (by kernel_rfl) (by kernel_rfl)) ?_
  intro W base args ds gs before hval0 hW hcnd _
  have hval : ∀ (j : Nat) t v, Try.f6.params[j]? = some t → args[j]? = some v → Value.okWide Try.prog W .any base t v := hval0
  have hW' := hW
  obtain ⟨p, q, hA0, hV, rfl, hfz, hnd⟩ := hW
  have hA : DataW.TrodAll enc Try.prog W 0 (fun _ => true) true Try.f6.params.toList args.toList ds p := hA0
  rw [Try.params6] at hA hval
  obtain ⟨v0, vs0, d0, ds0, p0, q0, hargs, rfl, rfl, h0, r0⟩ := trodAll_cons hA
  obtain ⟨v1, vs1, d1, ds1, p1, q1, rfl, rfl, rfl, h1, r1⟩ := trodAll_cons r0
  obtain ⟨rfl, rfl, rfl⟩ := trodAll_nil r1
  obtain rfl : args = #[v0, v1] := by cases args; simp_all
  obtain ⟨rfl, rfl⟩ := trodVars_none hV
  obtain ⟨a0, len0, cap0, rfl⟩ := okWide_slice Try.underlying22 (hval 0 22 v0 rfl rfl)
  have k0 := h0
  have lt0 : ∀ x ∈ p0, x.block < W.heap.size := by obtain ⟨m, hm⟩ := k0; exact DataW.trod_lt m _ _ _ hm
  obtain ⟨z0, w0⟩ : ∃ zs, IsRow .u8 W a0 len0 cap0 zs := by
    obtain ⟨fuel, hf⟩ := h0
    rcases open_ints Try.underlying22 Try.underlying5 (by kernel_rfl) hf with ⟨hcs, _⟩ | ⟨x, l, c, zs, hcs, _, hl, hm, hz, _, hcell, hwz⟩
    · simp [Value.cells] at hcs
      obtain ⟨rfl, rfl, rfl⟩ := hcs
      exact ⟨[], .inl ⟨rfl, rfl, rfl, rfl⟩⟩
    · simp [Value.cells] at hcs
      obtain ⟨rfl, rfl, rfl⟩ := hcs
      exact ⟨zs, .inr ⟨_, rfl, hl, hm, by simpa using hz, hcell, hwz⟩⟩
  obtain ⟨a1, len1, cap1, rfl⟩ := okWide_slice Try.underlying22 (hval 1 22 v1 rfl rfl)
  have k1 := h1
  have lt1 : ∀ x ∈ p1, x.block < W.heap.size := by obtain ⟨m, hm⟩ := k1; exact DataW.trod_lt m _ _ _ hm
  obtain ⟨z1, w1⟩ : ∃ zs, IsRow .u8 W a1 len1 cap1 zs := by
    obtain ⟨fuel, hf⟩ := h1
    rcases open_ints Try.underlying22 Try.underlying5 (by kernel_rfl) hf with ⟨hcs, _⟩ | ⟨x, l, c, zs, hcs, _, hl, hm, hz, _, hcell, hwz⟩
    · simp [Value.cells] at hcs
      obtain ⟨rfl, rfl, rfl⟩ := hcs
      exact ⟨[], .inl ⟨rfl, rfl, rfl, rfl⟩⟩
    · simp [Value.cells] at hcs
      obtain ⟨rfl, rfl, rfl⟩ := hcs
      exact ⟨zs, .inr ⟨_, rfl, hl, hm, by simpa using hz, hcell, hwz⟩⟩
  clear hA0 hval0
  refine (walk a0 len0 cap0 z0 a1 len1 cap1 z1 W w0 w1).mono fun e W' ⟨he, bel⟩ => ?_
  subst he
  exact ⟨_, rfl, _, _, _, [], _, [], hW', trodAll_mk1 (shut_bool Try.underlying4 _), (trodAll_cons_mk (Below.trod laidOut (by kernel_rfl) (of_decide_eq_true (by kernel_rfl)) k0 bel lt0) (trodAll_cons_mk (Below.trod laidOut (by kernel_rfl) (of_decide_eq_true (by kernel_rfl)) k1 bel lt1) trodAll_mk0)), rfl, bel.frame _, fun h => by cases h⟩

theorem over : Rows.fnDiskRow.holds Try.pinned (OpenSpec.ofChange Rows.fnDiskSpec) :=
  OpenClaim.holds_of_wide 6 Try.f6 rfl rfl rfl rfl rfl rfl rfl ⟨rfl, rfl, rfl, rfl, rfl⟩ rfl rfl rfl rfl rfl (by kernel_rfl) Try.func6 (by kernel_rfl)
    (of_decide_eq_true (by kernel_rfl)) (by unfold Func.isWrapper; first | (rw [if_pos (by decide +kernel)]; kernel_rfl) | (rw [if_neg (by decide +kernel)]; exact ⟨rfl, rfl⟩))
    (fun os started H enc _ => lifted os started H enc)

/-- ████ THE STATEMENT ████ -/
theorem proved : Rows.FnDiskSaid := over
#print axioms proved
end Go.Proofs.Ytipcdioolafkpaa.fnDisk

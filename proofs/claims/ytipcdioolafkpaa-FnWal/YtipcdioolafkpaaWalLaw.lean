/- A drawn state of a log is written down and recovered; any bytes are recovered as the document says: the law's own walk. -/
import Derived.Test.YtipcdioolafkpaaStreams
import Derived.Test.YtipcdioolafkpaaSameWal
namespace Go.Proofs.Ytipcdioolafkpaa.wallaw
open Go.ChangeShapes Go.WideShapes Go.ChangeAt Go.RowKit
open Go.Proofs.Ytipcdioolafkpaa.bytes Go.Proofs.Ytipcdioolafkpaa.pile Go.Proofs.Ytipcdioolafkpaa.put Go.Proofs.Ytipcdioolafkpaa.crcs Go.Proofs.Ytipcdioolafkpaa.join Go.Proofs.Ytipcdioolafkpaa.frames Go.Proofs.Ytipcdioolafkpaa.get Go.Proofs.Ytipcdioolafkpaa.dec Go.Proofs.Ytipcdioolafkpaa.take Go.Proofs.Ytipcdioolafkpaa.one Go.Proofs.Ytipcdioolafkpaa.back Go.Proofs.Ytipcdioolafkpaa.parts Go.Proofs.Ytipcdioolafkpaa.votes Go.Proofs.Ytipcdioolafkpaa.pays Go.Proofs.Ytipcdioolafkpaa.rechelp Go.Proofs.Ytipcdioolafkpaa.recrows Go.Proofs.Ytipcdioolafkpaa.walhelp Go.Proofs.Ytipcdioolafkpaa.recov Go.Proofs.Ytipcdioolafkpaa.recovers Go.Proofs.Ytipcdioolafkpaa.recoveri Go.Proofs.Ytipcdioolafkpaa.recs Go.Proofs.Ytipcdioolafkpaa.entries Go.Proofs.Ytipcdioolafkpaa.walright Go.Proofs.Ytipcdioolafkpaa.walof Go.Proofs.Ytipcdioolafkpaa.logcells Go.Proofs.Ytipcdioolafkpaa.takesp Go.Proofs.Ytipcdioolafkpaa.recovers2 Go.Proofs.Ytipcdioolafkpaa.reclaw Go.Proofs.Ytipcdioolafkpaa.streams Go.Proofs.Ytipcdioolafkpaa.samewal
set_option linter.unusedVariables false

/-- What WalsOf answers. -/
def WalsE (w : World) (e : Ending) (w' : World) : Prop := ∃ (T V : Int) (o : Option Addr) (n c : Nat) (rl : List Rec3) (us : List Value), e = .returned (.agg #[.int .i64 T, .int .i64 V, .int .i64 0, .int .i64 0, .slice o n c, .int .i64 0]) ∧ (0 ≤ T ∧ T ≤ 8) ∧ (0 ≤ V ∧ V ≤ 3) ∧ rl.length ≤ 6 ∧ (∀ k, k < rl.length → (0 ≤ (rl.getD k zRec).t ∧ (rl.getD k zRec).t ≤ 3) ∧ (rl.getD k zRec).i = (k : Int) + 1 ∧ (rl.getD k zRec).d.length ≤ 5) ∧ LogR w' (.slice o n c) rl us ∧ Below w.heap.size w w'
theorem put_one {n : Nat} (h : n < 128) : (putN n).length = 1 := by rw [putN_lt h]; simp
theorem frame_short {xs : List Int} (h : xs.length ≤ 40) : (frameN xs).length ≤ 45 := by
  rw [frameN_length, put_one (by omega)]
  omega
theorem rec_short {rl : List Rec3} (hl : rl.length ≤ 6) (h : ∀ k, k < rl.length → (0 ≤ (rl.getD k zRec).t ∧ (rl.getD k zRec).t ≤ 3) ∧ (rl.getD k zRec).i = (k : Int) + 1 ∧ (rl.getD k zRec).d.length ≤ 5) : ∀ k, k ≤ rl.length → (entsTo rl k).length ≤ k * 45
  | 0, _ => by simp [entsTo]
  | k + 1, hk => by
    have ih := rec_short hl h k (by omega)
    obtain ⟨⟨h1, h2⟩, h3, h4⟩ := h k (by omega)
    rw [entsTo_succ (by omega), List.length_append]
    have : (entF (rl.getD k zRec)).length ≤ 45 := by
      unfold entF
      apply frame_short
      rw [List.length_cons, List.length_append, List.length_append, put_one (by omega), put_one (by omega)]
      omega
    omega
theorem wal_fits {T V : Int} {rl : List Rec3} (hT : 0 ≤ T ∧ T ≤ 8) (hV : 0 ≤ V ∧ V ≤ 3) (hl : rl.length ≤ 6) (h : ∀ k, k < rl.length → (0 ≤ (rl.getD k zRec).t ∧ (rl.getD k zRec).t ≤ 3) ∧ (rl.getD k zRec).i = (k : Int) + 1 ∧ (rl.getD k zRec).d.length ≤ 5) :
    recA (walA ⟨T, V, 0, 0, 0⟩ rl) = (⟨T, V, 0, 0, rl⟩, (walA ⟨T, V, 0, 0, 0⟩ rl).length, 0) ∧ walC ⟨T, V, 0, 0, 0⟩ rl = 0 := by
  have hok : walOK ⟨T, V, 0, 0, 0⟩ rl = true := by
    unfold walOK headOK
    simp only [Bool.and_eq_true, decide_eq_true_eq]
    refine ⟨⟨⟨⟨⟨inB_yes (by omega), inB_yes (by omega)⟩, trivial⟩, trivial⟩, by omega⟩, goods_yes (fun j hj => ?_)⟩
    obtain ⟨h1, h2, h3⟩ := h j hj
    unfold good recOK
    simp only [Bool.and_eq_true, decide_eq_true_eq]
    exact ⟨⟨⟨⟨inB_yes (by omega), inB_yes (by omega)⟩, by omega⟩, by omega⟩, h2⟩
  have hb : (walB ⟨T, V, 0, 0, 0⟩ rl).length ≤ 65536 := by
    show (frameN (1 :: (putN T.toNat ++ putN V.toNat)) ++ entsTo rl rl.length).length ≤ 65536
    rw [List.length_append]
    have h1 := rec_short hl h rl.length (Nat.le_refl _)
    have h2 : (frameN (1 :: (putN T.toNat ++ putN V.toNat))).length ≤ 45 := by
      apply frame_short
      rw [List.length_cons, List.length_append, put_one (by omega), put_one (by omega)]
      omega
    omega
  obtain ⟨r1, r2, r3⟩ := rec_wal ⟨T, V, 0, 0, 0⟩ rl hok hb
  rw [r2]
  exact ⟨r1, r3⟩

set_option maxRecDepth 20000 in
set_option maxHeartbeats 4000000 in
theorem walk0 (w : World) (ao0 : Option Addr) (cap0 : Nat) (xs0 : List Int) (h0 : RdA w (.slice ao0 xs0.length cap0) xs0) (ao1 : Option Addr) (cap1 : Nat) (xs1 : List Int) (h1 : RdA w (.slice ao1 xs1.length cap1) xs1)
    (HWals : ∀ wx, RdA wx (.slice ao0 xs0.length cap0) xs0 → Calls Try.prog 31 #[.slice ao0 xs0.length cap0] wx (WalsE wx)) :
    Calls Try.prog 8 #[.slice ao0 xs0.length cap0, .slice ao1 xs1.length cap1] w fun e w' => e = .returned (.bool true) ∧ Below w.heap.size w w' := by
  obtain ⟨_, hc01, hc02⟩ := le_cap h0.1
  obtain ⟨_, hc11, hc12⟩ := le_cap h1.1
  unfold maxLen at hc02 hc12
  by_cases hb0 : (1048576 : Int) < xs0.length
  · go_enter Try.func8, Try.ntmps8
    go_wp2
    go_ret
    exact ⟨rfl, Below.refl _ _⟩
  by_cases hb1 : (60000 : Int) < xs1.length
  · go_enter Try.func8, Try.ntmps8
    go_wp2
    go_ret
    exact ⟨rfl, Below.refl _ _⟩
  have HA := hide (HWals w h0)
  have H1 := hide h1
  clear HWals h0 h1
  have hlong : ¬ 65536 < xs1.length := by omega
  have HRc : Hid ((recA xs1).2.2 = 0) := by unfold recA; rw [if_neg hlong]; exact hide rfl
  go_enter Try.func8, Try.ntmps8
  go_wp2_with fail
  refine HA.out.mono ?_
  rintro e w1 ⟨T, V, o, n, c, rl, us, rfl, hT, hV, hl, hr, L1, B1⟩
  obtain ⟨hrec, hC⟩ := wal_fits hT hV hl hr
  obtain ⟨F, hF⟩ : ∃ F, F = walA ⟨T, V, 0, 0, 0⟩ rl := ⟨_, rfl⟩
  have hFl : F.length ≤ 65536 := by rw [hF]; exact walA_len _ _
  have HRec : Hid (recA F = (⟨T, V, 0, 0, rl⟩, F.length, 0)) := by rw [hF]; exact hrec
  have s1 := B1.size
  obtain ⟨w2, hw2⟩ : ∃ w2, w2 = w1.alloc (.cells #[.int .i64 T, .int .i64 V, .int .i64 0, .int .i64 0, .slice o n c, .int .i64 0] 52) := ⟨_, rfl⟩
  have b12 : Below w1.heap.size w1 w2 := by rw [hw2]; exact (Below.refl _ _).alloc (Nat.le_refl _) _
  have k2 : w2.heap[w1.heap.size]? = some (.cells #[.int .i64 T, .int .i64 V, .int .i64 0, .int .i64 0, .slice o n c, .int .i64 0] 52 (0, 0)) := by rw [hw2]; exact heap_alloc_new w1 _
  have s2 : w2.heap.size = w1.heap.size + 1 := by rw [hw2]; simp
  have hW := implWal w2 ⟨T, V, 0, 0, 0⟩ (.slice o n c) rl us (L1.below b12 (Nat.le_refl _)).rd
  rw [hC, ← hF] at hW
  rw [hw2] at hW
  clear hrec hC hF hT hV hl hr HA
  go_wp2_with fail
  refine hW.mono ?_
  rw [← hw2]
  rintro e w3 ⟨v3, rfl, O3, b3⟩
  have s3 := b3.size
  clear hW hw2
  obtain ⟨o3, c3, e3, _⟩ := O3.rd
  subst e3
  have HB := hide (recover_any w3 o3 c3 F (Own.rdA O3))
  rw [HRec.out] at HB
  go_wp2_with fail
  refine HB.out.mono ?_
  rintro e w4 ⟨lv4, us4, rfl, O4, b4⟩
  have s4 := b4.size
  obtain ⟨oB, cB, hlv4, _⟩ := O4.row
  subst hlv4
  clear HB O3
  obtain ⟨w5, hw5⟩ : ∃ w5, w5 = w4.alloc (.cells #[.int .i64 T, .int .i64 V, .int .i64 0, .int .i64 0, .slice oB rl.length cB, .int .i64 (F.length : Nat)] 52) := ⟨_, rfl⟩
  have b45 : Below w4.heap.size w4 w5 := by rw [hw5]; exact (Below.refl _ _).alloc (Nat.le_refl _) _
  have k5 : w5.heap[w4.heap.size]? = some (.cells #[.int .i64 T, .int .i64 V, .int .i64 0, .int .i64 0, .slice oB rl.length cB, .int .i64 (F.length : Nat)] 52 (0, 0)) := by rw [hw5]; exact heap_alloc_new w4 _
  have s5 : w5.heap.size = w4.heap.size + 1 := by rw [hw5]; simp
  have b25 : Below w2.heap.size w2 w5 := b3.trans ((b4.trans (b45.mono s4)).mono s3)
  have bw5 : Below w.heap.size w w5 := B1.trans ((b12.trans (b25.mono (by omega))).mono s1)
  have HN := recover_any w5 ao1 cap1 xs1 (H1.out.below bw5 (Nat.le_refl _))
  obtain ⟨R, hR⟩ : ∃ R, R = recA xs1 := ⟨_, rfl⟩
  have HRz : Hid (R.2.2 = 0) := by rw [hR]; exact HRc
  rw [← hR, hw5] at HN
  go_wp2_with fail
  refine HN.mono ?_
  rw [← hw5]
  rintro e w6 ⟨lv6, us6, rfl, O6, b6⟩
  have s6 := b6.size
  obtain ⟨oN, cN, hlv6, _⟩ := O6.row
  subst hlv6
  clear HN hw5
  obtain ⟨w7, hw7⟩ : ∃ w7, w7 = w6.alloc (.cells #[.int .i64 R.1.term, .int .i64 R.1.vote, .int .i64 R.1.base, .int .i64 R.1.bterm, .slice oN R.1.log.length cN, .int .i64 (R.2.1 : Nat)] 52) := ⟨_, rfl⟩
  have b67 : Below w6.heap.size w6 w7 := by rw [hw7]; exact (Below.refl _ _).alloc (Nat.le_refl _) _
  have k7 : w7.heap[w6.heap.size]? = some (.cells #[.int .i64 R.1.term, .int .i64 R.1.vote, .int .i64 R.1.base, .int .i64 R.1.bterm, .slice oN R.1.log.length cN, .int .i64 (R.2.1 : Nat)] 52 (0, 0)) := by rw [hw7]; exact heap_alloc_new w6 _
  have s7 : w7.heap.size = w6.heap.size + 1 := by rw [hw7]; simp
  have b57 : Below w5.heap.size w5 w7 := b6.trans (b67.mono s6)
  have bw7 : Below w.heap.size w w7 := bw5.trans (b57.mono bw5.size)
  have HS := specRecover w7 ao1 cap1 xs1 (H1.out.below bw7 (Nat.le_refl _))
  rw [← hR, hw7] at HS
  clear hR
  go_wp2_with fail
  refine HS.mono ?_
  rw [← hw7]
  rintro e w8 ⟨oW, nW, cW, us8, rfl, L8, b8⟩
  have s8 := b8.size
  clear HS hw7
  obtain ⟨w9, hw9⟩ : ∃ w9, w9 = w8.alloc (.cells #[.int .i64 R.1.term, .int .i64 R.1.vote, .int .i64 R.1.base, .int .i64 R.1.bterm, .slice oW nW cW, .int .i64 (R.2.1 : Nat)] 52) := ⟨_, rfl⟩
  have b89 : Below w8.heap.size w8 w9 := by rw [hw9]; exact (Below.refl _ _).alloc (Nat.le_refl _) _
  have k9 : w9.heap[w8.heap.size]? = some (.cells #[.int .i64 R.1.term, .int .i64 R.1.vote, .int .i64 R.1.base, .int .i64 R.1.bterm, .slice oW nW cW, .int .i64 (R.2.1 : Nat)] 52 (0, 0)) := by rw [hw9]; exact heap_alloc_new w8 _
  have s9 : w9.heap.size = w8.heap.size + 1 := by rw [hw9]; simp
  have b79 : Below w7.heap.size w7 w9 := b8.trans (b89.mono s8)
  have b59 : Below w5.heap.size w5 w9 := b57.trans (b79.mono (by omega))
  have b29 : Below w2.heap.size w2 w9 := b25.trans (b59.mono (by omega))
  have bw9 : Below w.heap.size w w9 := bw7.trans (b79.mono bw7.size)
  have k29 : w9.heap[w1.heap.size]? = some (.cells #[.int .i64 T, .int .i64 V, .int .i64 0, .int .i64 0, .slice o n c, .int .i64 0] 52 (0, 0)) := (b29.block _ (by omega)).trans k2
  have k59 : w9.heap[w4.heap.size]? = some (.cells #[.int .i64 T, .int .i64 V, .int .i64 0, .int .i64 0, .slice oB rl.length cB, .int .i64 (F.length : Nat)] 52 (0, 0)) := (b59.block _ (by omega)).trans k5
  have k79 : w9.heap[w6.heap.size]? = some (.cells #[.int .i64 R.1.term, .int .i64 R.1.vote, .int .i64 R.1.base, .int .i64 R.1.bterm, .slice oN R.1.log.length cN, .int .i64 (R.2.1 : Nat)] 52 (0, 0)) := (b79.block _ (by omega)).trans k7
  have L19 : LogR w9 (.slice o n c) rl us := L1.below (b12.trans (b29.mono (by omega))) (Nat.le_refl _)
  have O49 : OwnRecs w9 w3.heap.size (.slice oB rl.length cB) rl us4 := O4.below (b45.trans (b59.mono (by omega))) (Nat.le_refl _)
  have O69 : OwnRecs w9 w5.heap.size (.slice oN R.1.log.length cN) R.1.log us6 := O6.below (b67.trans (b79.mono (by omega))) (Nat.le_refl _)
  have L89 : LogR w9 (.slice oW nW cW) R.1.log us8 := L8.below b89 (Nat.le_refl _)
  have E1 := sameWal_any w9 ⟨T, V, 0, 0, 0⟩ (F.length : Nat) 0 _ _ rl us4 us O49.rd L19.rd
  have hz := HRz.out
  have HK : Hid (∀ wx, Below w9.heap.size w9 wx → (wx.cell? ⟨w4.heap.size, 0, none⟩ = some (.int .i64 T) ∧ wx.cell? ⟨w4.heap.size, 1, none⟩ = some (.int .i64 V) ∧ wx.cell? ⟨w4.heap.size, 2, none⟩ = some (.int .i64 0) ∧ wx.cell? ⟨w4.heap.size, 3, none⟩ = some (.int .i64 0) ∧ wx.cell? ⟨w4.heap.size, 4, none⟩ = some (.slice oB rl.length cB) ∧ wx.cell? ⟨w4.heap.size, 5, none⟩ = some (.int .i64 (F.length : Nat))) ∧ (wx.cell? ⟨w6.heap.size, 0, none⟩ = some (.int .i64 R.1.term) ∧ wx.cell? ⟨w6.heap.size, 1, none⟩ = some (.int .i64 R.1.vote) ∧ wx.cell? ⟨w6.heap.size, 2, none⟩ = some (.int .i64 R.1.base) ∧ wx.cell? ⟨w6.heap.size, 3, none⟩ = some (.int .i64 R.1.bterm) ∧ wx.cell? ⟨w6.heap.size, 4, none⟩ = some (.slice oN R.1.log.length cN) ∧ wx.cell? ⟨w6.heap.size, 5, none⟩ = some (.int .i64 (R.2.1 : Nat))) ∧ (wx.cell? ⟨w8.heap.size, 0, none⟩ = some (.int .i64 R.1.term) ∧ wx.cell? ⟨w8.heap.size, 1, none⟩ = some (.int .i64 R.1.vote) ∧ wx.cell? ⟨w8.heap.size, 2, none⟩ = some (.int .i64 R.1.base) ∧ wx.cell? ⟨w8.heap.size, 3, none⟩ = some (.int .i64 R.1.bterm) ∧ wx.cell? ⟨w8.heap.size, 4, none⟩ = some (.slice oW nW cW) ∧ wx.cell? ⟨w8.heap.size, 5, none⟩ = some (.int .i64 (R.2.1 : Nat)))) := fun wx hb => by
    have q1 := (hb.block _ (by omega)).trans k59
    have q2 := (hb.block _ (by omega)).trans k79
    have q3 := (hb.block _ (by omega)).trans k9
    exact ⟨⟨cell_of q1 rfl, cell_of q1 rfl, cell_of q1 rfl, cell_of q1 rfl, cell_of q1 rfl, cell_of q1 rfl⟩, ⟨cell_of q2 rfl, cell_of q2 rfl, cell_of q2 rfl, cell_of q2 rfl, cell_of q2 rfl, cell_of q2 rfl⟩, cell_of q3 rfl, cell_of q3 rfl, cell_of q3 rfl, cell_of q3 rfl, cell_of q3 rfl, cell_of q3 rfl⟩
  have p0 : w9.cell? ⟨w1.heap.size, 0, none⟩ = some (.int .i64 T) := cell_of k29 rfl
  have p1 : w9.cell? ⟨w1.heap.size, 1, none⟩ = some (.int .i64 V) := cell_of k29 rfl
  have p2 : w9.cell? ⟨w1.heap.size, 2, none⟩ = some (.int .i64 0) := cell_of k29 rfl
  have p3 : w9.cell? ⟨w1.heap.size, 3, none⟩ = some (.int .i64 0) := cell_of k29 rfl
  have p4 : w9.cell? ⟨w1.heap.size, 4, none⟩ = some (.slice o n c) := cell_of k29 rfl
  have p5 : w9.cell? ⟨w1.heap.size, 5, none⟩ = some (.int .i64 0) := cell_of k29 rfl
  have q0 : w9.cell? ⟨w4.heap.size, 0, none⟩ = some (.int .i64 T) := cell_of k59 rfl
  have q1 : w9.cell? ⟨w4.heap.size, 1, none⟩ = some (.int .i64 V) := cell_of k59 rfl
  have q2 : w9.cell? ⟨w4.heap.size, 2, none⟩ = some (.int .i64 0) := cell_of k59 rfl
  have q3 : w9.cell? ⟨w4.heap.size, 3, none⟩ = some (.int .i64 0) := cell_of k59 rfl
  have q4 : w9.cell? ⟨w4.heap.size, 4, none⟩ = some (.slice oB rl.length cB) := cell_of k59 rfl
  have q5 : w9.cell? ⟨w4.heap.size, 5, none⟩ = some (.int .i64 (F.length : Nat)) := cell_of k59 rfl
  rw [hw9] at E1 p0 q0 p1 q1 p2 q2 p3 q3 p4 q4 p5 q5
  rw [hz]
  go_wp2_with fail
  refine E1.mono ?_
  rw [← hw9]
  rintro e w10 ⟨rfl, b10⟩
  have s10 := b10.size
  obtain ⟨⟨x0, x1, x2, x3, x4, x5⟩, ⟨y0, y1, y2, y3, y4, y5⟩, z0, z1, z2, z3, z4, z5⟩ := HK.out w10 b10
  have E2 := sameWal_any w10 ⟨R.1.term, R.1.vote, R.1.base, R.1.bterm, 0⟩ (R.2.1 : Nat) (R.2.1 : Nat) _ _ R.1.log us6 us8 (O69.below b10 (Nat.le_refl _)).rd (L89.below b10 (Nat.le_refl _)).rd
  clear E1 hw9 p0 q0 p1 q1 p2 q2 p3 q3 p4 q4 p5 q5
  go_wp2_with fail
  refine E2.mono ?_
  rintro e w11 ⟨rfl, b11⟩
  have BF := hide (bw9.trans ((b10.trans (b11.mono s10)).mono bw9.size))
  obtain ⟨_, ⟨y10, y11, y12, y13, y14, y15⟩, z10, z11, z12, z13, z14, z15⟩ := HK.out w11 (b10.trans (b11.mono s10))
  clear E2
  go_wp2
  go_ret
  exact ⟨rfl, BF.out⟩

end Go.Proofs.Ytipcdioolafkpaa.wallaw

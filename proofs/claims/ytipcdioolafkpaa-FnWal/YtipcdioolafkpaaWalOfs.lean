/- Contracts of WalOf, of the program and of the specification. -/
import Derived.Test.YtipcdioolafkpaaWalRight
import Derived.Test.YtipcdioolafkpaaImplRecs
namespace Go.Proofs.Ytipcdioolafkpaa.walof
open Go.ChangeShapes Go.WideShapes Go.ChangeAt Go.RowKit
open Go.Proofs.Ytipcdioolafkpaa.bytes Go.Proofs.Ytipcdioolafkpaa.pile Go.Proofs.Ytipcdioolafkpaa.put Go.Proofs.Ytipcdioolafkpaa.crcs Go.Proofs.Ytipcdioolafkpaa.join Go.Proofs.Ytipcdioolafkpaa.frames Go.Proofs.Ytipcdioolafkpaa.votes Go.Proofs.Ytipcdioolafkpaa.pays Go.Proofs.Ytipcdioolafkpaa.recs Go.Proofs.Ytipcdioolafkpaa.implrecs Go.Proofs.Ytipcdioolafkpaa.steps Go.Proofs.Ytipcdioolafkpaa.entries Go.Proofs.Ytipcdioolafkpaa.entpays Go.Proofs.Ytipcdioolafkpaa.implent Go.Proofs.Ytipcdioolafkpaa.rechelp Go.Proofs.Ytipcdioolafkpaa.recrows Go.Proofs.Ytipcdioolafkpaa.recmarks Go.Proofs.Ytipcdioolafkpaa.walhelp Go.Proofs.Ytipcdioolafkpaa.walright
set_option linter.unusedVariables false

/-- The frame of a record. -/
def entF (r : Rec3) : List Int := frameN (2 :: (putN r.t.toNat ++ (putN r.i.toNat ++ r.d)))
def entsTo (rl : List Rec3) (k : Nat) : List Int := ((rl.take k).map entF).flatten
theorem entsTo_succ {rl : List Rec3} {k : Nat} (h : k < rl.length) : entsTo rl (k + 1) = entsTo rl k ++ entF (rl.getD k zRec) := by
  have e : rl.getD k zRec = rl[k] := by simp [List.getD_eq_getElem?_getD, h]
  unfold entsTo
  rw [List.take_succ_eq_append_getElem h, e, List.map_append, List.flatten_append]
  simp only [List.map_cons, List.map_nil, List.flatten_cons, List.flatten_nil, List.append_nil]
theorem good_rec {rl : List Rec3} {j : Nat} (h : good rl j = true) : recOK (rl.getD j zRec).t (rl.getD j zRec).i (rl.getD j zRec).d.length = true := by
  unfold good at h
  rw [Bool.and_eq_true] at h
  exact h.1
theorem entF_len {r : Rec3} (h : recOK r.t r.i r.d.length = true) : (entF r).length ≤ 65550 := by
  obtain ⟨⟨T, hT, hT'⟩, ⟨I, hI, hI', _⟩, hn⟩ := recOK_yes h
  obtain ⟨l1, l2⟩ := pay_len T I hT' hI'
  unfold entF
  rw [hT, hI, Int.toNat_natCast, Int.toNat_natCast]
  exact frameN_len (by simp; omega)
theorem entsTo_len {rl : List Rec3} (h : goods rl = true) : ∀ k, k ≤ rl.length → (entsTo rl k).length ≤ k * 65550
  | 0, _ => by simp [entsTo]
  | k + 1, hk => by
    rw [entsTo_succ (by omega), List.length_append]
    have h1 := entsTo_len h k (by omega)
    have h2 := entF_len (good_rec (goods_at h (j := k) (by omega)))
    omega
def walB (a : Wal5) (rl : List Rec3) : List Int := frameN (1 :: (putN a.T.toNat ++ putN a.V.toNat)) ++ entsTo rl rl.length
def walA (a : Wal5) (rl : List Rec3) : List Int := if walOK a rl = true then (if (walB a rl).length ≤ 65536 then walB a rl else []) else []
def walC (a : Wal5) (rl : List Rec3) : Int := if walOK a rl = true then (if (walB a rl).length ≤ 65536 then 0 else 7) else 1
theorem walA_len (a : Wal5) (rl : List Rec3) : (walA a rl).length ≤ 65536 := by
  unfold walA
  split
  · split
    · assumption
    · simp
  · simp
theorem wal_yes {a : Wal5} {rl : List Rec3} (h : walOK a rl = true) : (∃ T : Nat, a.T = (T : Int) ∧ T ≤ 1000000) ∧ (∃ V : Nat, a.V = (V : Int) ∧ V ≤ 1000000) ∧ rl.length ≤ 100 ∧ goods rl = true := by
  simp only [walOK, headOK, Bool.and_eq_true, decide_eq_true_eq] at h
  obtain ⟨⟨⟨⟨⟨h1, h2⟩, _⟩, _⟩, h5⟩, h6⟩ := h
  exact ⟨inB_nat h1, inB_nat h2, h5, h6⟩

set_option maxRecDepth 20000 in
set_option maxHeartbeats 4000000 in
theorem implWal (w : World) (a : Wal5) (v : Value) (rl : List Rec3) (us : List Value) (hv : RdRecs w v rl us) :
    Calls Try.prog 32 #[.agg #[.int .i64 a.T, .int .i64 a.V, .int .i64 a.B, .int .i64 a.BT, v, .int .i64 a.G]] w fun e w' => ∃ v', e = .returned (.tuple #[v', .int .i64 (walC a rl)]) ∧ Own w' w.heap.size v' (walA a rl) ∧ Below w.heap.size w w' := by
  have HV : Hid (RdRecs w v rl us) := hv
  obtain ⟨ao, ca, rfl, ha1, ha2, ha3⟩ := hv.row
  clear hv
  unfold maxLen at ha2
  obtain ⟨W0, hW0⟩ : ∃ W0, W0 = w.alloc (.cells #[.int .i64 a.T, .int .i64 a.V, .int .i64 a.B, .int .i64 a.BT, .slice ao rl.length ca, .int .i64 a.G] 52) := ⟨_, rfl⟩
  have hb0 : Below w.heap.size w W0 := by rw [hW0]; exact (Below.refl _ _).alloc (Nat.le_refl _) _
  have k0 : W0.heap[w.heap.size]? = some (.cells #[.int .i64 a.T, .int .i64 a.V, .int .i64 a.B, .int .i64 a.BT, .slice ao rl.length ca, .int .i64 a.G] 52 (0, 0)) := by rw [hW0]; exact heap_alloc_new w _
  have sz0 : W0.heap.size = w.heap.size + 1 := by rw [hW0]; simp
  have hC := right_impl W0 a _ rl us (HV.out.below hb0 (Nat.le_refl _))
  rw [hW0] at hC
  rcases Bool.eq_false_or_eq_true (walOK a rl) with hy | hy
  · have HY : Hid (walOK a rl = true) := hy
    have HIf : Hid (((walB a rl).length ≤ 65536 → walA a rl = walB a rl ∧ walC a rl = 0) ∧ (¬ (walB a rl).length ≤ 65536 → walA a rl = [] ∧ walC a rl = 7)) := by
      unfold Hid walA walC
      rw [if_pos hy, if_pos hy]
      exact ⟨fun h => by rw [if_pos h, if_pos h]; exact ⟨rfl, rfl⟩, fun h => by rw [if_neg h, if_neg h]; exact ⟨rfl, rfl⟩⟩
    obtain ⟨⟨T, hTe, hT⟩, ⟨V, hVe, hV⟩, hlen, hgoods⟩ := wal_yes hy
    have HGoods : Hid (goods rl = true) := hgoods
    clear hy hgoods
    obtain ⟨aT, aV, aB, aBT, aG⟩ := a
    simp only at hTe hVe
    subst hTe
    subst hVe
    simp only at k0 hC hW0
    obtain ⟨V0, hV0⟩ : ∃ V0, V0 = frameN (1 :: (putN T ++ putN V)) := ⟨_, rfl⟩
    have HWB : Hid (walB ⟨T, V, aB, aBT, aG⟩ rl = V0 ++ entsTo rl rl.length) := by unfold Hid walB; rw [hV0, Int.toNat_natCast, Int.toNat_natCast]
    rw [HWB.out] at HIf
    have hV0l : V0.length ≤ 65550 := by
      obtain ⟨l1, l2⟩ := pay_len T V hT hV
      rw [hV0]
      exact frameN_len (by simp; omega)
    have HVote : Hid (∀ wx, Calls Try.prog 58 #[.int .i64 T, .int .i64 V] wx fun e w' => ∃ v, e = .returned (.tuple #[v, .int .i64 0]) ∧ Own w' wx.heap.size v V0 ∧ Below wx.heap.size wx w') := fun wx => by
      rw [hV0]
      have hi : (inB (T : Int) && inB (V : Int)) = true := by rw [inB_yes (by omega), inB_yes (by omega)]; rfl
      have := implVote wx T V
      rw [(two_yes (k := 1) hi).1, (two_yes (k := 1) hi).2, Int.toNat_natCast, Int.toNat_natCast] at this
      exact this
    clear hV0
    have HBox : Hid (∀ wx, Below w.heap.size w wx → wx.heap[w.heap.size]? = some (.cells #[.int .i64 T, .int .i64 V, .int .i64 aB, .int .i64 aBT, .slice ao rl.length ca, .int .i64 aG] 52 (0, 0)) → wx.cell? ⟨w.heap.size, 4, none⟩ = some (.slice ao rl.length ca)) := fun wx _ h => cell_of h rfl
    go_enter Try.func32, Try.ntmps32
    go_wp2_with fail
    refine hC.mono ?_
    rw [← hW0]
    rintro e w1 ⟨rfl, b1⟩
    rw [HY.out]
    have B1 : Hid (Below w.heap.size w w1) := hb0.trans (b1.mono hb0.size)
    have k1 := kept b1 k0 (Nat.le_refl _)
    have s1 := b1.size
    have x0 := cell_of k1 (i := 0) rfl
    have x1 := cell_of k1 (i := 1) rfl
    clear hC hW0 b1
    go_wp2_with fail
    refine (HVote.out w1).mono ?_
    rintro e w2 ⟨v2, rfl, O2, b2⟩
    have HW2 : Hid (Own w2 w.heap.size v2 (V0 ++ entsTo rl 0) ∧ Below w.heap.size w w2 ∧ w2.heap[w.heap.size]? = some (.cells #[.int .i64 T, .int .i64 V, .int .i64 aB, .int .i64 aBT, .slice ao rl.length ca, .int .i64 aG] 52 (0, 0))) := ⟨by simpa [entsTo] using O2.mono B1.out.size, B1.out.trans (b2.mono B1.out.size), kept b2 k1 (Nat.le_refl _)⟩
    have x24 := cell_of HW2.out.2.2 (i := 4) rfl
    clear O2 b2 k1 x0 x1
    go_wp2
    go_loopw [4, 24] (fun v4 i wr => ∃ k : Nat, k ≤ rl.length ∧ i = .int .i64 k ∧ Hid (Own wr w.heap.size v4 (V0 ++ entsTo rl k) ∧ Below w.heap.size w wr ∧ wr.heap[w.heap.size]? = some (.cells #[.int .i64 T, .int .i64 V, .int .i64 aB, .int .i64 aBT, .slice ao rl.length ca, .int .i64 aG] 52 (0, 0)))) (fun _ i _ => rl.length - (intOf i).toNat)
    case atStart => exact ⟨0, by omega, rfl, HW2⟩
    case round =>
      clear HW2 x24
      obtain ⟨k, hk, rfl, HR⟩ := hrel
      have x4 := cell_of HR.out.2.2 (i := 4) rfl
      have hel := entsTo_len HGoods.out k hk
      by_cases hlt : k < rl.length
      · obtain ⟨ab, aoff, rfl, hca⟩ := ha3 (by omega)
        obtain ⟨g0, g1, g2⟩ := hca k hlt
        have c0 := cell_at HR.out.2.1 g0 (Nat.le_refl _)
        have c1 := cell_at HR.out.2.1 g1 (Nat.le_refl _)
        have c2 := cell_at HR.out.2.1 g2 (Nat.le_refl _)
        have HA : Hid (RdA wr (us.getD k (.slice none 0 0)) (rl.getD k zRec).d) := (HV.out.each k hlt).below HR.out.2.1 (Nat.le_refl _)
        have HSucc : Hid (entsTo rl (k + 1) = entsTo rl k ++ entF (rl.getD k zRec)) := entsTo_succ hlt
        have hok := good_rec (goods_at HGoods.out hlt)
        have hfl := entF_len hok
        clear hca ha3 g0 g1 g2
        generalize (us.getD k (.slice none 0 0)) = u at c2 HA
        generalize rl.getD k zRec = r at c0 c1 HA HSucc hok hfl
        obtain ⟨t, i, ys⟩ := r
        simp only at c0 c1 HA HSucc hok
        have HRok : Hid (recOK t i ys.length = true) := hok
        obtain ⟨⟨tt, rfl, htt⟩, ⟨ii, rfl, hii, _⟩, hys⟩ := recOK_yes hok
        have HEf : Hid (entF ⟨tt, ii, ys⟩ = frameN (2 :: (putN tt ++ (putN ii ++ ys)))) := by unfold Hid entF; simp only [Int.toNat_natCast]
        obtain ⟨⟨uo, uc, rfl, _⟩, _⟩ := HA.out
        clear hok
        rw [HEf.out] at HSucc hfl
        generalize hFe : frameN (2 :: (putN tt ++ (putN ii ++ ys))) = Fe at HSucc hfl
        have HFe : Hid (frameN (2 :: (putN tt ++ (putN ii ++ ys))) = Fe) := hFe
        clear hFe HEf
        obtain ⟨Wk, hWk⟩ : ∃ Wk, Wk = wr.alloc (.cells #[.int .i64 tt, .int .i64 ii, .slice uo ys.length uc] 92) := ⟨_, rfl⟩
        have bk : Below wr.heap.size wr Wk := by rw [hWk]; exact (Below.refl _ _).alloc (Nat.le_refl _) _
        have hCe := implEntry Wk tt ii _ ys (HA.out.below bk (Nat.le_refl _))
        rw [(ent_yes HRok.out).1, (ent_yes HRok.out).2, Int.toNat_natCast, Int.toNat_natCast, hWk] at hCe
        go_wp2_with fail
        refine hCe.mono ?_
        rw [← hWk]
        rintro e w3 ⟨v3, rfl, O3, b3⟩
        have b3x : Below wr.heap.size wr w3 := bk.trans (b3.mono bk.size)
        have B3 : Hid (Below w.heap.size w w3) := HR.out.2.1.trans (b3x.mono HR.out.2.1.size)
        have O43 : Hid (Own w3 w.heap.size u4 (V0 ++ entsTo rl k)) := HR.out.1.below b3x (Nat.le_refl _)
        clear hCe hWk bk b3
        have K3 : Hid (w3.heap[w.heap.size]? = some (.cells #[.int .i64 T, .int .i64 V, .int .i64 aB, .int .i64 aBT, .slice (some ⟨ab, aoff, none⟩) rl.length ca, .int .i64 aG] 52 (0, 0))) := kept b3x HR.out.2.2 (Nat.le_refl _)
        have O3' : Hid (RdA w3 v3 Fe) := by have := Own.rdA O3; rwa [HFe.out] at this
        have hs3 := B3.out.size
        clear O3 b3x HA HRok HFe c0 c1 c2
        go_wp2_with (at_builtin; refine wpList_append_rd _ rfl _ _ 22 rfl Try.underlying22 info5 w.heap.size _ _ rfl O43.out _ Fe rfl O3'.out (by simp; omega) hs3 ?_; intro v5 w5 hO5 hg5)
        have HN : Hid (Own w5 w.heap.size v5 (V0 ++ entsTo rl (k + 1)) ∧ Below w.heap.size w w5 ∧ w5.heap[w.heap.size]? = some (.cells #[.int .i64 T, .int .i64 V, .int .i64 aB, .int .i64 aBT, .slice (some ⟨ab, aoff, none⟩) rl.length ca, .int .i64 aG] 52 (0, 0))) := by
          refine hide ⟨by rw [HSucc.out, ← List.append_assoc]; exact hO5, B3.out.grown hg5 hs3 (fun j hj => (O43.out.lt j hj).1), ?_⟩
          exact (hg5.block _ (Array.getElem?_eq_some_iff.1 K3.out).1 (fun e => own_other O43.out.2 K3.out (by decide) e.symm)).trans K3.out
        clear hO5 hg5 O43 O3' K3 B3
        go_wp2
        go_roundw
        case rel => exact ⟨k + 1, by omega, by go_num, HN⟩
        case measure => simp [intOf]; omega
      · obtain rfl : k = rl.length := by omega
        obtain ⟨o4, c4, hv4, _⟩ := HR.out.1.rd
        subst hv4
        have HRR : Hid (Own wr w.heap.size (.slice o4 (V0 ++ entsTo rl rl.length).length c4) (V0 ++ entsTo rl rl.length) ∧ Below w.heap.size w wr) := ⟨HR.out.1, HR.out.2.1⟩
        clear HR
        have hLl : (V0 ++ entsTo rl rl.length).length ≤ 100 * 65550 + 65550 := by rw [List.length_append]; have : rl.length * 65550 ≤ 100 * 65550 := Nat.mul_le_mul_right _ hlen; omega
        generalize hLn : (V0 ++ entsTo rl rl.length).length = n4 at HRR hLl ⊢
        have HLn : Hid ((V0 ++ entsTo rl rl.length).length = n4) := hLn
        clear hLn
        by_cases hL : n4 ≤ 65536
        · have hL' : ¬ (65536 : Int) < n4 := by omega
          go_wp2
          go_ret2
          have hc : (V0 ++ entsTo rl rl.length).length ≤ 65536 := by rw [HLn.out]; exact hL
          rw [(HIf.out.1 hc).1, (HIf.out.1 hc).2]
          exact ⟨_, rfl, HRR.out⟩
        · have hL' : (65536 : Int) < n4 := by omega
          have HF : Hid (Own wr w.heap.size (.slice none 0 0) [] ∧ Below w.heap.size w wr) := ⟨⟨by simp, World.ownsRow_nil _ _ _ _⟩, HRR.out.2⟩
          go_wp2
          go_ret2
          have hc : ¬ (V0 ++ entsTo rl rl.length).length ≤ 65536 := by rw [HLn.out]; exact hL
          rw [(HIf.out.2 hc).1, (HIf.out.2 hc).2]
          exact ⟨_, rfl, HF.out⟩
  · have HY : Hid (walOK a rl = false) := hy
    have hE1 : walA a rl = [] := by unfold walA; rw [if_neg (by rw [hy]; simp)]
    have hE2 : walC a rl = 1 := by unfold walC; rw [if_neg (by rw [hy]; simp)]
    rw [hE1, hE2]
    clear hE1 hE2 hy
    go_enter Try.func32, Try.ntmps32
    go_wp2_with fail
    refine hC.mono ?_
    rw [← hW0]
    rintro e w1 ⟨rfl, b1⟩
    rw [HY.out]
    have B1 : Hid (Below w.heap.size w w1) := hb0.trans (b1.mono hb0.size)
    have HF : Hid (Own w1 w.heap.size (.slice none 0 0) [] ∧ Below w.heap.size w w1) := ⟨⟨by simp, World.ownsRow_nil _ _ _ _⟩, B1.out⟩
    clear hC hW0 b1 k0
    go_wp2
    go_ret2
    exact ⟨_, rfl, HF.out⟩
end Go.Proofs.Ytipcdioolafkpaa.walof

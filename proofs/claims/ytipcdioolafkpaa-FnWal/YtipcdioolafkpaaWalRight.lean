/- Contracts of the functions that tell whether a log's state is one that records can make. -/
import Derived.Test.YtipcdioolafkpaaWalHelp
import Derived.Test.YtipcdioolafkpaaImplEnt
namespace Go.Proofs.Ytipcdioolafkpaa.walright
open Go.ChangeShapes Go.WideShapes Go.ChangeAt Go.RowKit
open Go.Proofs.Ytipcdioolafkpaa.bytes Go.Proofs.Ytipcdioolafkpaa.pile Go.Proofs.Ytipcdioolafkpaa.put Go.Proofs.Ytipcdioolafkpaa.crcs Go.Proofs.Ytipcdioolafkpaa.join Go.Proofs.Ytipcdioolafkpaa.frames Go.Proofs.Ytipcdioolafkpaa.votes Go.Proofs.Ytipcdioolafkpaa.pays Go.Proofs.Ytipcdioolafkpaa.recs Go.Proofs.Ytipcdioolafkpaa.steps Go.Proofs.Ytipcdioolafkpaa.entries Go.Proofs.Ytipcdioolafkpaa.entpays Go.Proofs.Ytipcdioolafkpaa.implent Go.Proofs.Ytipcdioolafkpaa.rechelp Go.Proofs.Ytipcdioolafkpaa.recrows Go.Proofs.Ytipcdioolafkpaa.recmarks Go.Proofs.Ytipcdioolafkpaa.walhelp
set_option linter.unusedVariables false

/-- The record at place j is in its bounds and has its index. -/
def good (rl : List Rec3) (j : Nat) : Bool := recOK (rl.getD j zRec).t (rl.getD j zRec).i (rl.getD j zRec).d.length && decide ((rl.getD j zRec).i = (j : Int) + 1)
def goods (rl : List Rec3) : Bool := (List.range rl.length).all (good rl)
def headOK (a : Wal5) (n : Nat) : Bool := (inB a.T && inB a.V) && decide (a.B = 0) && decide (a.BT = 0) && decide (n ≤ 100)
def walOK (a : Wal5) (rl : List Rec3) : Bool := headOK a rl.length && goods rl
theorem goods_yes {rl : List Rec3} (h : ∀ j, j < rl.length → good rl j = true) : goods rl = true := by
  unfold goods
  rw [List.all_eq_true]
  intro j hj
  exact h j (by simpa using hj)
theorem goods_at {rl : List Rec3} (h : goods rl = true) {j : Nat} (hj : j < rl.length) : good rl j = true := by
  unfold goods at h
  rw [List.all_eq_true] at h
  exact h j (by simpa using hj)
theorem goods_no {rl : List Rec3} {k : Nat} (hk : k < rl.length) (h : good rl k = false) : goods rl = false := by
  rcases Bool.eq_false_or_eq_true (goods rl) with e | e
  · have := goods_at e hk; rw [h] at this; simp at this
  · exact e
theorem wal_head {a : Wal5} {rl : List Rec3} (h : headOK a rl.length = false) : walOK a rl = false := by simp [walOK, h]

set_option maxHeartbeats 4000000 in
theorem right_impl (w : World) (a : Wal5) (v : Value) (rl : List Rec3) (us : List Value) (hv : RdRecs w v rl us) :
    Calls Try.prog 57 #[.agg #[.int .i64 a.T, .int .i64 a.V, .int .i64 a.B, .int .i64 a.BT, v, .int .i64 a.G]] w fun e w' => e = .returned (.bool (walOK a rl)) ∧ Below w.heap.size w w' := by
  have HV : Hid (RdRecs w v rl us) := hv
  obtain ⟨ao, ca, rfl, ha1, ha2, ha3⟩ := hv.row
  clear hv
  unfold maxLen at ha2
  obtain ⟨W1, hW1⟩ : ∃ W1, W1 = (w.alloc (.cells #[.int .i64 a.T, .int .i64 a.V, .int .i64 a.B, .int .i64 a.BT, .slice ao rl.length ca, .int .i64 a.G] 52)).alloc (.cells #[.int .i64 a.T, .int .i64 a.V] 120) := ⟨_, rfl⟩
  have hb1 : Below w.heap.size w W1 := by rw [hW1]; exact ((Below.refl _ _).alloc (Nat.le_refl _) _).alloc (by simp) _
  have k0 : W1.heap[w.heap.size]? = some (.cells #[.int .i64 a.T, .int .i64 a.V, .int .i64 a.B, .int .i64 a.BT, .slice ao rl.length ca, .int .i64 a.G] 52 (0, 0)) := by rw [hW1]; exact (two_blocks w _ _).1
  have HBx : Hid (∀ wx, Below W1.heap.size W1 wx → wx.cell? ⟨w.heap.size, 2, none⟩ = some (.int .i64 a.B) ∧ wx.cell? ⟨w.heap.size, 3, none⟩ = some (.int .i64 a.BT) ∧ wx.cell? ⟨w.heap.size, 4, none⟩ = some (.slice ao rl.length ca) ∧ Below w.heap.size w wx) := fun wx hb => by
    have k := kept hb k0 (Nat.le_refl _)
    exact ⟨cell_of k rfl, cell_of k rfl, cell_of k rfl, hb1.trans (hb.mono hb1.size)⟩
  have hIn := vote_in W1 a.T a.V
  rw [hW1] at hIn
  clear k0
  rcases Bool.eq_false_or_eq_true (inB a.T && inB a.V) with hTV | hTV
  · have HTV : Hid ((inB a.T && inB a.V) = true) := hTV
    by_cases hB : a.B = 0
    · have n2 : (a.B != 0) = false := by simp [hB]
      by_cases hBT : a.BT = 0
      · have n3 : (a.BT != 0) = false := by simp [hBT]
        by_cases hn : rl.length ≤ 100
        · have n4 : ¬ (100 : Int) < rl.length := by omega
          have HHd : Hid (headOK a rl.length = true) := by unfold Hid headOK; rw [hTV]; simp [hB, hBT, hn]
          clear hTV hB hBT hn
          go_enter Try.func57, Try.ntmps57
          go_wp2_with fail
          refine hIn.mono ?_
          rw [← hW1]
          rintro e w1 ⟨rfl, b1⟩
          rw [HTV.out]
          obtain ⟨x2, x3, x4, B1⟩ := HBx.out w1 b1
          clear hIn
          have HB1 : Hid (Below w.heap.size w w1) := B1
          clear b1 hb1 hW1 B1
          go_wp2
          go_loopw [33] (fun i wr => ∃ k : Nat, k ≤ rl.length ∧ i = .int .i64 k ∧ Hid (Below w.heap.size w wr ∧ ∀ j, j < k → good rl j = true)) (fun i _ => rl.length - (intOf i).toNat)
          case atStart => exact ⟨0, by omega, rfl, hide ⟨HB1.out, fun j hj => by omega⟩⟩
          case round =>
            obtain ⟨k, hk, rfl, HR⟩ := hrel
            by_cases hlt : k < rl.length
            · obtain ⟨ab, aoff, rfl, hca⟩ := ha3 (by omega)
              obtain ⟨g0, g1, g2⟩ := hca k hlt
              have c0 := cell_at HR.out.1 g0 (Nat.le_refl _)
              have c1 := cell_at HR.out.1 g1 (Nat.le_refl _)
              have c2 := cell_at HR.out.1 g2 (Nat.le_refl _)
              have HA : Hid (RdA wr (us.getD k (.slice none 0 0)) (rl.getD k zRec).d) := (HV.out.each k hlt).below HR.out.1 (Nat.le_refl _)
              have hgd : good rl k = (recOK (rl.getD k zRec).t (rl.getD k zRec).i (rl.getD k zRec).d.length && decide ((rl.getD k zRec).i = (k : Int) + 1)) := rfl
              have HGd : Hid (good rl k = (recOK (rl.getD k zRec).t (rl.getD k zRec).i (rl.getD k zRec).d.length && decide ((rl.getD k zRec).i = (k : Int) + 1))) := hgd
              clear hca ha3 g0 g1 g2 hgd
              generalize (us.getD k (.slice none 0 0)) = u at c2 HA
              generalize rl.getD k zRec = r at c0 c1 HA HGd
              obtain ⟨t, i, ys⟩ := r
              simp only at c0 c1 HA HGd
              obtain ⟨⟨uo, uc, rfl, q1, q2, _⟩, _⟩ := HA.out
              have hm : ys.length ≤ maxLen := by omega
              clear q1 q2
              obtain ⟨Wk, hWk⟩ : ∃ Wk, Wk = wr.alloc (.cells #[.int .i64 t, .int .i64 i, .slice uo ys.length uc] 92) := ⟨_, rfl⟩
              have bk : Below wr.heap.size wr Wk := by rw [hWk]; exact (Below.refl _ _).alloc (Nat.le_refl _) _
              have kk : Wk.heap[wr.heap.size]? = some (.cells #[.int .i64 t, .int .i64 i, .slice uo ys.length uc] 92 (0, 0)) := by rw [hWk]; exact heap_alloc_new wr _
              have hC := entry_in Wk t i uo ys.length uc hm
              rw [hWk] at hC
              clear hm
              go_wp2_with fail
              refine hC.mono ?_
              rw [← hWk]
              rintro e w2 ⟨rfl, b2⟩
              have HB2 : Hid (Below w.heap.size w w2) := (HR.out.1.trans (bk.mono HR.out.1.size)).trans (b2.mono (by have := HR.out.1.size; have := bk.size; omega))
              have c1' := cell_of (kept b2 kk (Nat.le_refl _)) (i := 1) rfl
              clear b2 hC c0 c1 c2 kk bk hWk
              rcases Bool.eq_false_or_eq_true (recOK t i ys.length) with hy | hy
              · have HY : Hid (recOK t i ys.length = true) := hy
                clear hy
                rw [HY.out]
                by_cases hi : i = (k : Int) + 1
                · have ni : (i != (k : Int) + 1) = false := by simp [hi]
                  have HG1 : Hid (good rl k = true) := by unfold Hid; rw [HGd.out, HY.out]; simp [hi]
                  clear hi
                  go_wp2
                  go_roundw
                  case rel => exact ⟨k + 1, by omega, by go_num, hide ⟨HB2.out, fun j hj => (Decidable.em (j = k)).elim (fun e => by rw [e]; exact HG1.out) (fun e => HR.out.2 j (by omega))⟩⟩
                  case measure => simp [intOf]; omega
                · have ni : (i != (k : Int) + 1) = true := by simp [hi]
                  have HE : Hid (walOK a rl = false) := by unfold Hid walOK; rw [goods_no hlt (by rw [HGd.out]; simp [hi])]; simp
                  clear hi
                  go_wp2
                  go_ret
                  exact ⟨ret_bool HE.out.symm, HB2.out⟩
              · have HY : Hid (recOK t i ys.length = false) := hy
                have HE : Hid (walOK a rl = false) := by unfold Hid walOK; rw [goods_no hlt (by rw [HGd.out, hy]; rfl)]; simp
                clear hy
                rw [HY.out]
                go_wp2
                go_ret
                exact ⟨ret_bool HE.out.symm, HB2.out⟩
            · have HE : Hid (walOK a rl = true) := by
                unfold Hid walOK
                rw [HHd.out, goods_yes (fun j hj => HR.out.2 j (by omega))]
                rfl
              go_wp2
              go_ret
              exact ⟨ret_bool HE.out.symm, HR.out.1⟩
        · have n4 : (100 : Int) < rl.length := by omega
          have HE : Hid (walOK a rl = false) := wal_head (by unfold headOK; simp [hn])
          clear hTV hB hBT hn
          go_enter Try.func57, Try.ntmps57
          go_wp2_with fail
          refine hIn.mono ?_
          rw [← hW1]
          rintro e w1 ⟨rfl, b1⟩
          rw [HTV.out]
          obtain ⟨x2, x3, x4, B1⟩ := HBx.out w1 b1
          clear hIn
          go_wp2
          go_ret
          exact ⟨ret_bool (by first | exact HE.out.symm | (rw [HE.out]; rfl)), B1⟩
      · have n3 : (a.BT != 0) = true := by simp [hBT]
        have HE : Hid (walOK a rl = false) := wal_head (by unfold headOK; simp [hBT])
        clear hTV hB hBT
        go_enter Try.func57, Try.ntmps57
        go_wp2_with fail
        refine hIn.mono ?_
        rw [← hW1]
        rintro e w1 ⟨rfl, b1⟩
        rw [HTV.out]
        obtain ⟨x2, x3, x4, B1⟩ := HBx.out w1 b1
        clear hIn
        go_wp2
        go_ret
        exact ⟨ret_bool (by first | exact HE.out.symm | (rw [HE.out]; rfl)), B1⟩
    · have n2 : (a.B != 0) = true := by simp [hB]
      have HE : Hid (walOK a rl = false) := wal_head (by unfold headOK; simp [hB])
      clear hTV hB
      go_enter Try.func57, Try.ntmps57
      go_wp2_with fail
      refine hIn.mono ?_
      rw [← hW1]
      rintro e w1 ⟨rfl, b1⟩
      rw [HTV.out]
      obtain ⟨x2, x3, x4, B1⟩ := HBx.out w1 b1
      clear hIn
      go_wp2
      go_ret
      exact ⟨ret_bool (by first | exact HE.out.symm | (rw [HE.out]; rfl)), B1⟩
  · have HTV : Hid ((inB a.T && inB a.V) = false) := hTV
    have HE : Hid (walOK a rl = false) := wal_head (by unfold headOK; rw [hTV]; simp)
    clear hTV
    go_enter Try.func57, Try.ntmps57
    go_wp2_with fail
    refine hIn.mono ?_
    rw [← hW1]
    rintro e w1 ⟨rfl, b1⟩
    rw [HTV.out]
    obtain ⟨x2, x3, x4, B1⟩ := HBx.out w1 b1
    clear hIn
    go_wp2
    go_ret
    exact ⟨ret_bool (by first | exact HE.out.symm | (rw [HE.out]; rfl)), B1⟩
end Go.Proofs.Ytipcdioolafkpaa.walright

/- FnRecovers returns true at all bytes and leaves them as they were: of drawn records that are cut off anywhere just the whole ones are recovered, as if they alone had been written, as the specification says; no condition. -/
import Derived.Test.YtipcdioolafkpaaEntPays
import Derived.Test.YtipcdioolafkpaaWalHelp
import Derived.Test.YtipcdioolafkpaaRecs
import Derived.Test.YtipcdioolafkpaaRecLaw
import Derived.Test.YtipcdioolafkpaaParts
import Derived.Test.YtipcdioolafkpaaPile
import Derived.Laws.BytesString
import Derived.Laws.IdiomStrings
import Derived.Lib.BufferRead
import Derived.Test.YtipcdioolafkpaaReader
import Derived.Test.YtipcdioolafkpaaLogCells
import Derived.Test.YtipcdioolafkpaaRecsDraw
import Derived.OpenShut
import Derived.ShutString
import Derived.ChangeOld
/- Contracts of EntryRecord, of the program and of the specification. -/
namespace Go.Proofs.Ytipcdioolafkpaa.implent
open Go.ChangeShapes Go.WideShapes Go.ChangeAt Go.RowKit
open Go.Proofs.Ytipcdioolafkpaa.bytes Go.Proofs.Ytipcdioolafkpaa.pile Go.Proofs.Ytipcdioolafkpaa.put Go.Proofs.Ytipcdioolafkpaa.crcs Go.Proofs.Ytipcdioolafkpaa.join Go.Proofs.Ytipcdioolafkpaa.frames Go.Proofs.Ytipcdioolafkpaa.votes Go.Proofs.Ytipcdioolafkpaa.pays Go.Proofs.Ytipcdioolafkpaa.recs Go.Proofs.Ytipcdioolafkpaa.steps Go.Proofs.Ytipcdioolafkpaa.entries Go.Proofs.Ytipcdioolafkpaa.entpays
set_option linter.unusedVariables false

set_option maxRecDepth 20000 in
set_option maxHeartbeats 1000000 in
theorem entry_frame (w : World) (t i : Int) (u : Value) (ys : List Int) (hu : RdA w u ys) :
    Calls Try.prog 83 #[.iface 122 (.agg #[.int .i64 t, .int .i64 i, u])] w fun e w' => ∃ v, e = .returned (.tuple #[v, .int .i64 (entC t i ys)]) ∧ Own w' w.heap.size v (entA t i ys) ∧ Below w.heap.size w w' := by
  have HU : Hid (RdA w u ys) := hu
  obtain ⟨⟨uo, uc, rfl, h1, h2, _⟩, _⟩ := hu
  have HM : Hid (ys.length ≤ maxLen) := by show _ ≤ _; omega
  clear h1 h2
  have hm1 : ∀ (w : World) (a b : Int) (o : Option Addr) (n c : Nat), (method 248 122 (.agg #[.int .i64 a, .int .i64 b, .slice o n c]) "loop.example/g00142/impl.inBounds").run Try.prog w = .ok (82, .agg #[.int .i64 a, .int .i64 b, .slice o n c]) w := fun _ _ _ _ _ _ => by kernel_rfl
  have hm2 : ∀ (w : World) (a b : Int) (o : Option Addr) (n c : Nat), (method 248 122 (.agg #[.int .i64 a, .int .i64 b, .slice o n c]) "loop.example/g00142/impl.payload").run Try.prog w = .ok (108, .agg #[.int .i64 a, .int .i64 b, .slice o n c]) w := fun _ _ _ _ _ _ => by kernel_rfl
  rcases Bool.eq_false_or_eq_true (recOK t i ys.length) with hy | hy
  · rw [(ent_yes hy).1, (ent_yes hy).2]
    have HY : Hid (recOK t i ys.length = true) := hy
    obtain ⟨⟨T, rfl, hT⟩, ⟨I, rfl, hI, _⟩, hn⟩ := recOK_yes hy
    rw [Int.toNat_natCast, Int.toNat_natCast]
    obtain ⟨l1, l2⟩ := pay_len T I hT hI
    clear hy
    go_enter Try.func83, Try.ntmps83
    go_wp2_with fail
    refine (entry_in w T I uo ys.length uc HM.out).mono ?_
    rintro e w1 ⟨rfl, b1⟩
    rw [HY.out]
    have s1 := b1.size
    go_wp2_with fail
    refine (entry_pay w1 T I _ ys hT hI (HU.out.below b1 (Nat.le_refl _)) hn).mono ?_
    rintro e w2 ⟨v2, rfl, HO2, b2⟩
    have s2 := b2.size
    go_wp2_with fail
    refine (implFrame_good w2 _ (2 :: (putN T ++ (putN I ++ ys))) (by simp; omega) (Own.rdA HO2)).mono ?_
    rintro e w3 ⟨v3, rfl, HO3, b3⟩
    have HF : Hid (Own w3 w.heap.size v3 (frameN (2 :: (putN T ++ (putN I ++ ys)))) ∧ Below w.heap.size w w3) := ⟨HO3.mono (by omega), (b1.trans (b2.mono s1)).trans (b3.mono (by omega))⟩
    clear HO2 HO3 b2 b3 b1
    go_wp2
    go_ret2
    exact ⟨_, rfl, HF.out⟩
  · rw [(ent_no hy).1, (ent_no hy).2]
    have HY : Hid (recOK t i ys.length = false) := hy
    clear hy
    go_enter Try.func83, Try.ntmps83
    go_wp2_with fail
    refine (entry_in w t i uo ys.length uc HM.out).mono ?_
    rintro e w1 ⟨rfl, b1⟩
    rw [HY.out]
    go_wp2
    go_ret2
    exact ⟨_, rfl, ⟨by simp, World.ownsRow_nil _ _ _ _⟩, b1⟩

set_option maxHeartbeats 1000000 in
theorem implEntry (w : World) (t i : Int) (u : Value) (ys : List Int) (hu : RdA w u ys) :
    Calls Try.prog 59 #[.agg #[.int .i64 t, .int .i64 i, u]] w fun e w' => ∃ v, e = .returned (.tuple #[v, .int .i64 (entC t i ys)]) ∧ Own w' w.heap.size v (entA t i ys) ∧ Below w.heap.size w w' := by
  have HU : Hid (RdA w u ys) := hu
  obtain ⟨⟨uo, uc, rfl, _⟩, _⟩ := hu
  have HB : Hid (Below w.heap.size w (w.alloc (.cells #[.int .i64 t, .int .i64 i, .slice uo ys.length uc] 92))) := (Below.refl _ _).alloc (Nat.le_refl _) _
  go_enter Try.func59, Try.ntmps59
  go_wp2_with fail
  refine (entry_frame _ t i _ ys (HU.out.below HB.out (Nat.le_refl _))).mono ?_
  rintro e w1 ⟨v, rfl, HO, hb⟩
  have HF : Hid (Own w1 w.heap.size v (entA t i ys) ∧ Below w.heap.size w w1) := ⟨HO.mono (by simp), HB.out.trans (hb.mono (by simp))⟩
  clear HO hb
  go_wp2
  go_ret2
  exact ⟨_, rfl, HF.out⟩
end Go.Proofs.Ytipcdioolafkpaa.implent

/- Contracts of the functions that tell whether a log's state is one that records can make. -/
namespace Go.Proofs.Ytipcdioolafkpaa.walright
open Go.ChangeShapes Go.WideShapes Go.ChangeAt Go.RowKit
open Go.Proofs.Ytipcdioolafkpaa.bytes Go.Proofs.Ytipcdioolafkpaa.pile Go.Proofs.Ytipcdioolafkpaa.put Go.Proofs.Ytipcdioolafkpaa.crcs Go.Proofs.Ytipcdioolafkpaa.join Go.Proofs.Ytipcdioolafkpaa.frames Go.Proofs.Ytipcdioolafkpaa.votes Go.Proofs.Ytipcdioolafkpaa.pays Go.Proofs.Ytipcdioolafkpaa.recs Go.Proofs.Ytipcdioolafkpaa.steps Go.Proofs.Ytipcdioolafkpaa.entries Go.Proofs.Ytipcdioolafkpaa.entpays Go.Proofs.Ytipcdioolafkpaa.implent Go.Proofs.Ytipcdioolafkpaa.rechelp Go.Proofs.Ytipcdioolafkpaa.recrows Go.Proofs.Ytipcdioolafkpaa.recmarks Go.Proofs.Ytipcdioolafkpaa.walhelp
set_option linter.unusedVariables false

/-- The record at place j is in its bounds and has its index. -/
def good (rl : List Rec3) (j : Nat) : Bool := recOK (rl.getD j zRec).t (rl.getD j zRec).i (rl.getD j zRec).d.length && decide ((rl.getD j zRec).i = (j : Int) + 1)
def goods (rl : List Rec3) : Bool := (List.range rl.length).all (good rl)
def headOK (a : Wal5) (n : Nat) : Bool := (inB a.T && inB a.V) && decide (a.B = 0) && decide (a.BT = 0) && decide (n ≤ 100)
def walOK (a : Wal5) (rl : List Rec3) : Bool := headOK a rl.length && goods rl
theorem goods_yes {rl : List Rec3} (h : ∀ j, j < rl.length → good rl j = true) : goods rl = true := by
  unfold goods
  rw [List.all_eq_true]
  intro j hj
  exact h j (by simpa using hj)
theorem goods_at {rl : List Rec3} (h : goods rl = true) {j : Nat} (hj : j < rl.length) : good rl j = true := by
  unfold goods at h
  rw [List.all_eq_true] at h
  exact h j (by simpa using hj)
theorem goods_no {rl : List Rec3} {k : Nat} (hk : k < rl.length) (h : good rl k = false) : goods rl = false := by
  rcases Bool.eq_false_or_eq_true (goods rl) with e | e
  · have := goods_at e hk; rw [h] at this; simp at this
  · exact e
theorem wal_head {a : Wal5} {rl : List Rec3} (h : headOK a rl.length = false) : walOK a rl = false := by simp [walOK, h]

set_option maxHeartbeats 4000000 in
theorem right_impl (w : World) (a : Wal5) (v : Value) (rl : List Rec3) (us : List Value) (hv : RdRecs w v rl us) :
    Calls Try.prog 57 #[.agg #[.int .i64 a.T, .int .i64 a.V, .int .i64 a.B, .int .i64 a.BT, v, .int .i64 a.G]] w fun e w' => e = .returned (.bool (walOK a rl)) ∧ Below w.heap.size w w' := by
  have HV : Hid (RdRecs w v rl us) := hv
  obtain ⟨ao, ca, rfl, ha1, ha2, ha3⟩ := hv.row
  clear hv
  unfold maxLen at ha2
  obtain ⟨W1, hW1⟩ : ∃ W1, W1 = (w.alloc (.cells #[.int .i64 a.T, .int .i64 a.V, .int .i64 a.B, .int .i64 a.BT, .slice ao rl.length ca, .int .i64 a.G] 52)).alloc (.cells #[.int .i64 a.T, .int .i64 a.V] 120) := ⟨_, rfl⟩
  have hb1 : Below w.heap.size w W1 := by rw [hW1]; exact ((Below.refl _ _).alloc (Nat.le_refl _) _).alloc (by simp) _
  have k0 : W1.heap[w.heap.size]? = some (.cells #[.int .i64 a.T, .int .i64 a.V, .int .i64 a.B, .int .i64 a.BT, .slice ao rl.length ca, .int .i64 a.G] 52 (0, 0)) := by rw [hW1]; exact (two_blocks w _ _).1
  have HBx : Hid (∀ wx, Below W1.heap.size W1 wx → wx.cell? ⟨w.heap.size, 2, none⟩ = some (.int .i64 a.B) ∧ wx.cell? ⟨w.heap.size, 3, none⟩ = some (.int .i64 a.BT) ∧ wx.cell? ⟨w.heap.size, 4, none⟩ = some (.slice ao rl.length ca) ∧ Below w.heap.size w wx) := fun wx hb => by
    have k := kept hb k0 (Nat.le_refl _)
    exact ⟨cell_of k rfl, cell_of k rfl, cell_of k rfl, hb1.trans (hb.mono hb1.size)⟩
  have hIn := vote_in W1 a.T a.V
  rw [hW1] at hIn
  clear k0
  rcases Bool.eq_false_or_eq_true (inB a.T && inB a.V) with hTV | hTV
  · have HTV : Hid ((inB a.T && inB a.V) = true) := hTV
    by_cases hB : a.B = 0
    · have n2 : (a.B != 0) = false := by simp [hB]
      by_cases hBT : a.BT = 0
      · have n3 : (a.BT != 0) = false := by simp [hBT]
        by_cases hn : rl.length ≤ 100
        · have n4 : ¬ (100 : Int) < rl.length := by omega
          have HHd : Hid (headOK a rl.length = true) := by unfold Hid headOK; rw [hTV]; simp [hB, hBT, hn]
          clear hTV hB hBT hn
          go_enter Try.func57, Try.ntmps57
          go_wp2_with fail
          refine hIn.mono ?_
          rw [← hW1]
          rintro e w1 ⟨rfl, b1⟩
          rw [HTV.out]
          obtain ⟨x2, x3, x4, B1⟩ := HBx.out w1 b1
          clear hIn
          have HB1 : Hid (Below w.heap.size w w1) := B1
          clear b1 hb1 hW1 B1
          go_wp2
          go_loopw [33] (fun i wr => ∃ k : Nat, k ≤ rl.length ∧ i = .int .i64 k ∧ Hid (Below w.heap.size w wr ∧ ∀ j, j < k → good rl j = true)) (fun i _ => rl.length - (intOf i).toNat)
          case atStart => exact ⟨0, by omega, rfl, hide ⟨HB1.out, fun j hj => by omega⟩⟩
          case round =>
            obtain ⟨k, hk, rfl, HR⟩ := hrel
            by_cases hlt : k < rl.length
            · obtain ⟨ab, aoff, rfl, hca⟩ := ha3 (by omega)
              obtain ⟨g0, g1, g2⟩ := hca k hlt
              have c0 := cell_at HR.out.1 g0 (Nat.le_refl _)
              have c1 := cell_at HR.out.1 g1 (Nat.le_refl _)
              have c2 := cell_at HR.out.1 g2 (Nat.le_refl _)
              have HA : Hid (RdA wr (us.getD k (.slice none 0 0)) (rl.getD k zRec).d) := (HV.out.each k hlt).below HR.out.1 (Nat.le_refl _)
              have hgd : good rl k = (recOK (rl.getD k zRec).t (rl.getD k zRec).i (rl.getD k zRec).d.length && decide ((rl.getD k zRec).i = (k : Int) + 1)) := rfl
              have HGd : Hid (good rl k = (recOK (rl.getD k zRec).t (rl.getD k zRec).i (rl.getD k zRec).d.length && decide ((rl.getD k zRec).i = (k : Int) + 1))) := hgd
              clear hca ha3 g0 g1 g2 hgd
              generalize (us.getD k (.slice none 0 0)) = u at c2 HA
              generalize rl.getD k zRec = r at c0 c1 HA HGd
              obtain ⟨t, i, ys⟩ := r
              simp only at c0 c1 HA HGd
              obtain ⟨⟨uo, uc, rfl, q1, q2, _⟩, _⟩ := HA.out
              have hm : ys.length ≤ maxLen := by omega
              clear q1 q2
              obtain ⟨Wk, hWk⟩ : ∃ Wk, Wk = wr.alloc (.cells #[.int .i64 t, .int .i64 i, .slice uo ys.length uc] 92) := ⟨_, rfl⟩
              have bk : Below wr.heap.size wr Wk := by rw [hWk]; exact (Below.refl _ _).alloc (Nat.le_refl _) _
              have kk : Wk.heap[wr.heap.size]? = some (.cells #[.int .i64 t, .int .i64 i, .slice uo ys.length uc] 92 (0, 0)) := by rw [hWk]; exact heap_alloc_new wr _
              have hC := entry_in Wk t i uo ys.length uc hm
              rw [hWk] at hC
              clear hm
              go_wp2_with fail
              refine hC.mono ?_
              rw [← hWk]
              rintro e w2 ⟨rfl, b2⟩
              have HB2 : Hid (Below w.heap.size w w2) := (HR.out.1.trans (bk.mono HR.out.1.size)).trans (b2.mono (by have := HR.out.1.size; have := bk.size; omega))
              have c1' := cell_of (kept b2 kk (Nat.le_refl _)) (i := 1) rfl
              clear b2 hC c0 c1 c2 kk bk hWk
              rcases Bool.eq_false_or_eq_true (recOK t i ys.length) with hy | hy
              · have HY : Hid (recOK t i ys.length = true) := hy
                clear hy
                rw [HY.out]
                by_cases hi : i = (k : Int) + 1
                · have ni : (i != (k : Int) + 1) = false := by simp [hi]
                  have HG1 : Hid (good rl k = true) := by unfold Hid; rw [HGd.out, HY.out]; simp [hi]
                  clear hi
                  go_wp2
                  go_roundw
                  case rel => exact ⟨k + 1, by omega, by go_num, hide ⟨HB2.out, fun j hj => (Decidable.em (j = k)).elim (fun e => by rw [e]; exact HG1.out) (fun e => HR.out.2 j (by omega))⟩⟩
                  case measure => simp [intOf]; omega
                · have ni : (i != (k : Int) + 1) = true := by simp [hi]
                  have HE : Hid (walOK a rl = false) := by unfold Hid walOK; rw [goods_no hlt (by rw [HGd.out]; simp [hi])]; simp
                  clear hi
                  go_wp2
                  go_ret
                  exact ⟨ret_bool HE.out.symm, HB2.out⟩
              · have HY : Hid (recOK t i ys.length = false) := hy
                have HE : Hid (walOK a rl = false) := by unfold Hid walOK; rw [goods_no hlt (by rw [HGd.out, hy]; rfl)]; simp
                clear hy
                rw [HY.out]
                go_wp2
                go_ret
                exact ⟨ret_bool HE.out.symm, HB2.out⟩
            · have HE : Hid (walOK a rl = true) := by
                unfold Hid walOK
                rw [HHd.out, goods_yes (fun j hj => HR.out.2 j (by omega))]
                rfl
              go_wp2
              go_ret
              exact ⟨ret_bool HE.out.symm, HR.out.1⟩
        · have n4 : (100 : Int) < rl.length := by omega
          have HE : Hid (walOK a rl = false) := wal_head (by unfold headOK; simp [hn])
          clear hTV hB hBT hn
          go_enter Try.func57, Try.ntmps57
          go_wp2_with fail
          refine hIn.mono ?_
          rw [← hW1]
          rintro e w1 ⟨rfl, b1⟩
          rw [HTV.out]
          obtain ⟨x2, x3, x4, B1⟩ := HBx.out w1 b1
          clear hIn
          go_wp2
          go_ret
          exact ⟨ret_bool (by first | exact HE.out.symm | (rw [HE.out]; rfl)), B1⟩
      · have n3 : (a.BT != 0) = true := by simp [hBT]
        have HE : Hid (walOK a rl = false) := wal_head (by unfold headOK; simp [hBT])
        clear hTV hB hBT
        go_enter Try.func57, Try.ntmps57
        go_wp2_with fail
        refine hIn.mono ?_
        rw [← hW1]
        rintro e w1 ⟨rfl, b1⟩
        rw [HTV.out]
        obtain ⟨x2, x3, x4, B1⟩ := HBx.out w1 b1
        clear hIn
        go_wp2
        go_ret
        exact ⟨ret_bool (by first | exact HE.out.symm | (rw [HE.out]; rfl)), B1⟩
    · have n2 : (a.B != 0) = true := by simp [hB]
      have HE : Hid (walOK a rl = false) := wal_head (by unfold headOK; simp [hB])
      clear hTV hB
      go_enter Try.func57, Try.ntmps57
      go_wp2_with fail
      refine hIn.mono ?_
      rw [← hW1]
      rintro e w1 ⟨rfl, b1⟩
      rw [HTV.out]
      obtain ⟨x2, x3, x4, B1⟩ := HBx.out w1 b1
      clear hIn
      go_wp2
      go_ret
      exact ⟨ret_bool (by first | exact HE.out.symm | (rw [HE.out]; rfl)), B1⟩
  · have HTV : Hid ((inB a.T && inB a.V) = false) := hTV
    have HE : Hid (walOK a rl = false) := wal_head (by unfold headOK; rw [hTV]; simp)
    clear hTV
    go_enter Try.func57, Try.ntmps57
    go_wp2_with fail
    refine hIn.mono ?_
    rw [← hW1]
    rintro e w1 ⟨rfl, b1⟩
    rw [HTV.out]
    obtain ⟨x2, x3, x4, B1⟩ := HBx.out w1 b1
    clear hIn
    go_wp2
    go_ret
    exact ⟨ret_bool (by first | exact HE.out.symm | (rw [HE.out]; rfl)), B1⟩
end Go.Proofs.Ytipcdioolafkpaa.walright

/- Contracts of the program's vote and base records. -/
namespace Go.Proofs.Ytipcdioolafkpaa.implrecs
open Go.ChangeShapes Go.WideShapes Go.ChangeAt Go.RowKit
open Go.Proofs.Ytipcdioolafkpaa.bytes Go.Proofs.Ytipcdioolafkpaa.pile Go.Proofs.Ytipcdioolafkpaa.put Go.Proofs.Ytipcdioolafkpaa.crcs Go.Proofs.Ytipcdioolafkpaa.join Go.Proofs.Ytipcdioolafkpaa.frames Go.Proofs.Ytipcdioolafkpaa.votes Go.Proofs.Ytipcdioolafkpaa.pays Go.Proofs.Ytipcdioolafkpaa.recs
set_option linter.unusedVariables false

theorem two_len (k a b : Int) : (twoA k a b).length ≤ 65550 := by
  unfold twoA
  split
  · rename_i h
    have ha : inB a = true := by revert h; cases inB a <;> simp
    have hb : inB b = true := by revert h; cases inB b <;> simp
    obtain ⟨T, rfl, hT⟩ := inB_nat ha
    obtain ⟨V, rfl, hV⟩ := inB_nat hb
    obtain ⟨l1, l2⟩ := pay_len T V hT hV
    rw [Int.toNat_natCast, Int.toNat_natCast]
    exact frameN_len (by simp; omega)
  · simp

set_option maxRecDepth 20000 in
set_option maxHeartbeats 1000000 in
theorem Vote_frame (w : World) (a b : Int) :
    Calls Try.prog 83 #[.iface 120 (.agg #[.int .i64 a, .int .i64 b])] w fun e w' => ∃ v, e = .returned (.tuple #[v, .int .i64 (twoC a b)]) ∧ Own w' w.heap.size v (twoA 1 a b) ∧ Below w.heap.size w w' := by
  have hm1 : ∀ (w : World) (a b : Int), (method 248 120 (.agg #[.int .i64 a, .int .i64 b]) "loop.example/g00142/impl.inBounds").run Try.prog w = .ok (81, .agg #[.int .i64 a, .int .i64 b]) w := fun _ _ _ => by kernel_rfl
  have hm2 : ∀ (w : World) (a b : Int), (method 248 120 (.agg #[.int .i64 a, .int .i64 b]) "loop.example/g00142/impl.payload").run Try.prog w = .ok (107, .agg #[.int .i64 a, .int .i64 b]) w := fun _ _ _ => by kernel_rfl
  rcases Bool.eq_false_or_eq_true (inB a && inB b) with hy | hy
  · rw [(two_yes (k := 1) hy).1, (two_yes (k := 1) hy).2]
    have ha : inB a = true := by revert hy; cases inB a <;> simp
    have hb : inB b = true := by revert hy; cases inB b <;> simp
    obtain ⟨T, rfl, hT⟩ := inB_nat ha
    obtain ⟨V, rfl, hV⟩ := inB_nat hb
    rw [Int.toNat_natCast, Int.toNat_natCast]
    have HY : Hid ((inB (T : Int) && inB (V : Int)) = true) := hy
    obtain ⟨l1, l2⟩ := pay_len T V hT hV
    clear ha hb hy
    go_enter Try.func83, Try.ntmps83
    go_wp2_with fail
    refine (vote_in w T V).mono ?_
    rintro e w1 ⟨rfl, b1⟩
    rw [HY.out]
    have s1 := b1.size
    go_wp2_with fail
    refine (vote_pay w1 T V hT hV).mono ?_
    rintro e w2 ⟨v2, rfl, HO2, b2⟩
    have s2 := b2.size
    go_wp2_with fail
    refine (implFrame_good w2 _ (1 :: (putN T ++ putN V)) (by simp; omega) (Own.rdA HO2)).mono ?_
    rintro e w3 ⟨v3, rfl, HO3, b3⟩
    have HF : Hid (Own w3 w.heap.size v3 (frameN (1 :: (putN T ++ putN V))) ∧ Below w.heap.size w w3) := ⟨HO3.mono (by omega), (b1.trans (b2.mono s1)).trans (b3.mono (by omega))⟩
    clear HO2 HO3 b2 b3 b1
    go_wp2
    go_ret2
    exact ⟨_, rfl, HF.out⟩
  · rw [(two_no (k := 1) hy).1, (two_no (k := 1) hy).2]
    have HY : Hid ((inB a && inB b) = false) := hy
    clear hy
    go_enter Try.func83, Try.ntmps83
    go_wp2_with fail
    refine (vote_in w a b).mono ?_
    rintro e w1 ⟨rfl, b1⟩
    rw [HY.out]
    go_wp2
    go_ret2
    exact ⟨_, rfl, ⟨by simp, World.ownsRow_nil _ _ _ _⟩, b1⟩

set_option maxHeartbeats 1000000 in
theorem implVote (w : World) (a b : Int) :
    Calls Try.prog 58 #[.int .i64 a, .int .i64 b] w fun e w' => ∃ v, e = .returned (.tuple #[v, .int .i64 (twoC a b)]) ∧ Own w' w.heap.size v (twoA 1 a b) ∧ Below w.heap.size w w' := by
  go_enter Try.func58, Try.ntmps58
  go_wp2_with fail
  refine (Vote_frame w a b).mono ?_
  rintro e w1 ⟨v, rfl, HO, hb⟩
  have HF : Hid (Own w1 w.heap.size v (twoA 1 a b) ∧ Below w.heap.size w w1) := ⟨HO, hb⟩
  clear HO hb
  go_wp2
  go_ret2
  exact ⟨_, rfl, HF.out⟩

set_option maxRecDepth 20000 in
set_option maxHeartbeats 1000000 in
theorem Base_frame (w : World) (a b : Int) :
    Calls Try.prog 83 #[.iface 127 (.agg #[.int .i64 a, .int .i64 b])] w fun e w' => ∃ v, e = .returned (.tuple #[v, .int .i64 (twoC a b)]) ∧ Own w' w.heap.size v (twoA 3 a b) ∧ Below w.heap.size w w' := by
  have hm1 : ∀ (w : World) (a b : Int), (method 248 127 (.agg #[.int .i64 a, .int .i64 b]) "loop.example/g00142/impl.inBounds").run Try.prog w = .ok (109, .agg #[.int .i64 a, .int .i64 b]) w := fun _ _ _ => by kernel_rfl
  have hm2 : ∀ (w : World) (a b : Int), (method 248 127 (.agg #[.int .i64 a, .int .i64 b]) "loop.example/g00142/impl.payload").run Try.prog w = .ok (110, .agg #[.int .i64 a, .int .i64 b]) w := fun _ _ _ => by kernel_rfl
  rcases Bool.eq_false_or_eq_true (inB a && inB b) with hy | hy
  · rw [(two_yes (k := 3) hy).1, (two_yes (k := 3) hy).2]
    have ha : inB a = true := by revert hy; cases inB a <;> simp
    have hb : inB b = true := by revert hy; cases inB b <;> simp
    obtain ⟨T, rfl, hT⟩ := inB_nat ha
    obtain ⟨V, rfl, hV⟩ := inB_nat hb
    rw [Int.toNat_natCast, Int.toNat_natCast]
    have HY : Hid ((inB (T : Int) && inB (V : Int)) = true) := hy
    obtain ⟨l1, l2⟩ := pay_len T V hT hV
    clear ha hb hy
    go_enter Try.func83, Try.ntmps83
    go_wp2_with fail
    refine (base_in w T V).mono ?_
    rintro e w1 ⟨rfl, b1⟩
    rw [HY.out]
    have s1 := b1.size
    go_wp2_with fail
    refine (base_pay w1 T V hT hV).mono ?_
    rintro e w2 ⟨v2, rfl, HO2, b2⟩
    have s2 := b2.size
    go_wp2_with fail
    refine (implFrame_good w2 _ (3 :: (putN T ++ putN V)) (by simp; omega) (Own.rdA HO2)).mono ?_
    rintro e w3 ⟨v3, rfl, HO3, b3⟩
    have HF : Hid (Own w3 w.heap.size v3 (frameN (3 :: (putN T ++ putN V))) ∧ Below w.heap.size w w3) := ⟨HO3.mono (by omega), (b1.trans (b2.mono s1)).trans (b3.mono (by omega))⟩
    clear HO2 HO3 b2 b3 b1
    go_wp2
    go_ret2
    exact ⟨_, rfl, HF.out⟩
  · rw [(two_no (k := 3) hy).1, (two_no (k := 3) hy).2]
    have HY : Hid ((inB a && inB b) = false) := hy
    clear hy
    go_enter Try.func83, Try.ntmps83
    go_wp2_with fail
    refine (base_in w a b).mono ?_
    rintro e w1 ⟨rfl, b1⟩
    rw [HY.out]
    go_wp2
    go_ret2
    exact ⟨_, rfl, ⟨by simp, World.ownsRow_nil _ _ _ _⟩, b1⟩

end Go.Proofs.Ytipcdioolafkpaa.implrecs

/- Contracts of WalOf, of the program and of the specification. -/
namespace Go.Proofs.Ytipcdioolafkpaa.walof
open Go.ChangeShapes Go.WideShapes Go.ChangeAt Go.RowKit
open Go.Proofs.Ytipcdioolafkpaa.bytes Go.Proofs.Ytipcdioolafkpaa.pile Go.Proofs.Ytipcdioolafkpaa.put Go.Proofs.Ytipcdioolafkpaa.crcs Go.Proofs.Ytipcdioolafkpaa.join Go.Proofs.Ytipcdioolafkpaa.frames Go.Proofs.Ytipcdioolafkpaa.votes Go.Proofs.Ytipcdioolafkpaa.pays Go.Proofs.Ytipcdioolafkpaa.recs Go.Proofs.Ytipcdioolafkpaa.implrecs Go.Proofs.Ytipcdioolafkpaa.steps Go.Proofs.Ytipcdioolafkpaa.entries Go.Proofs.Ytipcdioolafkpaa.entpays Go.Proofs.Ytipcdioolafkpaa.implent Go.Proofs.Ytipcdioolafkpaa.rechelp Go.Proofs.Ytipcdioolafkpaa.recrows Go.Proofs.Ytipcdioolafkpaa.recmarks Go.Proofs.Ytipcdioolafkpaa.walhelp Go.Proofs.Ytipcdioolafkpaa.walright
set_option linter.unusedVariables false

/-- The frame of a record. -/
def entF (r : Rec3) : List Int := frameN (2 :: (putN r.t.toNat ++ (putN r.i.toNat ++ r.d)))
def entsTo (rl : List Rec3) (k : Nat) : List Int := ((rl.take k).map entF).flatten
theorem entsTo_succ {rl : List Rec3} {k : Nat} (h : k < rl.length) : entsTo rl (k + 1) = entsTo rl k ++ entF (rl.getD k zRec) := by
  have e : rl.getD k zRec = rl[k] := by simp [List.getD_eq_getElem?_getD, h]
  unfold entsTo
  rw [List.take_succ_eq_append_getElem h, e, List.map_append, List.flatten_append]
  simp only [List.map_cons, List.map_nil, List.flatten_cons, List.flatten_nil, List.append_nil]
theorem good_rec {rl : List Rec3} {j : Nat} (h : good rl j = true) : recOK (rl.getD j zRec).t (rl.getD j zRec).i (rl.getD j zRec).d.length = true := by
  unfold good at h
  rw [Bool.and_eq_true] at h
  exact h.1
theorem entF_len {r : Rec3} (h : recOK r.t r.i r.d.length = true) : (entF r).length ≤ 65550 := by
  obtain ⟨⟨T, hT, hT'⟩, ⟨I, hI, hI', _⟩, hn⟩ := recOK_yes h
  obtain ⟨l1, l2⟩ := pay_len T I hT' hI'
  unfold entF
  rw [hT, hI, Int.toNat_natCast, Int.toNat_natCast]
  exact frameN_len (by simp; omega)
theorem entsTo_len {rl : List Rec3} (h : goods rl = true) : ∀ k, k ≤ rl.length → (entsTo rl k).length ≤ k * 65550
  | 0, _ => by simp [entsTo]
  | k + 1, hk => by
    rw [entsTo_succ (by omega), List.length_append]
    have h1 := entsTo_len h k (by omega)
    have h2 := entF_len (good_rec (goods_at h (j := k) (by omega)))
    omega
def walB (a : Wal5) (rl : List Rec3) : List Int := frameN (1 :: (putN a.T.toNat ++ putN a.V.toNat)) ++ entsTo rl rl.length
def walA (a : Wal5) (rl : List Rec3) : List Int := if walOK a rl = true then (if (walB a rl).length ≤ 65536 then walB a rl else []) else []
def walC (a : Wal5) (rl : List Rec3) : Int := if walOK a rl = true then (if (walB a rl).length ≤ 65536 then 0 else 7) else 1
theorem walA_len (a : Wal5) (rl : List Rec3) : (walA a rl).length ≤ 65536 := by
  unfold walA
  split
  · split
    · assumption
    · simp
  · simp
theorem wal_yes {a : Wal5} {rl : List Rec3} (h : walOK a rl = true) : (∃ T : Nat, a.T = (T : Int) ∧ T ≤ 1000000) ∧ (∃ V : Nat, a.V = (V : Int) ∧ V ≤ 1000000) ∧ rl.length ≤ 100 ∧ goods rl = true := by
  simp only [walOK, headOK, Bool.and_eq_true, decide_eq_true_eq] at h
  obtain ⟨⟨⟨⟨⟨h1, h2⟩, _⟩, _⟩, h5⟩, h6⟩ := h
  exact ⟨inB_nat h1, inB_nat h2, h5, h6⟩

set_option maxRecDepth 20000 in
set_option maxHeartbeats 4000000 in
theorem implWal (w : World) (a : Wal5) (v : Value) (rl : List Rec3) (us : List Value) (hv : RdRecs w v rl us) :
    Calls Try.prog 32 #[.agg #[.int .i64 a.T, .int .i64 a.V, .int .i64 a.B, .int .i64 a.BT, v, .int .i64 a.G]] w fun e w' => ∃ v', e = .returned (.tuple #[v', .int .i64 (walC a rl)]) ∧ Own w' w.heap.size v' (walA a rl) ∧ Below w.heap.size w w' := by
  have HV : Hid (RdRecs w v rl us) := hv
  obtain ⟨ao, ca, rfl, ha1, ha2, ha3⟩ := hv.row
  clear hv
  unfold maxLen at ha2
  obtain ⟨W0, hW0⟩ : ∃ W0, W0 = w.alloc (.cells #[.int .i64 a.T, .int .i64 a.V, .int .i64 a.B, .int .i64 a.BT, .slice ao rl.length ca, .int .i64 a.G] 52) := ⟨_, rfl⟩
  have hb0 : Below w.heap.size w W0 := by rw [hW0]; exact (Below.refl _ _).alloc (Nat.le_refl _) _
  have k0 : W0.heap[w.heap.size]? = some (.cells #[.int .i64 a.T, .int .i64 a.V, .int .i64 a.B, .int .i64 a.BT, .slice ao rl.length ca, .int .i64 a.G] 52 (0, 0)) := by rw [hW0]; exact heap_alloc_new w _
  have sz0 : W0.heap.size = w.heap.size + 1 := by rw [hW0]; simp
  have hC := right_impl W0 a _ rl us (HV.out.below hb0 (Nat.le_refl _))
  rw [hW0] at hC
  rcases Bool.eq_false_or_eq_true (walOK a rl) with hy | hy
  · have HY : Hid (walOK a rl = true) := hy
    have HIf : Hid (((walB a rl).length ≤ 65536 → walA a rl = walB a rl ∧ walC a rl = 0) ∧ (¬ (walB a rl).length ≤ 65536 → walA a rl = [] ∧ walC a rl = 7)) := by
      unfold Hid walA walC
      rw [if_pos hy, if_pos hy]
      exact ⟨fun h => by rw [if_pos h, if_pos h]; exact ⟨rfl, rfl⟩, fun h => by rw [if_neg h, if_neg h]; exact ⟨rfl, rfl⟩⟩
    obtain ⟨⟨T, hTe, hT⟩, ⟨V, hVe, hV⟩, hlen, hgoods⟩ := wal_yes hy
    have HGoods : Hid (goods rl = true) := hgoods
    clear hy hgoods
    obtain ⟨aT, aV, aB, aBT, aG⟩ := a
    simp only at hTe hVe
    subst hTe
    subst hVe
    simp only at k0 hC hW0
    obtain ⟨V0, hV0⟩ : ∃ V0, V0 = frameN (1 :: (putN T ++ putN V)) := ⟨_, rfl⟩
    have HWB : Hid (walB ⟨T, V, aB, aBT, aG⟩ rl = V0 ++ entsTo rl rl.length) := by unfold Hid walB; rw [hV0, Int.toNat_natCast, Int.toNat_natCast]
    rw [HWB.out] at HIf
    have hV0l : V0.length ≤ 65550 := by
      obtain ⟨l1, l2⟩ := pay_len T V hT hV
      rw [hV0]
      exact frameN_len (by simp; omega)
    have HVote : Hid (∀ wx, Calls Try.prog 58 #[.int .i64 T, .int .i64 V] wx fun e w' => ∃ v, e = .returned (.tuple #[v, .int .i64 0]) ∧ Own w' wx.heap.size v V0 ∧ Below wx.heap.size wx w') := fun wx => by
      rw [hV0]
      have hi : (inB (T : Int) && inB (V : Int)) = true := by rw [inB_yes (by omega), inB_yes (by omega)]; rfl
      have := implVote wx T V
      rw [(two_yes (k := 1) hi).1, (two_yes (k := 1) hi).2, Int.toNat_natCast, Int.toNat_natCast] at this
      exact this
    clear hV0
    have HBox : Hid (∀ wx, Below w.heap.size w wx → wx.heap[w.heap.size]? = some (.cells #[.int .i64 T, .int .i64 V, .int .i64 aB, .int .i64 aBT, .slice ao rl.length ca, .int .i64 aG] 52 (0, 0)) → wx.cell? ⟨w.heap.size, 4, none⟩ = some (.slice ao rl.length ca)) := fun wx _ h => cell_of h rfl
    go_enter Try.func32, Try.ntmps32
    go_wp2_with fail
    refine hC.mono ?_
    rw [← hW0]
    rintro e w1 ⟨rfl, b1⟩
    rw [HY.out]
    have B1 : Hid (Below w.heap.size w w1) := hb0.trans (b1.mono hb0.size)
    have k1 := kept b1 k0 (Nat.le_refl _)
    have s1 := b1.size
    have x0 := cell_of k1 (i := 0) rfl
    have x1 := cell_of k1 (i := 1) rfl
    clear hC hW0 b1
    go_wp2_with fail
    refine (HVote.out w1).mono ?_
    rintro e w2 ⟨v2, rfl, O2, b2⟩
    have HW2 : Hid (Own w2 w.heap.size v2 (V0 ++ entsTo rl 0) ∧ Below w.heap.size w w2 ∧ w2.heap[w.heap.size]? = some (.cells #[.int .i64 T, .int .i64 V, .int .i64 aB, .int .i64 aBT, .slice ao rl.length ca, .int .i64 aG] 52 (0, 0))) := ⟨by simpa [entsTo] using O2.mono B1.out.size, B1.out.trans (b2.mono B1.out.size), kept b2 k1 (Nat.le_refl _)⟩
    have x24 := cell_of HW2.out.2.2 (i := 4) rfl
    clear O2 b2 k1 x0 x1
    go_wp2
    go_loopw [4, 24] (fun v4 i wr => ∃ k : Nat, k ≤ rl.length ∧ i = .int .i64 k ∧ Hid (Own wr w.heap.size v4 (V0 ++ entsTo rl k) ∧ Below w.heap.size w wr ∧ wr.heap[w.heap.size]? = some (.cells #[.int .i64 T, .int .i64 V, .int .i64 aB, .int .i64 aBT, .slice ao rl.length ca, .int .i64 aG] 52 (0, 0)))) (fun _ i _ => rl.length - (intOf i).toNat)
    case atStart => exact ⟨0, by omega, rfl, HW2⟩
    case round =>
      clear HW2 x24
      obtain ⟨k, hk, rfl, HR⟩ := hrel
      have x4 := cell_of HR.out.2.2 (i := 4) rfl
      have hel := entsTo_len HGoods.out k hk
      by_cases hlt : k < rl.length
      · obtain ⟨ab, aoff, rfl, hca⟩ := ha3 (by omega)
        obtain ⟨g0, g1, g2⟩ := hca k hlt
        have c0 := cell_at HR.out.2.1 g0 (Nat.le_refl _)
        have c1 := cell_at HR.out.2.1 g1 (Nat.le_refl _)
        have c2 := cell_at HR.out.2.1 g2 (Nat.le_refl _)
        have HA : Hid (RdA wr (us.getD k (.slice none 0 0)) (rl.getD k zRec).d) := (HV.out.each k hlt).below HR.out.2.1 (Nat.le_refl _)
        have HSucc : Hid (entsTo rl (k + 1) = entsTo rl k ++ entF (rl.getD k zRec)) := entsTo_succ hlt
        have hok := good_rec (goods_at HGoods.out hlt)
        have hfl := entF_len hok
        clear hca ha3 g0 g1 g2
        generalize (us.getD k (.slice none 0 0)) = u at c2 HA
        generalize rl.getD k zRec = r at c0 c1 HA HSucc hok hfl
        obtain ⟨t, i, ys⟩ := r
        simp only at c0 c1 HA HSucc hok
        have HRok : Hid (recOK t i ys.length = true) := hok
        obtain ⟨⟨tt, rfl, htt⟩, ⟨ii, rfl, hii, _⟩, hys⟩ := recOK_yes hok
        have HEf : Hid (entF ⟨tt, ii, ys⟩ = frameN (2 :: (putN tt ++ (putN ii ++ ys)))) := by unfold Hid entF; simp only [Int.toNat_natCast]
        obtain ⟨⟨uo, uc, rfl, _⟩, _⟩ := HA.out
        clear hok
        rw [HEf.out] at HSucc hfl
        generalize hFe : frameN (2 :: (putN tt ++ (putN ii ++ ys))) = Fe at HSucc hfl
        have HFe : Hid (frameN (2 :: (putN tt ++ (putN ii ++ ys))) = Fe) := hFe
        clear hFe HEf
        obtain ⟨Wk, hWk⟩ : ∃ Wk, Wk = wr.alloc (.cells #[.int .i64 tt, .int .i64 ii, .slice uo ys.length uc] 92) := ⟨_, rfl⟩
        have bk : Below wr.heap.size wr Wk := by rw [hWk]; exact (Below.refl _ _).alloc (Nat.le_refl _) _
        have hCe := implEntry Wk tt ii _ ys (HA.out.below bk (Nat.le_refl _))
        rw [(ent_yes HRok.out).1, (ent_yes HRok.out).2, Int.toNat_natCast, Int.toNat_natCast, hWk] at hCe
        go_wp2_with fail
        refine hCe.mono ?_
        rw [← hWk]
        rintro e w3 ⟨v3, rfl, O3, b3⟩
        have b3x : Below wr.heap.size wr w3 := bk.trans (b3.mono bk.size)
        have B3 : Hid (Below w.heap.size w w3) := HR.out.2.1.trans (b3x.mono HR.out.2.1.size)
        have O43 : Hid (Own w3 w.heap.size u4 (V0 ++ entsTo rl k)) := HR.out.1.below b3x (Nat.le_refl _)
        clear hCe hWk bk b3
        have K3 : Hid (w3.heap[w.heap.size]? = some (.cells #[.int .i64 T, .int .i64 V, .int .i64 aB, .int .i64 aBT, .slice (some ⟨ab, aoff, none⟩) rl.length ca, .int .i64 aG] 52 (0, 0))) := kept b3x HR.out.2.2 (Nat.le_refl _)
        have O3' : Hid (RdA w3 v3 Fe) := by have := Own.rdA O3; rwa [HFe.out] at this
        have hs3 := B3.out.size
        clear O3 b3x HA HRok HFe c0 c1 c2
        go_wp2_with (at_builtin; refine wpList_append_rd _ rfl _ _ 22 rfl Try.underlying22 info5 w.heap.size _ _ rfl O43.out _ Fe rfl O3'.out (by simp; omega) hs3 ?_; intro v5 w5 hO5 hg5)
        have HN : Hid (Own w5 w.heap.size v5 (V0 ++ entsTo rl (k + 1)) ∧ Below w.heap.size w w5 ∧ w5.heap[w.heap.size]? = some (.cells #[.int .i64 T, .int .i64 V, .int .i64 aB, .int .i64 aBT, .slice (some ⟨ab, aoff, none⟩) rl.length ca, .int .i64 aG] 52 (0, 0))) := by
          refine hide ⟨by rw [HSucc.out, ← List.append_assoc]; exact hO5, B3.out.grown hg5 hs3 (fun j hj => (O43.out.lt j hj).1), ?_⟩
          exact (hg5.block _ (Array.getElem?_eq_some_iff.1 K3.out).1 (fun e => own_other O43.out.2 K3.out (by decide) e.symm)).trans K3.out
        clear hO5 hg5 O43 O3' K3 B3
        go_wp2
        go_roundw
        case rel => exact ⟨k + 1, by omega, by go_num, HN⟩
        case measure => simp [intOf]; omega
      · obtain rfl : k = rl.length := by omega
        obtain ⟨o4, c4, hv4, _⟩ := HR.out.1.rd
        subst hv4
        have HRR : Hid (Own wr w.heap.size (.slice o4 (V0 ++ entsTo rl rl.length).length c4) (V0 ++ entsTo rl rl.length) ∧ Below w.heap.size w wr) := ⟨HR.out.1, HR.out.2.1⟩
        clear HR
        have hLl : (V0 ++ entsTo rl rl.length).length ≤ 100 * 65550 + 65550 := by rw [List.length_append]; have : rl.length * 65550 ≤ 100 * 65550 := Nat.mul_le_mul_right _ hlen; omega
        generalize hLn : (V0 ++ entsTo rl rl.length).length = n4 at HRR hLl ⊢
        have HLn : Hid ((V0 ++ entsTo rl rl.length).length = n4) := hLn
        clear hLn
        by_cases hL : n4 ≤ 65536
        · have hL' : ¬ (65536 : Int) < n4 := by omega
          go_wp2
          go_ret2
          have hc : (V0 ++ entsTo rl rl.length).length ≤ 65536 := by rw [HLn.out]; exact hL
          rw [(HIf.out.1 hc).1, (HIf.out.1 hc).2]
          exact ⟨_, rfl, HRR.out⟩
        · have hL' : (65536 : Int) < n4 := by omega
          have HF : Hid (Own wr w.heap.size (.slice none 0 0) [] ∧ Below w.heap.size w wr) := ⟨⟨by simp, World.ownsRow_nil _ _ _ _⟩, HRR.out.2⟩
          go_wp2
          go_ret2
          have hc : ¬ (V0 ++ entsTo rl rl.length).length ≤ 65536 := by rw [HLn.out]; exact hL
          rw [(HIf.out.2 hc).1, (HIf.out.2 hc).2]
          exact ⟨_, rfl, HF.out⟩
  · have HY : Hid (walOK a rl = false) := hy
    have hE1 : walA a rl = [] := by unfold walA; rw [if_neg (by rw [hy]; simp)]
    have hE2 : walC a rl = 1 := by unfold walC; rw [if_neg (by rw [hy]; simp)]
    rw [hE1, hE2]
    clear hE1 hE2 hy
    go_enter Try.func32, Try.ntmps32
    go_wp2_with fail
    refine hC.mono ?_
    rw [← hW0]
    rintro e w1 ⟨rfl, b1⟩
    rw [HY.out]
    have B1 : Hid (Below w.heap.size w w1) := hb0.trans (b1.mono hb0.size)
    have HF : Hid (Own w1 w.heap.size (.slice none 0 0) [] ∧ Below w.heap.size w w1) := ⟨⟨by simp, World.ownsRow_nil _ _ _ _⟩, B1.out⟩
    clear hC hW0 b1 k0
    go_wp2
    go_ret2
    exact ⟨_, rfl, HF.out⟩
end Go.Proofs.Ytipcdioolafkpaa.walof

/- Records in frames are recovered: of numbers alone. -/
namespace Go.Proofs.Ytipcdioolafkpaa.streams
open Go.ChangeShapes Go.WideShapes Go.ChangeAt Go.RowKit
open Go.Proofs.Ytipcdioolafkpaa.bytes Go.Proofs.Ytipcdioolafkpaa.pile Go.Proofs.Ytipcdioolafkpaa.put Go.Proofs.Ytipcdioolafkpaa.crcs Go.Proofs.Ytipcdioolafkpaa.join Go.Proofs.Ytipcdioolafkpaa.frames Go.Proofs.Ytipcdioolafkpaa.get Go.Proofs.Ytipcdioolafkpaa.dec Go.Proofs.Ytipcdioolafkpaa.take Go.Proofs.Ytipcdioolafkpaa.one Go.Proofs.Ytipcdioolafkpaa.back Go.Proofs.Ytipcdioolafkpaa.parts Go.Proofs.Ytipcdioolafkpaa.votes Go.Proofs.Ytipcdioolafkpaa.pays Go.Proofs.Ytipcdioolafkpaa.rechelp Go.Proofs.Ytipcdioolafkpaa.recrows Go.Proofs.Ytipcdioolafkpaa.walhelp Go.Proofs.Ytipcdioolafkpaa.recov Go.Proofs.Ytipcdioolafkpaa.readrecord Go.Proofs.Ytipcdioolafkpaa.goesalong Go.Proofs.Ytipcdioolafkpaa.recovers Go.Proofs.Ytipcdioolafkpaa.recoveri Go.Proofs.Ytipcdioolafkpaa.specs Go.Proofs.Ytipcdioolafkpaa.recs Go.Proofs.Ytipcdioolafkpaa.entries Go.Proofs.Ytipcdioolafkpaa.walright Go.Proofs.Ytipcdioolafkpaa.walof Go.Proofs.Ytipcdioolafkpaa.recovers2 Go.Proofs.Ytipcdioolafkpaa.reclaw
set_option linter.unusedVariables false

/-- Payloads are done one behind the other. -/
def recP : List (List Int) → St → Nat → St × Nat
  | [], s, a => (s, a)
  | p :: ps, s, a => match takeS s p with
    | none => (s, a)
    | some s' => recP ps s' (a + (frameN p).length)
theorem recP_none {p : List Int} {ps : List (List Int)} {s : St} {a : Nat} (h : takeS s p = none) : recP (p :: ps) s a = (s, a) := by rw [recP, h]
theorem recP_some {p : List Int} {ps : List (List Int)} {s s' : St} {a : Nat} (h : takeS s p = some s') : recP (p :: ps) s a = recP ps s' (a + (frameN p).length) := by rw [recP, h]
/-- Frames, and behind them what is none. -/
theorem rec_stream (xs tail : List Int) (ht : (frameAt tail).1 ≠ -1) : ∀ (ps : List (List Int)) (f : Nat) (s : St) (a : Nat), (∀ p ∈ ps, p.length ≤ 4096) → xs.drop a = stream ps ++ tail → xs.length - a < f → a ≤ xs.length → recL xs f s a = recP ps s a
  | [], f, s, a, _, hd, hf, ha => by
    obtain ⟨f', rfl⟩ : ∃ f', f = f' + 1 := ⟨f - 1, by omega⟩
    rw [recL_none (by rw [hd]; simpa [stream] using ht), recP]
  | p :: ps, f, s, a, hp, hd, hf, ha => by
    obtain ⟨f', rfl⟩ : ∃ f', f = f' + 1 := ⟨f - 1, by omega⟩
    have hpl := hp p (by simp)
    have hpos := frameN_pos p
    rw [stream_cons, List.append_assoc] at hd
    have hw := frameAt_whole p (stream ps ++ tail) hpl
    have hlen : xs.length - a = (frameN p).length + (stream ps ++ tail).length := by
      have := congrArg List.length hd
      rw [List.length_drop, List.length_append] at this
      exact this
    cases hk : takeS s p with
    | none => rw [recL_stop (by rw [hd, hw]) (by rw [hd, hw]; exact hk), recP_none hk]
    | some s' =>
      rw [recL_some (by rw [hd, hw]) (by rw [hd, hw]; exact hk), recP_some hk, hd, hw]
      refine rec_stream xs tail ht ps f' s' _ (fun q hq => hp q (by simp [hq])) ?_ (by simp only; omega) (by simp only; omega)
      simp only
      rw [← List.drop_drop, hd, List.drop_left]
/-- How far they are done. -/
theorem recP_le : ∀ (ps : List (List Int)) (s : St) (a : Nat), a ≤ (recP ps s a).2 ∧ (recP ps s a).2 ≤ a + (stream ps).length
  | [], s, a => by simp [recP, stream]
  | p :: ps, s, a => by
    cases hk : takeS s p with
    | none => rw [recP_none hk]; simp
    | some s' =>
      rw [recP_some hk, stream_cons, List.length_append]
      have := recP_le ps s' (a + (frameN p).length)
      omega
/-- What was done is done of the beginning alone. -/
theorem recP_cut : ∀ (ps : List (List Int)) (s : St) (a : Nat), ∃ m, m ≤ ps.length ∧ (recP ps s a).2 = a + (stream (ps.take m)).length ∧ recP (ps.take m) s a = recP ps s a
  | [], s, a => ⟨0, by simp, by simp [recP, stream], by simp⟩
  | p :: ps, s, a => by
    cases hk : takeS s p with
    | none => exact ⟨0, by simp, by rw [recP_none hk]; simp [stream], by rw [recP_none hk, List.take_zero, recP]⟩
    | some s' =>
      obtain ⟨m, h1, h2, h3⟩ := recP_cut ps s' (a + (frameN p).length)
      refine ⟨m + 1, by simp; omega, ?_, ?_⟩
      · rw [recP_some hk, h2, List.take_succ_cons, stream_cons, List.length_append]; omega
      · rw [List.take_succ_cons, recP_some hk, recP_some hk, h3]
theorem recA_stream (ps : List (List Int)) (hp : ∀ p ∈ ps, p.length ≤ 4096) (tail : List Int) (ht : (frameAt tail).1 ≠ -1) (hl : (stream ps ++ tail).length ≤ 65536) : recA (stream ps ++ tail) = ((recP ps zSt 0).1, (recP ps zSt 0).2, 0) := by
  unfold recA
  rw [if_neg (by omega), rec_stream (stream ps ++ tail) tail ht ps _ zSt 0 hp (by simp) (by omega) (by omega)]
theorem nil_none : (frameAt []).1 ≠ -1 := by rw [frameAt_nil]; decide

theorem drop_len {A B : List Int} : (A ++ B).drop A.length = B := List.drop_left
theorem num_two (k : Int) (T V : Nat) (hT : T ≤ 1000000) (hV : V ≤ 1000000) (d : List Int) : num1 (k :: (putN T ++ (putN V ++ d))) = ((T : Int), (putN T).length, 0) ∧ num2 (k :: (putN T ++ (putN V ++ d))) = ((V : Int), (putN V).length, 0) ∧ restP (k :: (putN T ++ (putN V ++ d))) = d := by
  have l1 : (putN T).length ≤ 9 := Nat.le_trans (putN_len 2 T (by omega)) (by omega)
  have l2 : (putN V).length ≤ 9 := Nat.le_trans (putN_len 2 V (by omega)) (by omega)
  have h1 : num1 (k :: (putN T ++ (putN V ++ d))) = ((T : Int), (putN T).length, 0) := by
    unfold num1
    rw [List.drop_succ_cons, List.drop_zero, getR_put T 9 0 0 _ l1 (.inl rfl)]
    simp
  have h2 : num2 (k :: (putN T ++ (putN V ++ d))) = ((V : Int), (putN V).length, 0) := by
    unfold num2
    rw [h1, Nat.add_comm 1, List.drop_succ_cons, drop_len, getR_put V 9 0 0 _ l2 (.inl rfl)]
    simp
  refine ⟨h1, h2, ?_⟩
  unfold restP
  rw [h1, h2, show 1 + (putN T).length + (putN V).length = (putN T).length + (putN V).length + 1 by omega, List.drop_succ_cons, ← List.drop_drop, drop_len, drop_len]
theorem term_nat {T : Nat} (h : T ≤ 1000000) : termIn (T : Int) := ⟨by omega, by omega⟩
theorem take_vote (s : St) (T V : Nat) (hT : T ≤ 1000000) (hV : V ≤ 1000000) : takeS s (1 :: (putN T ++ putN V)) = fitV s T V := by
  obtain ⟨h1, h2, h3⟩ := num_two 1 T V hT hV []
  rw [List.append_nil] at h1 h2 h3
  rw [take_else s (by simp) (by rw [h1]) (by rw [h2]) (by rw [h1, h2]; exact ⟨term_nat hT, term_nat hV⟩), h1, h2, h3]
  simp
theorem take_entry (s : St) (T V : Nat) (hT : T ≤ 1000000) (hV : V ≤ 1000000) (hV1 : 1 ≤ V) (d : List Int) (hd : d.length ≤ 1000) : takeS s (2 :: (putN T ++ (putN V ++ d))) = fitE s T V d := by
  obtain ⟨h1, h2, h3⟩ := num_two 2 T V hT hV d
  rw [take_else s (by simp) (by rw [h1]) (by rw [h2]) (by rw [h1, h2]; exact ⟨term_nat hT, term_nat hV⟩), h1, h2, h3]
  simp only [List.getD_cons_zero]
  rw [if_neg (by decide), if_pos trivial, if_neg (by omega)]

/-- The payloads of a state's records. -/
def entP (r : Rec3) : List Int := 2 :: (putN r.t.toNat ++ (putN r.i.toNat ++ r.d))
theorem entsTo_stream (rl : List Rec3) : entsTo rl rl.length = stream (rl.map entP) := by
  unfold entsTo stream
  rw [List.take_length, List.map_map]
  rfl
theorem recP_log : ∀ (rest pre : List Rec3) (s : St) (a : Nat), s.base = 0 → s.log = pre → (∀ j, j < rest.length → recOK (rest.getD j zRec).t (rest.getD j zRec).i (rest.getD j zRec).d.length = true ∧ (rest.getD j zRec).i = ((pre.length + j : Nat) : Int) + 1) → pre.length + rest.length ≤ 100 →
    recP (rest.map entP) s a = ({ s with log := pre ++ rest }, a + (stream (rest.map entP)).length)
  | [], pre, s, a, hb, hl, _, _ => by
    simp only [List.map_nil, recP, List.append_nil, stream, List.flatten_nil, List.length_nil, Nat.add_zero]
    rw [← hl]
  | r :: rest, pre, s, a, hb, hl, hr, hn => by
    obtain ⟨h0, hi⟩ := hr 0 (by simp)
    simp only [List.getD_cons_zero, Nat.add_zero] at h0 hi
    obtain ⟨⟨T, hT, hT1⟩, ⟨I, hI, hI1, hI2⟩, hd⟩ := recOK_yes h0
    have hle : pre.length < 100 := by simp at hn; omega
    have ht : takeS s (entP r) = some { s with log := pre ++ [r] } := by
      unfold entP
      rw [hT, hI, Int.toNat_natCast, Int.toNat_natCast, take_entry s T I hT1 hI1 hI2 r.d hd]
      unfold fitE
      rw [hb, hl, if_neg (by omega), show ((I : Int) - 0 - 1).toNat = pre.length by omega, List.take_length]
      congr 3
      rw [← hT, ← hI]
    rw [List.map_cons, recP_some ht, recP_log rest (pre ++ [r]) { s with log := pre ++ [r] } _ hb rfl (fun j hj => ?_) (by simp at hn ⊢; omega), stream_cons, List.length_append]
    · simp [Nat.add_assoc]
    · have := hr (j + 1) (by simp; omega)
      simp only [List.getD_cons_succ] at this
      refine ⟨this.1, ?_⟩
      rw [this.2]
      simp
      omega
/-- A state whose records are written down is recovered. -/
theorem rec_wal (a : Wal5) (rl : List Rec3) (h : walOK a rl = true) (hl : (walB a rl).length ≤ 65536) : recA (walB a rl) = (⟨a.T, a.V, 0, 0, rl⟩, (walB a rl).length, 0) ∧ walA a rl = walB a rl ∧ walC a rl = 0 := by
  obtain ⟨⟨T, hT, hT1⟩, ⟨V, hV, hV1⟩, hn, hg⟩ := wal_yes h
  have hgo : ∀ j, j < rl.length → recOK (rl.getD j zRec).t (rl.getD j zRec).i (rl.getD j zRec).d.length = true ∧ (rl.getD j zRec).i = ((([] : List Rec3).length + j : Nat) : Int) + 1 := fun j hj => by
    have := goods_at hg hj
    unfold good at this
    simp only [Bool.and_eq_true, decide_eq_true_eq] at this
    exact ⟨this.1, by simpa using this.2⟩
  have hps : ∀ p ∈ ((1 :: (putN a.T.toNat ++ putN a.V.toNat)) :: rl.map entP), p.length ≤ 4096 := by
    intro p hp
    rcases List.mem_cons.1 hp with rfl | hp
    · have := pay_len T V hT1 hV1
      rw [hT, hV]
      simp
      omega
    · obtain ⟨r, hr, rfl⟩ := List.mem_map.1 hp
      obtain ⟨j, hj, rfl⟩ := List.getElem_of_mem hr
      have := (hgo j hj).1
      have e : rl.getD j zRec = rl[j] := by simp [List.getD_eq_getElem?_getD, hj]
      rw [e] at this
      obtain ⟨⟨T', hT', hT1'⟩, ⟨I', hI', hI1', _⟩, hd'⟩ := recOK_yes this
      have hh := pay_len T' I' hT1' hI1'
      unfold entP
      rw [hT', hI']
      simp
      omega
  have hB : walB a rl = stream ((1 :: (putN a.T.toNat ++ putN a.V.toNat)) :: rl.map entP) ++ [] := by
    rw [List.append_nil, stream_cons, ← entsTo_stream]
    rfl
  refine ⟨?_, by unfold walA; rw [if_pos h, if_pos hl], by unfold walC; rw [if_pos h, if_pos hl]⟩
  have hv : takeS zSt (1 :: (putN a.T.toNat ++ putN a.V.toNat)) = some ⟨a.T, a.V, 0, 0, []⟩ := by
    rw [hT, hV, Int.toNat_natCast, Int.toNat_natCast, take_vote zSt T V hT1 hV1]
    unfold fitV
    rw [if_neg (by simp [zSt])]
    rfl
  rw [hB] at hl ⊢
  rw [recA_stream _ hps [] nil_none hl, recP_some hv, recP_log rl [] ⟨a.T, a.V, 0, 0, []⟩ _ rfl rfl hgo (by simpa using hn)]
  rw [List.append_nil, stream_cons, List.length_append]
  simp
end Go.Proofs.Ytipcdioolafkpaa.streams

/- Of records that are cut off the whole ones are recovered: of lists alone. -/
namespace Go.Proofs.Ytipcdioolafkpaa.recthree
open Go.ChangeShapes Go.WideShapes Go.ChangeAt Go.RowKit
open Go.Proofs.Ytipcdioolafkpaa.bytes Go.Proofs.Ytipcdioolafkpaa.pile Go.Proofs.Ytipcdioolafkpaa.put Go.Proofs.Ytipcdioolafkpaa.crcs Go.Proofs.Ytipcdioolafkpaa.join Go.Proofs.Ytipcdioolafkpaa.frames Go.Proofs.Ytipcdioolafkpaa.get Go.Proofs.Ytipcdioolafkpaa.dec Go.Proofs.Ytipcdioolafkpaa.take Go.Proofs.Ytipcdioolafkpaa.one Go.Proofs.Ytipcdioolafkpaa.back Go.Proofs.Ytipcdioolafkpaa.parts Go.Proofs.Ytipcdioolafkpaa.recrows Go.Proofs.Ytipcdioolafkpaa.recov Go.Proofs.Ytipcdioolafkpaa.recovers Go.Proofs.Ytipcdioolafkpaa.recoveri Go.Proofs.Ytipcdioolafkpaa.recs Go.Proofs.Ytipcdioolafkpaa.streams
set_option linter.unusedVariables false

theorem stream_append (a b : List (List Int)) : stream (a ++ b) = stream a ++ stream b := by simp [stream]
theorem stream_parts (ps : List (List Int)) (n : Nat) : stream ps = stream (ps.take n) ++ stream (ps.drop n) := by rw [← stream_append, List.take_append_drop]
theorem stream_snoc {ps : List (List Int)} {k : Nat} (h : k < ps.length) : stream (ps.take (k + 1)) = stream (ps.take k) ++ frameN (ps.getD k []) := by
  have e : ps.getD k [] = ps[k] := by simp [List.getD_eq_getElem?_getD, h]
  rw [List.take_succ_eq_append_getElem h, e, stream_append]
  congr 1
  simp [stream]
theorem frames_len (ps : List (List Int)) (n : Nat) : (stream (ps.take n)).length ≤ (stream ps).length := by
  conv => rhs; rw [stream_parts ps n, List.length_append]
  omega
theorem rec_three (ps : List (List Int)) (hp : ∀ p ∈ ps, p.length ≤ 4096) (n K : Nat) (hn : n ≤ ps.length) (hK : (stream (ps.take n)).length ≤ K) (hKl : K ≤ (stream ps).length) (hc : n < ps.length → K < (stream (ps.take n)).length + (frameN (ps.getD n [])).length) (hl : (stream ps).length ≤ 65536) :
    ∃ R : St × Nat × Int, R.2.2 = 0 ∧ recA ((stream ps).take K) = R ∧ recA (stream (ps.take n)) = R ∧ R.2.1 ≤ (stream (ps.take n)).length ∧ recA ((stream ps).take R.2.1) = R := by
  have hpt : ∀ p ∈ ps.take n, p.length ≤ 4096 := fun p h => hp p (List.mem_of_mem_take h)
  have hwl := frames_len ps n
  refine ⟨((recP (ps.take n) zSt 0).1, (recP (ps.take n) zSt 0).2, 0), rfl, ?_, ?_, ?_, ?_⟩
  · have e : (stream ps).take K = stream (ps.take n) ++ (stream (ps.drop n)).take (K - (stream (ps.take n)).length) := by
      conv => lhs; rw [stream_parts ps n]
      rw [List.take_append, List.take_of_length_le hK]
    have ht : (frameAt ((stream (ps.drop n)).take (K - (stream (ps.take n)).length))).1 ≠ -1 := by
      by_cases h : n < ps.length
      · have hd : ps.drop n = ps[n] :: ps.drop (n + 1) := List.drop_eq_getElem_cons h
        have e1 : ps.getD n [] = ps[n] := by simp [List.getD_eq_getElem?_getD, h]
        have hj := hc h
        rw [e1] at hj
        rw [hd, stream_cons, List.take_append_of_le_length (by omega), frameAt_part _ (hp _ (List.getElem_mem h)) _ (by omega)]
        decide
      · have hd : ps.drop n = [] := List.drop_eq_nil_of_le (by omega)
        rw [hd]
        simp only [stream, List.map_nil, List.flatten_nil, List.take_nil]
        exact nil_none
    rw [e, recA_stream _ hpt _ ht (by rw [← e, List.length_take]; omega)]
  · have := recA_stream (ps.take n) hpt [] nil_none (by rw [List.append_nil]; omega)
    rw [List.append_nil] at this
    exact this
  · have := (recP_le (ps.take n) zSt 0).2
    simp only
    omega
  · obtain ⟨m, hm, h1, h2⟩ := recP_cut (ps.take n) zSt 0
    simp only
    rw [Nat.zero_add] at h1
    have hmn : m ≤ n := by rw [List.length_take] at hm; omega
    have e2 : (ps.take n).take m = ps.take m := by rw [List.take_take, Nat.min_eq_left hmn]
    rw [e2] at h1 h2
    have e : (stream ps).take (recP (ps.take n) zSt 0).2 = stream (ps.take m) := by
      rw [h1]
      conv => lhs; rw [stream_parts ps m]
      exact List.take_left
    rw [e]
    have hml := frames_len ps m
    have := recA_stream (ps.take m) (fun p h => hp p (List.mem_of_mem_take h)) [] nil_none (by rw [List.append_nil]; omega)
    rw [List.append_nil] at this
    rw [this, h2]
end Go.Proofs.Ytipcdioolafkpaa.recthree

/- Contract of the laws' own choice out of n: it is a number from 0 to n - 1; and what a text of bytes is. -/
namespace Go.Proofs.Ytipcdioolafkpaa.choice
open Go.ChangeShapes Go.WideShapes Go.ChangeAt Go.RowKit
open Go.Proofs.Ytipcdioolafkpaa.bytes Go.Proofs.Ytipcdioolafkpaa.pile
set_option linter.unusedVariables false

def strOf (ys : List Int) : ByteArray := ⟨(ys.map fun y => UInt8.ofNat y.toNat).toArray⟩

theorem run_str {w : World} {u : Value} {ys : List Int} (h : RdA w u ys) : (convert 22 9 u).run Try.prog w = .ok (.string (strOf ys)) w := by
  obtain ⟨⟨ao, cap, rfl, h1, h2, h3, h4⟩, hnil⟩ := h
  cases ao with
  | none =>
    have e := hnil _ _ rfl
    simp only [Value.slice.injEq, true_and] at e
    have hys : ys = [] := List.length_eq_zero_iff.1 e.1
    subst hys
    exact Lib.run_convert_nil_bytes w 22 9 5 cap Try.underlying22 Try.underlying5 Try.underlying9
  | some ad =>
    have hl : (ys.map fun y => UInt8.ofNat y.toNat).length = ys.length := by simp
    have := run_convert_bytes_back (P := Try.prog) w 22 9 5 ad cap (ys.map fun y => UInt8.ofNat y.toNat) Try.underlying22 Try.underlying5 Try.underlying9 (fun j hj => by
      rw [hl] at hj
      obtain ⟨b, off, e, hc⟩ := h4 (by omega)
      simp only [Option.some.injEq] at e
      subst e
      rw [add_at, hc j hj]
      have hb := h3 _ (List.getElem_mem hj)
      have hmod : (UInt8.ofNat (ys[j]).toNat).toNat = (ys[j]).toNat := by
        simp
        omega
      simp only [List.getElem_map, hmod, List.getD_eq_getElem?_getD, List.getElem?_eq_getElem hj, Option.getD_some]
      congr 2
      omega)
    rw [hl] at this
    exact this

set_option maxHeartbeats 800000 in
theorem at_any (w : World) (b : Value) (xs : List Int) (i : Nat) (n : Int) (hi : i ≤ 1000) (hn : n ≤ 1000000000) (hb : Rd w b xs) :
    Calls Try.prog 9 #[b, .int .i64 i, .int .i64 n] w fun e w' => ∃ r : Int, e = .returned (.int .i64 r) ∧ 0 ≤ r ∧ (r < n ∨ (n ≤ 1 ∧ r = 0)) ∧ ∃ m, w' = w.drewN m := by
  obtain ⟨ao, ca, rfl, ha1, ha2, hx, ha3⟩ := hb
  unfold maxLen at ha2
  by_cases h1 : n ≤ 1
  · go_enter Try.func9, Try.ntmps9
    go_wp2
    go_ret
    exact ⟨0, rfl, by omega, .inr ⟨h1, rfl⟩, 0, rfl⟩
  · have hn0 : n ≠ 0 := by omega
    by_cases h0 : xs.length = 0
    · have hz : (((xs.length : Nat) : Int) == 0) = true := by simp [h0]
      go_enter Try.func9, Try.ntmps9
      go_wp2
      go_ret
      exact ⟨_, rfl, Int.emod_nonneg _ hn0, .inl (Int.emod_lt_of_pos _ (by omega)), 0, rfl⟩
    · have hz : (((xs.length : Nat) : Int) == 0) = false := beq_eq_false_iff_ne.2 (by omega)
      obtain ⟨ab, aoff, rfl, hca⟩ := ha3 (by omega)
      have hc1 := hca (i % xs.length) (Nat.mod_lt _ (by omega))
      have hc2 := hca ((i + 1) % xs.length) (Nat.mod_lt _ (by omega))
      have hb1 := getD_bd hx (i % xs.length)
      have hb2 := getD_bd hx ((i + 1) % xs.length)
      generalize xs.getD (i % xs.length) 0 = c1 at hc1 hb1
      generalize xs.getD ((i + 1) % xs.length) 0 = c2 at hc2 hb2
      have ht1 : ((i : Nat) : Int).tmod xs.length = ((i % xs.length : Nat) : Int) := rfl
      have ht2 : (((i : Nat) : Int) + 1).tmod xs.length = (((i + 1) % xs.length : Nat) : Int) := rfl
      have hq : ((i : Nat) : Int).tdiv xs.length = ((i / xs.length : Nat) : Int) := rfl
      have hm1 : i % xs.length < xs.length := Nat.mod_lt _ (by omega)
      have hm2 : (i + 1) % xs.length < xs.length := Nat.mod_lt _ (by omega)
      have hq1 : i / xs.length ≤ i := Nat.div_le_self _ _
      generalize i % xs.length = m1 at hc1 ht1 hm1
      generalize (i + 1) % xs.length = m2 at hc2 ht2 hm2
      generalize i / xs.length = q at hq hq1
      clear hca ha3 hx
      go_enter Try.func9, Try.ntmps9
      go_wp2
      go_quiet (fail)
      go_wp2
      go_ret
      exact ⟨_, rfl, Int.emod_nonneg _ hn0, .inl (Int.emod_lt_of_pos _ (by omega)), _, rfl⟩
end Go.Proofs.Ytipcdioolafkpaa.choice

/- Contract of the laws' own comparison of two lists of bytes: lists that read alike are the same. -/
namespace Go.Proofs.Ytipcdioolafkpaa.same
open Go.ChangeShapes Go.WideShapes Go.ChangeAt Go.RowKit
open Go.Proofs.Ytipcdioolafkpaa.bytes Go.Proofs.Ytipcdioolafkpaa.pile Go.Proofs.Ytipcdioolafkpaa.reader Go.Proofs.Ytipcdioolafkpaa.choice
set_option linter.unusedVariables false

theorem row_rdS {w : World} {base : Nat} {a : Value} {us : List Value} (h : w.ownsRow base 22 1 a us.length us) : RdS w a us := by
  have h' := h
  obtain ⟨h1, ⟨rfl, h2⟩ | ⟨g, cap, cur, rfl, hb, hg, hnc, hcm, hcs, htake⟩⟩ := h
  · exact ⟨none, 0, by rw [h2], by omega, by simp [maxLen], fun hp => by omega⟩
  · refine ⟨_, cap, rfl, hnc, hcm, fun hp => ⟨g, 0, rfl, fun i hi => ?_⟩⟩
    have := World.ownsRow.cellAt h' i (by omega)
    rw [Nat.zero_add, this]
    simp [List.getD_eq_getElem?_getD, hi]

set_option maxHeartbeats 800000 in
theorem same_any (w : World) (a b : Value) (us vs : List Value) (xss : List (List Int)) (ha : RdS w a us) (hb : RdS w b vs) (hta : Texts w us xss) (htb : Texts w vs xss) :
    Calls Try.prog 16 #[a, b] w fun e w' => e = .returned (.bool true) ∧ ∃ n, w' = w.drewN n := by
  have HT : Hid (Texts w us xss ∧ Texts w vs xss) := ⟨hta, htb⟩
  have hl1 := hta.1
  have hl2 := htb.1
  have hl : us.length = vs.length := by omega
  clear hta htb hl1 hl2
  obtain ⟨ao, ca, rfl, ha1, ha2, ha3⟩ := ha
  obtain ⟨bo, cb, rfl, hb1, hb2, hb3⟩ := hb
  unfold maxLen at ha2 hb2
  have HL : Hid (us.length = vs.length) := hl
  rw [← hl] at hb1 hb3
  rw [← hl]
  clear hl
  have hne : (((us.length : Nat) : Int) != ((us.length : Nat) : Int)) = false := by simp
  go_enter Try.func16, Try.ntmps16
  go_wp2
  go_loopw [5] (fun i wr => ∃ k m : Nat, k ≤ us.length ∧ i = .int .i64 k ∧ wr = w.drewN m) (fun i _ => us.length - (intOf i).toNat)
  case atStart => exact ⟨0, 0, by omega, rfl, rfl⟩
  case round =>
    obtain ⟨k, m, hk, rfl, rfl⟩ := hrel
    by_cases hlt : k < us.length
    · obtain ⟨ab, aoff, rfl, hca⟩ := ha3 (by omega)
      obtain ⟨bb, boff, rfl, hcb⟩ := hb3 (by omega)
      have hca' := hca k hlt
      have hcb' := hcb k hlt
      have hk1 : ∀ x, (convert 22 9 (us.getD k (.slice none 0 0))).run Try.prog (w.drewN x) = .ok (.string (strOf (xss.getD k []))) (w.drewN x) := fun x => run_str ((HT.out.1.2 k hlt).below (below_same w x) (Nat.le_refl _))
      have hk2 : ∀ x, (convert 22 9 (vs.getD k (.slice none 0 0))).run Try.prog (w.drewN x) = .ok (.string (strOf (xss.getD k []))) (w.drewN x) := fun x => run_str ((HT.out.2.2 k (by rw [← HL.out]; exact hlt)).below (below_same w x) (Nat.le_refl _))
      clear hca hcb ha3 hb3
      generalize strOf (xss.getD k []) = s at hk1 hk2
      generalize us.getD k (.slice none 0 0) = u at hca' hk1
      generalize vs.getD k (.slice none 0 0) = v at hcb' hk2
      go_wp2
      go_quiet (fail)
      go_wp2
      go_roundw
      case rel => exact ⟨k + 1, _, by omega, by go_num, rfl⟩
      case measure => simp [intOf]; omega
    · go_wp2
      go_ret
      exact ⟨rfl, m, rfl⟩
end Go.Proofs.Ytipcdioolafkpaa.same

/- Contract of the laws' own comparison of two states of a log: states that read alike are the same. -/
namespace Go.Proofs.Ytipcdioolafkpaa.samewal
open Go.ChangeShapes Go.WideShapes Go.ChangeAt Go.RowKit
open Go.Proofs.Ytipcdioolafkpaa.bytes Go.Proofs.Ytipcdioolafkpaa.pile Go.Proofs.Ytipcdioolafkpaa.reader Go.Proofs.Ytipcdioolafkpaa.choice Go.Proofs.Ytipcdioolafkpaa.same Go.Proofs.Ytipcdioolafkpaa.recrows Go.Proofs.Ytipcdioolafkpaa.logcells Go.Proofs.Ytipcdioolafkpaa.walhelp
set_option linter.unusedVariables false

theorem same_below (w : World) (n : Nat) : Below w.heap.size w (w.drewN n) := ⟨rfl, rfl, rfl, Nat.le_refl _, fun _ _ => rfl⟩
set_option maxRecDepth 20000 in
set_option maxHeartbeats 2000000 in
theorem sameRecs_any (w : World) (a b : Value) (rl : List Rec3) (us vs : List Value) (ha : RdRecs w a rl us) (hb : RdRecs w b rl vs) :
    Calls Try.prog 55 #[a, b] w fun e w' => e = .returned (.bool true) ∧ ∃ n, w' = w.drewN n := by
  have HT : Hid (RdRecs w a rl us ∧ RdRecs w b rl vs) := ⟨ha, hb⟩
  obtain ⟨ao, ca, rfl, ha1, ha2, ha3⟩ := ha.row
  obtain ⟨bo, cb, rfl, hb1, hb2, hb3⟩ := hb.row
  unfold maxLen at ha2 hb2
  clear ha hb
  have hne : (((rl.length : Nat) : Int) != ((rl.length : Nat) : Int)) = false := by simp
  go_enter Try.func55, Try.ntmps55
  go_wp2
  go_loopw [5] (fun i wr => ∃ k m : Nat, k ≤ rl.length ∧ i = .int .i64 k ∧ wr = w.drewN m) (fun i _ => rl.length - (intOf i).toNat)
  case atStart => exact ⟨0, 0, by omega, rfl, rfl⟩
  case round =>
    obtain ⟨k, m, hk, rfl, rfl⟩ := hrel
    by_cases hlt : k < rl.length
    · obtain ⟨ab, aoff, rfl, hca⟩ := ha3 (by omega)
      obtain ⟨bb, boff, rfl, hcb⟩ := hb3 (by omega)
      obtain ⟨p0, p1, p2⟩ := hca k hlt
      obtain ⟨q0, q1, q2⟩ := hcb k hlt
      have hk1 : ∀ x, (convert 22 9 (us.getD k (.slice none 0 0))).run Try.prog (w.drewN x) = .ok (.string (strOf (rl.getD k zRec).d)) (w.drewN x) := fun x => run_str ((HT.out.1.each k hlt).below (same_below w x) (Nat.le_refl _))
      have hk2 : ∀ x, (convert 22 9 (vs.getD k (.slice none 0 0))).run Try.prog (w.drewN x) = .ok (.string (strOf (rl.getD k zRec).d)) (w.drewN x) := fun x => run_str ((HT.out.2.each k hlt).below (same_below w x) (Nat.le_refl _))
      clear hca hcb ha3 hb3
      generalize strOf (rl.getD k zRec).d = s at hk1 hk2
      generalize (rl.getD k zRec).t = ti at p0 q0
      generalize (rl.getD k zRec).i = ii at p1 q1
      have hti : (ti != ti) = false := by simp
      have hii : (ii != ii) = false := by simp
      generalize us.getD k (.slice none 0 0) = u at p2 hk1
      generalize vs.getD k (.slice none 0 0) = v at q2 hk2
      go_wp2
      go_quiet (fail)
      go_wp2
      go_roundw
      case rel => exact ⟨k + 1, _, by omega, by go_num, rfl⟩
      case measure => simp [intOf]; omega
    · go_wp2
      go_ret
      exact ⟨rfl, m, rfl⟩

set_option maxHeartbeats 2000000 in
theorem sameWal_any (w : World) (a : Wal5) (g1 g2 : Int) (u v : Value) (rl : List Rec3) (us vs : List Value) (hu : RdRecs w u rl us) (hv : RdRecs w v rl vs) :
    Calls Try.prog 30 #[.agg #[.int .i64 a.T, .int .i64 a.V, .int .i64 a.B, .int .i64 a.BT, u, .int .i64 g1], .agg #[.int .i64 a.T, .int .i64 a.V, .int .i64 a.B, .int .i64 a.BT, v, .int .i64 g2]] w fun e w' => e = .returned (.bool true) ∧ Below w.heap.size w w' := by
  obtain ⟨uo, uc, rfl, _⟩ := hu.row
  obtain ⟨vo, vc, rfl, _⟩ := hv.row
  have b1 : ∀ o1 o2, Below w.heap.size w ((w.alloc o1).alloc o2) := fun o1 o2 => ((Below.refl _ _).alloc (Nat.le_refl _) _).alloc (by simp) _
  have HC : Hid (∀ o1 o2, Calls Try.prog 55 #[.slice uo rl.length uc, .slice vo rl.length vc] ((w.alloc o1).alloc o2) fun e w' => e = .returned (.bool true) ∧ Below w.heap.size w w') := fun o1 o2 => by
    refine (sameRecs_any _ _ _ rl us vs (hu.below (b1 o1 o2) (Nat.le_refl _)) (hv.below (b1 o1 o2) (Nat.le_refl _))).mono ?_
    rintro e w' ⟨rfl, n, rfl⟩
    exact ⟨rfl, (b1 o1 o2).trans ((same_below _ n).mono (by simp; omega))⟩
  clear hu hv b1
  go_enter Try.func30, Try.ntmps30
  go_wp2_with fail
  refine (HC.out _ _).mono ?_
  rintro e w1 ⟨rfl, b2⟩
  have HB := hide b2
  clear b2
  go_wp2
  go_ret
  exact ⟨rfl, HB.out⟩
end Go.Proofs.Ytipcdioolafkpaa.samewal

/- Of records that a crash cut off just the whole ones are recovered: the law's own walk. -/
namespace Go.Proofs.Ytipcdioolafkpaa.recslaw
open Go.ChangeShapes Go.WideShapes Go.ChangeAt Go.RowKit
open Go.Proofs.Ytipcdioolafkpaa.bytes Go.Proofs.Ytipcdioolafkpaa.pile Go.Proofs.Ytipcdioolafkpaa.put Go.Proofs.Ytipcdioolafkpaa.crcs Go.Proofs.Ytipcdioolafkpaa.join Go.Proofs.Ytipcdioolafkpaa.frames Go.Proofs.Ytipcdioolafkpaa.get Go.Proofs.Ytipcdioolafkpaa.dec Go.Proofs.Ytipcdioolafkpaa.take Go.Proofs.Ytipcdioolafkpaa.one Go.Proofs.Ytipcdioolafkpaa.choice Go.Proofs.Ytipcdioolafkpaa.same Go.Proofs.Ytipcdioolafkpaa.back Go.Proofs.Ytipcdioolafkpaa.parts Go.Proofs.Ytipcdioolafkpaa.pays Go.Proofs.Ytipcdioolafkpaa.rechelp Go.Proofs.Ytipcdioolafkpaa.recrows Go.Proofs.Ytipcdioolafkpaa.walhelp Go.Proofs.Ytipcdioolafkpaa.recov Go.Proofs.Ytipcdioolafkpaa.recovers Go.Proofs.Ytipcdioolafkpaa.recoveri Go.Proofs.Ytipcdioolafkpaa.recs Go.Proofs.Ytipcdioolafkpaa.logcells Go.Proofs.Ytipcdioolafkpaa.takesp Go.Proofs.Ytipcdioolafkpaa.recovers2 Go.Proofs.Ytipcdioolafkpaa.reclaw Go.Proofs.Ytipcdioolafkpaa.streams Go.Proofs.Ytipcdioolafkpaa.samewal Go.Proofs.Ytipcdioolafkpaa.recthree
set_option linter.unusedVariables false

/-- What RecordsOf answers: frames. -/
def RecsE (w : World) (e : Ending) (w' : World) : Prop := ∃ (o : Option Addr) (n c : Nat) (us : List Value) (ps : List (List Int)), e = .returned (.slice o n c) ∧ RdS w' (.slice o n c) us ∧ Texts w' us (ps.map frameN) ∧ ps.length ≤ 13 ∧ (∀ p ∈ ps, p.length ≤ 40) ∧ Below w.heap.size w w'
theorem put_one {n : Nat} (h : n < 128) : (putN n).length = 1 := by rw [putN_lt h]; simp
theorem frame_short {xs : List Int} (h : xs.length ≤ 40) : (frameN xs).length ≤ 45 := by
  rw [frameN_length, put_one (by omega)]
  omega
theorem stream_short : ∀ (ps : List (List Int)), (∀ p ∈ ps, p.length ≤ 40) → (stream ps).length ≤ 45 * ps.length
  | [], _ => by simp [stream]
  | p :: ps, h => by
    have h1 := frame_short (h p (by simp))
    have h2 := stream_short ps (fun q hq => h q (by simp [hq]))
    rw [stream_cons, List.length_append, List.length_cons]
    omega
theorem pre_rd {w : World} {ao : Option Addr} {cap n : Nat} {xs : List Int} (h : RdA w (.slice ao xs.length cap) xs) (hn : n ≤ xs.length) : RdA w (.slice ao n cap) (xs.take n) := by
  obtain ⟨⟨ao', cap', e, h1, h2, h3, h4⟩, hnil⟩ := h
  simp only [Value.slice.injEq, true_and] at e
  obtain ⟨rfl, rfl⟩ := e
  have hl : (xs.take n).length = n := by simp; omega
  refine ⟨⟨ao, cap, by rw [hl], by omega, h2, fun x hx => h3 x (List.mem_of_mem_take hx), fun hp => ?_⟩, fun n' c e => ?_⟩
  · obtain ⟨b, off, rfl, hc⟩ := h4 (by omega)
    refine ⟨b, off, rfl, fun i hi => ?_⟩
    rw [hc i (by omega)]
    have hi' : i < n := by omega
    simp [List.getD_eq_getElem?_getD, hi']
  · simp only [Value.slice.injEq] at e
    obtain ⟨rfl, rfl, rfl⟩ := e
    have := hnil _ _ rfl
    simp only [Value.slice.injEq, true_and] at this
    obtain ⟨h5, rfl⟩ := this
    obtain rfl : n = 0 := by omega
    rfl
theorem map_getD {ps : List (List Int)} {k : Nat} (h : k < ps.length) : (ps.map frameN).getD k [] = frameN (ps.getD k []) := by simp [List.getD_eq_getElem?_getD, h]
theorem empty_own (w : World) : Own (w.alloc (.cells #[] 5)) w.heap.size (.slice (some ⟨w.heap.size, 0, none⟩) 0 0) [] := ⟨by simp, World.ownsRow_lit _ #[] 0 (Nat.le_refl _) (by simp [maxLen]) (by simp)⟩
/-- A row of frames, read in every later world. -/
structure RL (w : World) (o : Option Addr) (n c : Nat) (us : List Value) (ps : List (List Int)) : Prop where
  row : RdS w (.slice o n c) us
  tx : Texts w us (ps.map frameN)
theorem RL.form {w : World} {o : Option Addr} {n c : Nat} {us : List Value} {ps : List (List Int)} (h : RL w o n c us ps) : n = ps.length ∧ us.length = ps.length ∧ n ≤ c ∧ c ≤ maxLen := by
  obtain ⟨ao, cap, e, h1, h2, _⟩ := h.row
  simp only [Value.slice.injEq] at e
  obtain ⟨rfl, rfl, rfl⟩ := e
  have := h.tx.1
  rw [List.length_map] at this
  exact ⟨this, this, h1, h2⟩
/-- One of its slices. -/
theorem RL.at {w w' : World} {o : Option Addr} {n c : Nat} {us : List Value} {ps : List (List Int)} (h : RL w o n c us ps) (hb : Below w.heap.size w w') {k : Nat} (hk : k < ps.length) : ∃ b off o2 c2, o = some ⟨b, off, none⟩ ∧ w'.cell? ⟨b, off + k, none⟩ = some (.slice o2 (frameN (ps.getD k [])).length c2) ∧ RdA w' (.slice o2 (frameN (ps.getD k [])).length c2) (frameN (ps.getD k [])) := by
  obtain ⟨_, hl, _⟩ := h.form
  obtain ⟨ao, cap, e, h1, h2, h3⟩ := h.row
  simp only [Value.slice.injEq] at e
  obtain ⟨rfl, rfl, rfl⟩ := e
  obtain ⟨b, off, rfl, hc⟩ := h3 (by omega)
  have hck := hc k (by omega)
  have ht := h.tx.2 k (by omega)
  rw [map_getD hk] at ht
  obtain ⟨o2, c2, e2, _⟩ := ht.1
  rw [e2] at hck ht
  exact ⟨b, off, o2, c2, rfl, (hb.cell (cell_lt hck)).trans hck, ht.below hb (Nat.le_refl _)⟩

set_option maxHeartbeats 1000000 in
theorem lawsJoin (w : World) (o : Option Addr) (n c : Nat) (us : List Value) (ps : List (List Int)) (h : RL w o n c us ps) (hs : (stream ps).length ≤ 65536) :
    Calls Try.prog 27 #[.slice o n c] w fun e w' => ∃ v, e = .returned v ∧ Own w' w.heap.size v (stream ps) ∧ Below w.heap.size w w' := by
  obtain ⟨hn, hl, hc1, hc2⟩ := h.form
  unfold maxLen at hc2
  subst hn
  have HRL := hide h
  have Hs : Hid ((stream ps).length ≤ 65536) := hs
  clear h hs
  go_enter Try.func27, Try.ntmps27
  go_wp2
  go_loopw [3, 4] (fun v i wr => ∃ k : Nat, k ≤ ps.length ∧ i = .int .i64 k ∧ Hid (Own wr w.heap.size v (stream (ps.take k)) ∧ Below w.heap.size w wr)) (fun _ i _ => ps.length - (intOf i).toNat)
  case atStart => exact ⟨0, by omega, rfl, hide ⟨by simpa [stream] using empty_own w, (Below.refl _ _).alloc (Nat.le_refl _) _⟩⟩
  case round =>
    obtain ⟨k, hk, rfl, HK⟩ := hrel
    have hszr := HK.out.2.size
    by_cases hlt : k < ps.length
    · obtain ⟨b, off, o2, c2, rfl, hcell, hrd⟩ := HRL.out.at HK.out.2 hlt
      have HT := hide hrd
      have HST : Hid (stream (ps.take (k + 1)) = stream (ps.take k) ++ frameN (ps.getD k [])) := stream_snoc hlt
      have hsl : (stream (ps.take k)).length + (frameN (ps.getD k [])).length ≤ 65536 := by
        have h1 := frames_len ps (k + 1)
        rw [HST.out, List.length_append] at h1
        have := Hs.out
        omega
      clear hrd
      generalize ps.getD k [] = Pk at hcell HT HST hsl
      go_wp2_with (at_builtin; refine wpList_append_rd _ rfl _ _ 22 rfl Try.underlying22 info5 w.heap.size _ _ rfl HK.out.1 _ (frameN Pk) rfl HT.out ?d1 ?d2 ?_)
      case d1 => omega
      case d2 => omega
      intro v' w3 hO3 hg3
      have H3 : Hid (Own w3 w.heap.size v' (stream (ps.take (k + 1))) ∧ Below w.heap.size w w3) := by
        refine hide ⟨by rw [HST.out]; exact hO3, HK.out.2.grown hg3 (by omega) (fun j hj => (HK.out.1.lt j hj).1)⟩
      clear hO3 hg3 HK
      go_wp2
      go_roundw
      case rel => exact ⟨k + 1, by omega, by go_num, H3⟩
      case measure => simp [intOf]; omega
    · obtain rfl : k = ps.length := by omega
      have HF := hide HK.out
      rw [List.take_length] at HF
      go_wp2
      go_ret
      exact ⟨_, rfl, HF.out⟩

set_option maxRecDepth 20000 in
set_option maxHeartbeats 8000000 in
theorem walk0 (w : World) (ao0 : Option Addr) (cap0 : Nat) (xs0 : List Int) (h0 : RdA w (.slice ao0 xs0.length cap0) xs0) (ao1 : Option Addr) (cap1 : Nat) (xs1 : List Int) (h1 : RdA w (.slice ao1 xs1.length cap1) xs1)
    (HRecs : ∀ wx, RdA wx (.slice ao0 xs0.length cap0) xs0 → Calls Try.prog 26 #[.slice ao0 xs0.length cap0] wx (RecsE wx)) :
    Calls Try.prog 7 #[.slice ao0 xs0.length cap0, .slice ao1 xs1.length cap1] w fun e w' => e = .returned (.bool true) ∧ Below w.heap.size w w' := by
  obtain ⟨_, hc01, hc02⟩ := le_cap h0.1
  obtain ⟨_, hc11, hc12⟩ := le_cap h1.1
  unfold maxLen at hc02 hc12
  by_cases hb0 : (1048576 : Int) < xs0.length
  · go_enter Try.func7, Try.ntmps7
    go_wp2
    go_ret
    exact ⟨rfl, Below.refl _ _⟩
  by_cases hb1 : (1048576 : Int) < xs1.length
  · go_enter Try.func7, Try.ntmps7
    go_wp2
    go_ret
    exact ⟨rfl, Below.refl _ _⟩
  have HA0 := hide (HRecs w h0)
  have H1 := hide h1
  clear HRecs h0 h1
  go_enter Try.func7, Try.ntmps7
  go_wp2_with fail
  refine HA0.out.mono ?_
  rintro e w1 ⟨o, n, c, us, ps, rfl, hrow, htx, hpl, hps, B1⟩
  have HRL : Hid (RL w1 o n c us ps) := ⟨hrow, htx⟩
  have hsl := stream_short ps hps
  have Hps : Hid (∀ p ∈ ps, p.length ≤ 4096) := fun p h => Nat.le_trans (hps p h) (by omega)
  have Hl : Hid ((stream ps).length ≤ 65536) := by show _ ≤ _; omega
  have hl6 : (stream ps).length ≤ 65536 := Hl.out
  clear hps hsl hrow htx HA0
  have hs1 := B1.size
  obtain ⟨hn, _, hcc1, hcc2⟩ := HRL.out.form
  unfold maxLen at hcc2
  subst hn
  have HJ := hide (lawsJoin w1 o ps.length c us ps HRL.out Hl.out)
  go_wp2_with fail
  refine HJ.out.mono ?_
  rintro e w2 ⟨vA, rfl, OA, B2⟩
  have hs2 := B2.size
  obtain ⟨oA, cA, eA, hcA1, hcA2, _⟩ := OA.rd
  subst eA
  unfold maxLen at hcA2
  have HAll := hide OA
  have HRL2 : Hid (∀ wx, Below w2.heap.size w2 wx → ∀ k, k < ps.length → ∃ b off o2 c2, o = some ⟨b, off, none⟩ ∧ wx.cell? ⟨b, off + k, none⟩ = some (.slice o2 (frameN (ps.getD k [])).length c2) ∧ RdA wx (.slice o2 (frameN (ps.getD k [])).length c2) (frameN (ps.getD k []))) := fun wx hb k hk => HRL.out.at (B2.trans (hb.mono hs2)) hk
  have HRw : Hid (Below w.heap.size w w2) := B1.trans (B2.mono hs1)
  have HAt := hide (at_any w2 _ xs1 0 ((stream ps).length + 1) (by omega) (by omega) (H1.out.below HRw.out (Nat.le_refl _)).1)
  clear OA HJ B1 B2 HRL
  go_wp2_with fail
  refine HAt.out.mono ?_
  rintro e w3 ⟨r, rfl, r0, r1, m, rfl⟩
  obtain ⟨K, rfl⟩ := Int.eq_ofNat_of_zero_le r0
  have hKl : K ≤ (stream ps).length := by omega
  clear r0 r1 HAt
  go_wp2
  go_loopw [8, 9] (fun i v wr => ∃ k : Nat, k ≤ ps.length ∧ i = .int .i64 k ∧ (stream (ps.take k)).length ≤ K ∧ Hid (Own wr w2.heap.size v (stream (ps.take k)) ∧ Below w2.heap.size w2 wr)) (fun i _ _ => ps.length - (intOf i).toNat)
  case atStart => exact ⟨0, by omega, rfl, by simp [stream], hide ⟨by simpa [stream] using empty_own (w2.drewN m), (below_drewN (Below.refl _ _) m).alloc (by simp) _⟩⟩
  case round =>
    obtain ⟨k, hk, rfl, hKw, HR⟩ := hrel
    have hszr := HR.out.2.size
    have hkc : ((K : Nat) : Int) ≤ cA := by omega
    obtain ⟨oV, cV, eV, hcV1, hcV2, _⟩ := HR.out.1.rd
    subst eV
    unfold maxLen at hcV2
    by_cases hlt : k < ps.length
    · obtain ⟨b, off, o2, c2, rfl, hcell, hrd⟩ := HRL2.out wr HR.out.2 k hlt
      have HT := hide hrd
      have HST : Hid (stream (ps.take (k + 1)) = stream (ps.take k) ++ frameN (ps.getD k [])) := stream_snoc hlt
      have hfl : (stream (ps.take k)).length + (frameN (ps.getD k [])).length ≤ 65536 := by
        have h1 := frames_len ps (k + 1)
        rw [HST.out, List.length_append] at h1
        omega
      clear hrd
      by_cases hfit : (stream (ps.take k)).length + (frameN (ps.getD k [])).length ≤ K
      · generalize ps.getD k [] = Pk at hcell HT HST hfl hfit
        have hfi : ((stream (ps.take k)).length : Int) + ((frameN Pk).length : Int) ≤ (K : Int) := by omega
        go_wp2_with (at_builtin; refine wpList_append_rd _ rfl _ _ 22 rfl Try.underlying22 info5 w2.heap.size _ _ rfl HR.out.1 _ (frameN Pk) rfl HT.out ?d1 ?d2 ?_)
        case d1 => omega
        case d2 => omega
        intro v' w4 hO4 hg4
        have H4 : Hid (Own w4 w2.heap.size v' (stream (ps.take (k + 1))) ∧ Below w2.heap.size w2 w4) := by
          refine hide ⟨by rw [HST.out]; exact hO4, HR.out.2.grown hg4 (by omega) (fun j hj => (HR.out.1.lt j hj).1)⟩
        have hnew : (stream (ps.take (k + 1))).length ≤ K := by rw [HST.out, List.length_append]; omega
        clear hO4 hg4 HR
        go_wp2
        go_roundw
        case rel => exact ⟨k + 1, by omega, by go_num, hnew, H4⟩
        case measure => simp [intOf]; omega
      · have HNo : Hid (k < ps.length → K < (stream (ps.take k)).length + (frameN (ps.getD k [])).length) := fun _ => by omega
        have hfi : ¬ ((stream (ps.take k)).length : Int) + ((frameN (ps.getD k [])).length : Int) ≤ (K : Int) := by omega
        have hfd : decide (((stream (ps.take k)).length : Int) + ((frameN (ps.getD k [])).length : Int) ≤ (K : Int)) = false := by simp only [decide_eq_false_iff_not]; exact hfi
        clear HT HST hfit
        obtain ⟨Pk, hPk⟩ : ∃ Pk, Pk = ps.getD k [] := ⟨_, rfl⟩
        rw [← hPk] at hcell hfi hfd hfl
        clear hPk
        obtain ⟨R, hR0, hR1, hR2, hR3, hR4⟩ := rec_three ps Hps.out k K hk hKw (by omega) HNo.out Hl.out
        have HA := hide (pre_rd (n := K) (Own.rdA ((HAll.out.below HR.out.2 (Nat.le_refl _)))) (by omega))
        have hlK : ((stream ps).take K).length = K := by rw [List.length_take]; omega
        have HI1 := recover_any wr oA cA ((stream ps).take K) (by rw [hlK]; exact HA.out)
        rw [hR1, hlK] at HI1
        have HI1h := hide HI1
        have HW := hide HR.out.1
        have hR3' : R.2.1 ≤ (stream (ps.take k)).length := hR3
        have hz : R.2.2 = 0 := hR0
        have HR2 : Hid (recA (stream (ps.take k)) = R ∧ recA ((stream ps).take R.2.1) = R ∧ recA ((stream ps).take K) = R) := ⟨hR2, hR4, hR1⟩
        clear hR0 hR1 hR2 hR3 hR4 HI1
        go_wp2_with fail
        refine HI1h.out.mono ?_
        rintro e x1 ⟨lv1, us1, rfl, O1, b1⟩
        have t1 := b1.size
        obtain ⟨oA2, cA2, hlv1, _⟩ := O1.row
        subst hlv1
        clear HI1h
        obtain ⟨x2, hx2⟩ : ∃ x2, x2 = x1.alloc (.cells #[.int .i64 R.1.term, .int .i64 R.1.vote, .int .i64 R.1.base, .int .i64 R.1.bterm, .slice oA2 R.1.log.length cA2, .int .i64 (R.2.1 : Nat)] 52) := ⟨_, rfl⟩
        have b12 : Below x1.heap.size x1 x2 := by rw [hx2]; exact (Below.refl _ _).alloc (Nat.le_refl _) _
        have k2 : x2.heap[x1.heap.size]? = some (.cells #[.int .i64 R.1.term, .int .i64 R.1.vote, .int .i64 R.1.base, .int .i64 R.1.bterm, .slice oA2 R.1.log.length cA2, .int .i64 (R.2.1 : Nat)] 52 (0, 0)) := by rw [hx2]; exact heap_alloc_new x1 _
        have t2 : x2.heap.size = x1.heap.size + 1 := by rw [hx2]; simp
        have bw2 : Below wr.heap.size wr x2 := b1.trans (b12.mono t1)
        have HI2 := recover_any x2 oV cV (stream (ps.take k)) (Own.rdA (HW.out.below bw2 (Nat.le_refl _)))
        rw [HR2.out.1, hx2] at HI2
        go_wp2_with fail
        refine HI2.mono ?_
        rw [← hx2]
        rintro e x3 ⟨lv3, us3, rfl, O3, b3⟩
        have t3 := b3.size
        obtain ⟨oB, cB, hlv3, _⟩ := O3.row
        subst hlv3
        clear HI2 hx2
        obtain ⟨x4, hx4⟩ : ∃ x4, x4 = x3.alloc (.cells #[.int .i64 R.1.term, .int .i64 R.1.vote, .int .i64 R.1.base, .int .i64 R.1.bterm, .slice oB R.1.log.length cB, .int .i64 (R.2.1 : Nat)] 52) := ⟨_, rfl⟩
        have b34 : Below x3.heap.size x3 x4 := by rw [hx4]; exact (Below.refl _ _).alloc (Nat.le_refl _) _
        have k4 : x4.heap[x3.heap.size]? = some (.cells #[.int .i64 R.1.term, .int .i64 R.1.vote, .int .i64 R.1.base, .int .i64 R.1.bterm, .slice oB R.1.log.length cB, .int .i64 (R.2.1 : Nat)] 52 (0, 0)) := by rw [hx4]; exact heap_alloc_new x3 _
        have t4 : x4.heap.size = x3.heap.size + 1 := by rw [hx4]; simp
        have b24 : Below x2.heap.size x2 x4 := b3.trans (b34.mono t3)
        have bw4 : Below wr.heap.size wr x4 := bw2.trans (b24.mono bw2.size)
        have HI3 := specRecover x4 oA cA ((stream ps).take K) (by rw [hlK]; exact HA.out.below bw4 (Nat.le_refl _))
        rw [HR2.out.2.2, hlK, hx4] at HI3
        go_wp2_with fail
        refine HI3.mono ?_
        rw [← hx4]
        rintro e x5 ⟨oW, nW, cW, us5, rfl, L5, b5⟩
        have t5 := b5.size
        clear HI3 hx4
        obtain ⟨x6, hx6⟩ : ∃ x6, x6 = x5.alloc (.cells #[.int .i64 R.1.term, .int .i64 R.1.vote, .int .i64 R.1.base, .int .i64 R.1.bterm, .slice oW nW cW, .int .i64 (R.2.1 : Nat)] 52) := ⟨_, rfl⟩
        have b56 : Below x5.heap.size x5 x6 := by rw [hx6]; exact (Below.refl _ _).alloc (Nat.le_refl _) _
        have k6 : x6.heap[x5.heap.size]? = some (.cells #[.int .i64 R.1.term, .int .i64 R.1.vote, .int .i64 R.1.base, .int .i64 R.1.bterm, .slice oW nW cW, .int .i64 (R.2.1 : Nat)] 52 (0, 0)) := by rw [hx6]; exact heap_alloc_new x5 _
        have t6 : x6.heap.size = x5.heap.size + 1 := by rw [hx6]; simp
        have b46 : Below x4.heap.size x4 x6 := b5.trans (b56.mono t5)
        have b26 : Below x2.heap.size x2 x6 := b24.trans (b46.mono (by omega))
        have bw6 : Below wr.heap.size wr x6 := bw2.trans (b26.mono bw2.size)
        have k26 : x6.heap[x1.heap.size]? = some (.cells #[.int .i64 R.1.term, .int .i64 R.1.vote, .int .i64 R.1.base, .int .i64 R.1.bterm, .slice oA2 R.1.log.length cA2, .int .i64 (R.2.1 : Nat)] 52 (0, 0)) := (b26.block _ (by omega)).trans k2
        have k46 : x6.heap[x3.heap.size]? = some (.cells #[.int .i64 R.1.term, .int .i64 R.1.vote, .int .i64 R.1.base, .int .i64 R.1.bterm, .slice oB R.1.log.length cB, .int .i64 (R.2.1 : Nat)] 52 (0, 0)) := (b46.block _ (by omega)).trans k4
        have HC : Hid (∀ wx, Below x6.heap.size x6 wx → (wx.cell? ⟨x1.heap.size, 0, none⟩ = some (.int .i64 R.1.term) ∧ wx.cell? ⟨x1.heap.size, 1, none⟩ = some (.int .i64 R.1.vote) ∧ wx.cell? ⟨x1.heap.size, 2, none⟩ = some (.int .i64 R.1.base) ∧ wx.cell? ⟨x1.heap.size, 3, none⟩ = some (.int .i64 R.1.bterm) ∧ wx.cell? ⟨x1.heap.size, 4, none⟩ = some (.slice oA2 R.1.log.length cA2) ∧ wx.cell? ⟨x1.heap.size, 5, none⟩ = some (.int .i64 (R.2.1 : Nat))) ∧ (wx.cell? ⟨x3.heap.size, 0, none⟩ = some (.int .i64 R.1.term) ∧ wx.cell? ⟨x3.heap.size, 1, none⟩ = some (.int .i64 R.1.vote) ∧ wx.cell? ⟨x3.heap.size, 2, none⟩ = some (.int .i64 R.1.base) ∧ wx.cell? ⟨x3.heap.size, 3, none⟩ = some (.int .i64 R.1.bterm) ∧ wx.cell? ⟨x3.heap.size, 4, none⟩ = some (.slice oB R.1.log.length cB) ∧ wx.cell? ⟨x3.heap.size, 5, none⟩ = some (.int .i64 (R.2.1 : Nat))) ∧ (wx.cell? ⟨x5.heap.size, 0, none⟩ = some (.int .i64 R.1.term) ∧ wx.cell? ⟨x5.heap.size, 1, none⟩ = some (.int .i64 R.1.vote) ∧ wx.cell? ⟨x5.heap.size, 2, none⟩ = some (.int .i64 R.1.base) ∧ wx.cell? ⟨x5.heap.size, 3, none⟩ = some (.int .i64 R.1.bterm) ∧ wx.cell? ⟨x5.heap.size, 4, none⟩ = some (.slice oW nW cW) ∧ wx.cell? ⟨x5.heap.size, 5, none⟩ = some (.int .i64 (R.2.1 : Nat)))) := fun wx hb => by
          have q := (hb.block _ (by omega)).trans k26
          have c1 : wx.cell? ⟨x1.heap.size, 0, none⟩ = some (.int .i64 R.1.term) ∧ wx.cell? ⟨x1.heap.size, 1, none⟩ = some (.int .i64 R.1.vote) ∧ wx.cell? ⟨x1.heap.size, 2, none⟩ = some (.int .i64 R.1.base) ∧ wx.cell? ⟨x1.heap.size, 3, none⟩ = some (.int .i64 R.1.bterm) ∧ wx.cell? ⟨x1.heap.size, 4, none⟩ = some (.slice oA2 R.1.log.length cA2) ∧ wx.cell? ⟨x1.heap.size, 5, none⟩ = some (.int .i64 (R.2.1 : Nat)) := ⟨cell_of q rfl, cell_of q rfl, cell_of q rfl, cell_of q rfl, cell_of q rfl, cell_of q rfl⟩
          have q := (hb.block _ (by omega)).trans k46
          have c2 : wx.cell? ⟨x3.heap.size, 0, none⟩ = some (.int .i64 R.1.term) ∧ wx.cell? ⟨x3.heap.size, 1, none⟩ = some (.int .i64 R.1.vote) ∧ wx.cell? ⟨x3.heap.size, 2, none⟩ = some (.int .i64 R.1.base) ∧ wx.cell? ⟨x3.heap.size, 3, none⟩ = some (.int .i64 R.1.bterm) ∧ wx.cell? ⟨x3.heap.size, 4, none⟩ = some (.slice oB R.1.log.length cB) ∧ wx.cell? ⟨x3.heap.size, 5, none⟩ = some (.int .i64 (R.2.1 : Nat)) := ⟨cell_of q rfl, cell_of q rfl, cell_of q rfl, cell_of q rfl, cell_of q rfl, cell_of q rfl⟩
          have q := (hb.block _ (by omega)).trans k6
          exact ⟨c1, c2, ⟨cell_of q rfl, cell_of q rfl, cell_of q rfl, cell_of q rfl, cell_of q rfl, cell_of q rfl⟩⟩
        have HLs : Hid (∀ wx, Below x6.heap.size x6 wx → OwnRecs wx wr.heap.size (.slice oA2 R.1.log.length cA2) R.1.log us1 ∧ OwnRecs wx x2.heap.size (.slice oB R.1.log.length cB) R.1.log us3 ∧ LogR wx (.slice oW nW cW) R.1.log us5) := fun wx hb => ⟨O1.below (b12.trans ((b26.trans (hb.mono (by omega))).mono (by omega))) (Nat.le_refl _), O3.below (b34.trans ((b46.trans (hb.mono (by omega))).mono (by omega))) (Nat.le_refl _), L5.below (b56.trans (hb.mono (by omega))) (Nat.le_refl _)⟩
        obtain ⟨⟨p0, p1, p2, p3, p4, p5⟩, ⟨q0, q1, q2, q3, q4, q5⟩, r0, r1, r2, r3, r4, r5⟩ := HC.out x6 (Below.refl _ _)
        have E1 := sameWal_any x6 ⟨R.1.term, R.1.vote, R.1.base, R.1.bterm, 0⟩ (R.2.1 : Nat) (R.2.1 : Nat) _ _ R.1.log us1 us5 (HLs.out x6 (Below.refl _ _)).1.rd (HLs.out x6 (Below.refl _ _)).2.2.rd
        rw [hx6] at E1 p0 p1 p2 p3 p4 p5 q0 q1 q2 q3 q4 q5 r0 r1 r2 r3 r4 r5
        have hgg : (((R.2.1 : Nat) : Int) != ((R.2.1 : Nat) : Int)) = false := by simp
        have hgl : ¬ (((stream (ps.take k)).length : Nat) : Int) < ((R.2.1 : Nat) : Int) := by omega
        rw [hz]
        go_wp2_with fail
        refine E1.mono ?_
        rw [← hx6]
        rintro e x7 ⟨rfl, b7⟩
        have t7 := b7.size
        clear E1 hx6 p0 p1 p2 p3 p4 p5 q0 q1 q2 q3 q4 q5 r0 r1 r2 r3 r4 r5
        obtain ⟨⟨p0, p1, p2, p3, p4, p5⟩, ⟨q0, q1, q2, q3, q4, q5⟩, r0, r1, r2, r3, r4, r5⟩ := HC.out x7 b7
        have E2 := sameWal_any x7 ⟨R.1.term, R.1.vote, R.1.base, R.1.bterm, 0⟩ (R.2.1 : Nat) (R.2.1 : Nat) _ _ R.1.log us1 us3 (HLs.out x7 b7).1.rd (HLs.out x7 b7).2.1.rd
        go_wp2_with fail
        refine E2.mono ?_
        rintro e x8 ⟨rfl, b8⟩
        have t8 := b8.size
        have b68 : Below x6.heap.size x6 x8 := b7.trans (b8.mono t7)
        clear E2 p0 p1 p2 p3 p4 p5 q0 q1 q2 q3 q4 q5 r0 r1 r2 r3 r4 r5
        obtain ⟨⟨p0, p1, p2, p3, p4, p5⟩, ⟨q0, q1, q2, q3, q4, q5⟩, r0, r1, r2, r3, r4, r5⟩ := HC.out x8 b68
        have bw8 : Below wr.heap.size wr x8 := bw6.trans (b68.mono bw6.size)
        have hgN : R.2.1 ≤ (stream ps).length := by have := frames_len ps k; omega
        have HG := hide (pre_rd (n := R.2.1) (Own.rdA (HAll.out.below (HR.out.2.trans (bw8.mono HR.out.2.size)) (Nat.le_refl _))) hgN)
        have hlG : ((stream ps).take R.2.1).length = R.2.1 := by rw [List.length_take]; omega
        have HI4 := recover_any x8 oA cA ((stream ps).take R.2.1) (by rw [hlG]; exact HG.out)
        rw [HR2.out.2.1, hlG] at HI4
        have HI4h := hide HI4
        have hgc : ((R.2.1 : Nat) : Int) ≤ cA := by omega
        clear HI4
        go_wp2_with fail
        refine HI4h.out.mono ?_
        rintro e x9 ⟨lv9, us9, rfl, O9, b9⟩
        have t9 := b9.size
        obtain ⟨oE, cE, hlv9, _⟩ := O9.row
        subst hlv9
        clear HI4h p0 p1 p2 p3 p4 p5 q0 q1 q2 q3 q4 q5 r0 r1 r2 r3 r4 r5
        obtain ⟨x10, hx10⟩ : ∃ x10, x10 = x9.alloc (.cells #[.int .i64 R.1.term, .int .i64 R.1.vote, .int .i64 R.1.base, .int .i64 R.1.bterm, .slice oE R.1.log.length cE, .int .i64 (R.2.1 : Nat)] 52) := ⟨_, rfl⟩
        have b910 : Below x9.heap.size x9 x10 := by rw [hx10]; exact (Below.refl _ _).alloc (Nat.le_refl _) _
        have k10 : x10.heap[x9.heap.size]? = some (.cells #[.int .i64 R.1.term, .int .i64 R.1.vote, .int .i64 R.1.base, .int .i64 R.1.bterm, .slice oE R.1.log.length cE, .int .i64 (R.2.1 : Nat)] 52 (0, 0)) := by rw [hx10]; exact heap_alloc_new x9 _
        have t10 : x10.heap.size = x9.heap.size + 1 := by rw [hx10]; simp
        have b610 : Below x6.heap.size x6 x10 := b68.trans ((b9.trans (b910.mono t9)).mono b68.size)
        have HC2 : Hid (∀ wx, Below x10.heap.size x10 wx → (wx.cell? ⟨x9.heap.size, 0, none⟩ = some (.int .i64 R.1.term) ∧ wx.cell? ⟨x9.heap.size, 1, none⟩ = some (.int .i64 R.1.vote) ∧ wx.cell? ⟨x9.heap.size, 2, none⟩ = some (.int .i64 R.1.base) ∧ wx.cell? ⟨x9.heap.size, 3, none⟩ = some (.int .i64 R.1.bterm) ∧ wx.cell? ⟨x9.heap.size, 4, none⟩ = some (.slice oE R.1.log.length cE) ∧ wx.cell? ⟨x9.heap.size, 5, none⟩ = some (.int .i64 (R.2.1 : Nat))) ∧ (wx.cell? ⟨x1.heap.size, 0, none⟩ = some (.int .i64 R.1.term) ∧ wx.cell? ⟨x1.heap.size, 1, none⟩ = some (.int .i64 R.1.vote) ∧ wx.cell? ⟨x1.heap.size, 2, none⟩ = some (.int .i64 R.1.base) ∧ wx.cell? ⟨x1.heap.size, 3, none⟩ = some (.int .i64 R.1.bterm) ∧ wx.cell? ⟨x1.heap.size, 4, none⟩ = some (.slice oA2 R.1.log.length cA2) ∧ wx.cell? ⟨x1.heap.size, 5, none⟩ = some (.int .i64 (R.2.1 : Nat)))) := fun wx hb => by
          have q := (hb.block _ (by omega)).trans k10
          exact ⟨⟨cell_of q rfl, cell_of q rfl, cell_of q rfl, cell_of q rfl, cell_of q rfl, cell_of q rfl⟩, (HC.out wx (b610.trans (hb.mono b610.size))).1⟩
        obtain ⟨⟨p0, p1, p2, p3, p4, p5⟩, q0, q1, q2, q3, q4, q5⟩ := HC2.out x10 (Below.refl _ _)
        have E3 := sameWal_any x10 ⟨R.1.term, R.1.vote, R.1.base, R.1.bterm, 0⟩ (R.2.1 : Nat) (R.2.1 : Nat) _ _ R.1.log us9 us1 (O9.below b910 (Nat.le_refl _)).rd (HLs.out x10 b610).1.rd
        rw [hx10] at E3 p0 p1 p2 p3 p4 p5 q0 q1 q2 q3 q4 q5
        rw [hz]
        go_wp2_with fail
        refine E3.mono ?_
        rw [← hx10]
        rintro e x11 ⟨rfl, b11⟩
        have BF := hide (HRw.out.trans ((HR.out.2.trans ((bw6.trans ((b610.trans (b11.mono b610.size)).mono bw6.size)).mono HR.out.2.size)).mono HRw.out.size))
        clear E3 hx10 p0 p1 p2 p3 p4 p5 q0 q1 q2 q3 q4 q5
        obtain ⟨⟨p0, p1, p2, p3, p4, p5⟩, q0, q1, q2, q3, q4, q5⟩ := HC2.out x11 b11
        go_wp2
        go_ret
        exact ⟨rfl, BF.out⟩
    · have HNo : Hid (k < ps.length → K < (stream (ps.take k)).length + (frameN (ps.getD k [])).length) := fun h => absurd h hlt
      obtain ⟨R, hR0, hR1, hR2, hR3, hR4⟩ := rec_three ps Hps.out k K hk hKw (by omega) HNo.out Hl.out
      have HA := hide (pre_rd (n := K) (Own.rdA ((HAll.out.below HR.out.2 (Nat.le_refl _)))) (by omega))
      have hlK : ((stream ps).take K).length = K := by rw [List.length_take]; omega
      have HI1 := recover_any wr oA cA ((stream ps).take K) (by rw [hlK]; exact HA.out)
      rw [hR1, hlK] at HI1
      have HI1h := hide HI1
      have HW := hide HR.out.1
      have hR3' : R.2.1 ≤ (stream (ps.take k)).length := hR3
      have hz : R.2.2 = 0 := hR0
      have HR2 : Hid (recA (stream (ps.take k)) = R ∧ recA ((stream ps).take R.2.1) = R ∧ recA ((stream ps).take K) = R) := ⟨hR2, hR4, hR1⟩
      clear hR0 hR1 hR2 hR3 hR4 HI1
      go_wp2_with fail
      refine HI1h.out.mono ?_
      rintro e x1 ⟨lv1, us1, rfl, O1, b1⟩
      have t1 := b1.size
      obtain ⟨oA2, cA2, hlv1, _⟩ := O1.row
      subst hlv1
      clear HI1h
      obtain ⟨x2, hx2⟩ : ∃ x2, x2 = x1.alloc (.cells #[.int .i64 R.1.term, .int .i64 R.1.vote, .int .i64 R.1.base, .int .i64 R.1.bterm, .slice oA2 R.1.log.length cA2, .int .i64 (R.2.1 : Nat)] 52) := ⟨_, rfl⟩
      have b12 : Below x1.heap.size x1 x2 := by rw [hx2]; exact (Below.refl _ _).alloc (Nat.le_refl _) _
      have k2 : x2.heap[x1.heap.size]? = some (.cells #[.int .i64 R.1.term, .int .i64 R.1.vote, .int .i64 R.1.base, .int .i64 R.1.bterm, .slice oA2 R.1.log.length cA2, .int .i64 (R.2.1 : Nat)] 52 (0, 0)) := by rw [hx2]; exact heap_alloc_new x1 _
      have t2 : x2.heap.size = x1.heap.size + 1 := by rw [hx2]; simp
      have bw2 : Below wr.heap.size wr x2 := b1.trans (b12.mono t1)
      have HI2 := recover_any x2 oV cV (stream (ps.take k)) (Own.rdA (HW.out.below bw2 (Nat.le_refl _)))
      rw [HR2.out.1, hx2] at HI2
      go_wp2_with fail
      refine HI2.mono ?_
      rw [← hx2]
      rintro e x3 ⟨lv3, us3, rfl, O3, b3⟩
      have t3 := b3.size
      obtain ⟨oB, cB, hlv3, _⟩ := O3.row
      subst hlv3
      clear HI2 hx2
      obtain ⟨x4, hx4⟩ : ∃ x4, x4 = x3.alloc (.cells #[.int .i64 R.1.term, .int .i64 R.1.vote, .int .i64 R.1.base, .int .i64 R.1.bterm, .slice oB R.1.log.length cB, .int .i64 (R.2.1 : Nat)] 52) := ⟨_, rfl⟩
      have b34 : Below x3.heap.size x3 x4 := by rw [hx4]; exact (Below.refl _ _).alloc (Nat.le_refl _) _
      have k4 : x4.heap[x3.heap.size]? = some (.cells #[.int .i64 R.1.term, .int .i64 R.1.vote, .int .i64 R.1.base, .int .i64 R.1.bterm, .slice oB R.1.log.length cB, .int .i64 (R.2.1 : Nat)] 52 (0, 0)) := by rw [hx4]; exact heap_alloc_new x3 _
      have t4 : x4.heap.size = x3.heap.size + 1 := by rw [hx4]; simp
      have b24 : Below x2.heap.size x2 x4 := b3.trans (b34.mono t3)
      have bw4 : Below wr.heap.size wr x4 := bw2.trans (b24.mono bw2.size)
      have HI3 := specRecover x4 oA cA ((stream ps).take K) (by rw [hlK]; exact HA.out.below bw4 (Nat.le_refl _))
      rw [HR2.out.2.2, hlK, hx4] at HI3
      go_wp2_with fail
      refine HI3.mono ?_
      rw [← hx4]
      rintro e x5 ⟨oW, nW, cW, us5, rfl, L5, b5⟩
      have t5 := b5.size
      clear HI3 hx4
      obtain ⟨x6, hx6⟩ : ∃ x6, x6 = x5.alloc (.cells #[.int .i64 R.1.term, .int .i64 R.1.vote, .int .i64 R.1.base, .int .i64 R.1.bterm, .slice oW nW cW, .int .i64 (R.2.1 : Nat)] 52) := ⟨_, rfl⟩
      have b56 : Below x5.heap.size x5 x6 := by rw [hx6]; exact (Below.refl _ _).alloc (Nat.le_refl _) _
      have k6 : x6.heap[x5.heap.size]? = some (.cells #[.int .i64 R.1.term, .int .i64 R.1.vote, .int .i64 R.1.base, .int .i64 R.1.bterm, .slice oW nW cW, .int .i64 (R.2.1 : Nat)] 52 (0, 0)) := by rw [hx6]; exact heap_alloc_new x5 _
      have t6 : x6.heap.size = x5.heap.size + 1 := by rw [hx6]; simp
      have b46 : Below x4.heap.size x4 x6 := b5.trans (b56.mono t5)
      have b26 : Below x2.heap.size x2 x6 := b24.trans (b46.mono (by omega))
      have bw6 : Below wr.heap.size wr x6 := bw2.trans (b26.mono bw2.size)
      have k26 : x6.heap[x1.heap.size]? = some (.cells #[.int .i64 R.1.term, .int .i64 R.1.vote, .int .i64 R.1.base, .int .i64 R.1.bterm, .slice oA2 R.1.log.length cA2, .int .i64 (R.2.1 : Nat)] 52 (0, 0)) := (b26.block _ (by omega)).trans k2
      have k46 : x6.heap[x3.heap.size]? = some (.cells #[.int .i64 R.1.term, .int .i64 R.1.vote, .int .i64 R.1.base, .int .i64 R.1.bterm, .slice oB R.1.log.length cB, .int .i64 (R.2.1 : Nat)] 52 (0, 0)) := (b46.block _ (by omega)).trans k4
      have HC : Hid (∀ wx, Below x6.heap.size x6 wx → (wx.cell? ⟨x1.heap.size, 0, none⟩ = some (.int .i64 R.1.term) ∧ wx.cell? ⟨x1.heap.size, 1, none⟩ = some (.int .i64 R.1.vote) ∧ wx.cell? ⟨x1.heap.size, 2, none⟩ = some (.int .i64 R.1.base) ∧ wx.cell? ⟨x1.heap.size, 3, none⟩ = some (.int .i64 R.1.bterm) ∧ wx.cell? ⟨x1.heap.size, 4, none⟩ = some (.slice oA2 R.1.log.length cA2) ∧ wx.cell? ⟨x1.heap.size, 5, none⟩ = some (.int .i64 (R.2.1 : Nat))) ∧ (wx.cell? ⟨x3.heap.size, 0, none⟩ = some (.int .i64 R.1.term) ∧ wx.cell? ⟨x3.heap.size, 1, none⟩ = some (.int .i64 R.1.vote) ∧ wx.cell? ⟨x3.heap.size, 2, none⟩ = some (.int .i64 R.1.base) ∧ wx.cell? ⟨x3.heap.size, 3, none⟩ = some (.int .i64 R.1.bterm) ∧ wx.cell? ⟨x3.heap.size, 4, none⟩ = some (.slice oB R.1.log.length cB) ∧ wx.cell? ⟨x3.heap.size, 5, none⟩ = some (.int .i64 (R.2.1 : Nat))) ∧ (wx.cell? ⟨x5.heap.size, 0, none⟩ = some (.int .i64 R.1.term) ∧ wx.cell? ⟨x5.heap.size, 1, none⟩ = some (.int .i64 R.1.vote) ∧ wx.cell? ⟨x5.heap.size, 2, none⟩ = some (.int .i64 R.1.base) ∧ wx.cell? ⟨x5.heap.size, 3, none⟩ = some (.int .i64 R.1.bterm) ∧ wx.cell? ⟨x5.heap.size, 4, none⟩ = some (.slice oW nW cW) ∧ wx.cell? ⟨x5.heap.size, 5, none⟩ = some (.int .i64 (R.2.1 : Nat)))) := fun wx hb => by
        have q := (hb.block _ (by omega)).trans k26
        have c1 : wx.cell? ⟨x1.heap.size, 0, none⟩ = some (.int .i64 R.1.term) ∧ wx.cell? ⟨x1.heap.size, 1, none⟩ = some (.int .i64 R.1.vote) ∧ wx.cell? ⟨x1.heap.size, 2, none⟩ = some (.int .i64 R.1.base) ∧ wx.cell? ⟨x1.heap.size, 3, none⟩ = some (.int .i64 R.1.bterm) ∧ wx.cell? ⟨x1.heap.size, 4, none⟩ = some (.slice oA2 R.1.log.length cA2) ∧ wx.cell? ⟨x1.heap.size, 5, none⟩ = some (.int .i64 (R.2.1 : Nat)) := ⟨cell_of q rfl, cell_of q rfl, cell_of q rfl, cell_of q rfl, cell_of q rfl, cell_of q rfl⟩
        have q := (hb.block _ (by omega)).trans k46
        have c2 : wx.cell? ⟨x3.heap.size, 0, none⟩ = some (.int .i64 R.1.term) ∧ wx.cell? ⟨x3.heap.size, 1, none⟩ = some (.int .i64 R.1.vote) ∧ wx.cell? ⟨x3.heap.size, 2, none⟩ = some (.int .i64 R.1.base) ∧ wx.cell? ⟨x3.heap.size, 3, none⟩ = some (.int .i64 R.1.bterm) ∧ wx.cell? ⟨x3.heap.size, 4, none⟩ = some (.slice oB R.1.log.length cB) ∧ wx.cell? ⟨x3.heap.size, 5, none⟩ = some (.int .i64 (R.2.1 : Nat)) := ⟨cell_of q rfl, cell_of q rfl, cell_of q rfl, cell_of q rfl, cell_of q rfl, cell_of q rfl⟩
        have q := (hb.block _ (by omega)).trans k6
        exact ⟨c1, c2, ⟨cell_of q rfl, cell_of q rfl, cell_of q rfl, cell_of q rfl, cell_of q rfl, cell_of q rfl⟩⟩
      have HLs : Hid (∀ wx, Below x6.heap.size x6 wx → OwnRecs wx wr.heap.size (.slice oA2 R.1.log.length cA2) R.1.log us1 ∧ OwnRecs wx x2.heap.size (.slice oB R.1.log.length cB) R.1.log us3 ∧ LogR wx (.slice oW nW cW) R.1.log us5) := fun wx hb => ⟨O1.below (b12.trans ((b26.trans (hb.mono (by omega))).mono (by omega))) (Nat.le_refl _), O3.below (b34.trans ((b46.trans (hb.mono (by omega))).mono (by omega))) (Nat.le_refl _), L5.below (b56.trans (hb.mono (by omega))) (Nat.le_refl _)⟩
      obtain ⟨⟨p0, p1, p2, p3, p4, p5⟩, ⟨q0, q1, q2, q3, q4, q5⟩, r0, r1, r2, r3, r4, r5⟩ := HC.out x6 (Below.refl _ _)
      have E1 := sameWal_any x6 ⟨R.1.term, R.1.vote, R.1.base, R.1.bterm, 0⟩ (R.2.1 : Nat) (R.2.1 : Nat) _ _ R.1.log us1 us5 (HLs.out x6 (Below.refl _ _)).1.rd (HLs.out x6 (Below.refl _ _)).2.2.rd
      rw [hx6] at E1 p0 p1 p2 p3 p4 p5 q0 q1 q2 q3 q4 q5 r0 r1 r2 r3 r4 r5
      have hgg : (((R.2.1 : Nat) : Int) != ((R.2.1 : Nat) : Int)) = false := by simp
      have hgl : ¬ (((stream (ps.take k)).length : Nat) : Int) < ((R.2.1 : Nat) : Int) := by omega
      rw [hz]
      go_wp2_with fail
      refine E1.mono ?_
      rw [← hx6]
      rintro e x7 ⟨rfl, b7⟩
      have t7 := b7.size
      clear E1 hx6 p0 p1 p2 p3 p4 p5 q0 q1 q2 q3 q4 q5 r0 r1 r2 r3 r4 r5
      obtain ⟨⟨p0, p1, p2, p3, p4, p5⟩, ⟨q0, q1, q2, q3, q4, q5⟩, r0, r1, r2, r3, r4, r5⟩ := HC.out x7 b7
      have E2 := sameWal_any x7 ⟨R.1.term, R.1.vote, R.1.base, R.1.bterm, 0⟩ (R.2.1 : Nat) (R.2.1 : Nat) _ _ R.1.log us1 us3 (HLs.out x7 b7).1.rd (HLs.out x7 b7).2.1.rd
      go_wp2_with fail
      refine E2.mono ?_
      rintro e x8 ⟨rfl, b8⟩
      have t8 := b8.size
      have b68 : Below x6.heap.size x6 x8 := b7.trans (b8.mono t7)
      clear E2 p0 p1 p2 p3 p4 p5 q0 q1 q2 q3 q4 q5 r0 r1 r2 r3 r4 r5
      obtain ⟨⟨p0, p1, p2, p3, p4, p5⟩, ⟨q0, q1, q2, q3, q4, q5⟩, r0, r1, r2, r3, r4, r5⟩ := HC.out x8 b68
      have bw8 : Below wr.heap.size wr x8 := bw6.trans (b68.mono bw6.size)
      have hgN : R.2.1 ≤ (stream ps).length := by have := frames_len ps k; omega
      have HG := hide (pre_rd (n := R.2.1) (Own.rdA (HAll.out.below (HR.out.2.trans (bw8.mono HR.out.2.size)) (Nat.le_refl _))) hgN)
      have hlG : ((stream ps).take R.2.1).length = R.2.1 := by rw [List.length_take]; omega
      have HI4 := recover_any x8 oA cA ((stream ps).take R.2.1) (by rw [hlG]; exact HG.out)
      rw [HR2.out.2.1, hlG] at HI4
      have HI4h := hide HI4
      have hgc : ((R.2.1 : Nat) : Int) ≤ cA := by omega
      clear HI4
      go_wp2_with fail
      refine HI4h.out.mono ?_
      rintro e x9 ⟨lv9, us9, rfl, O9, b9⟩
      have t9 := b9.size
      obtain ⟨oE, cE, hlv9, _⟩ := O9.row
      subst hlv9
      clear HI4h p0 p1 p2 p3 p4 p5 q0 q1 q2 q3 q4 q5 r0 r1 r2 r3 r4 r5
      obtain ⟨x10, hx10⟩ : ∃ x10, x10 = x9.alloc (.cells #[.int .i64 R.1.term, .int .i64 R.1.vote, .int .i64 R.1.base, .int .i64 R.1.bterm, .slice oE R.1.log.length cE, .int .i64 (R.2.1 : Nat)] 52) := ⟨_, rfl⟩
      have b910 : Below x9.heap.size x9 x10 := by rw [hx10]; exact (Below.refl _ _).alloc (Nat.le_refl _) _
      have k10 : x10.heap[x9.heap.size]? = some (.cells #[.int .i64 R.1.term, .int .i64 R.1.vote, .int .i64 R.1.base, .int .i64 R.1.bterm, .slice oE R.1.log.length cE, .int .i64 (R.2.1 : Nat)] 52 (0, 0)) := by rw [hx10]; exact heap_alloc_new x9 _
      have t10 : x10.heap.size = x9.heap.size + 1 := by rw [hx10]; simp
      have b610 : Below x6.heap.size x6 x10 := b68.trans ((b9.trans (b910.mono t9)).mono b68.size)
      have HC2 : Hid (∀ wx, Below x10.heap.size x10 wx → (wx.cell? ⟨x9.heap.size, 0, none⟩ = some (.int .i64 R.1.term) ∧ wx.cell? ⟨x9.heap.size, 1, none⟩ = some (.int .i64 R.1.vote) ∧ wx.cell? ⟨x9.heap.size, 2, none⟩ = some (.int .i64 R.1.base) ∧ wx.cell? ⟨x9.heap.size, 3, none⟩ = some (.int .i64 R.1.bterm) ∧ wx.cell? ⟨x9.heap.size, 4, none⟩ = some (.slice oE R.1.log.length cE) ∧ wx.cell? ⟨x9.heap.size, 5, none⟩ = some (.int .i64 (R.2.1 : Nat))) ∧ (wx.cell? ⟨x1.heap.size, 0, none⟩ = some (.int .i64 R.1.term) ∧ wx.cell? ⟨x1.heap.size, 1, none⟩ = some (.int .i64 R.1.vote) ∧ wx.cell? ⟨x1.heap.size, 2, none⟩ = some (.int .i64 R.1.base) ∧ wx.cell? ⟨x1.heap.size, 3, none⟩ = some (.int .i64 R.1.bterm) ∧ wx.cell? ⟨x1.heap.size, 4, none⟩ = some (.slice oA2 R.1.log.length cA2) ∧ wx.cell? ⟨x1.heap.size, 5, none⟩ = some (.int .i64 (R.2.1 : Nat)))) := fun wx hb => by
        have q := (hb.block _ (by omega)).trans k10
        exact ⟨⟨cell_of q rfl, cell_of q rfl, cell_of q rfl, cell_of q rfl, cell_of q rfl, cell_of q rfl⟩, (HC.out wx (b610.trans (hb.mono b610.size))).1⟩
      obtain ⟨⟨p0, p1, p2, p3, p4, p5⟩, q0, q1, q2, q3, q4, q5⟩ := HC2.out x10 (Below.refl _ _)
      have E3 := sameWal_any x10 ⟨R.1.term, R.1.vote, R.1.base, R.1.bterm, 0⟩ (R.2.1 : Nat) (R.2.1 : Nat) _ _ R.1.log us9 us1 (O9.below b910 (Nat.le_refl _)).rd (HLs.out x10 b610).1.rd
      rw [hx10] at E3 p0 p1 p2 p3 p4 p5 q0 q1 q2 q3 q4 q5
      rw [hz]
      go_wp2_with fail
      refine E3.mono ?_
      rw [← hx10]
      rintro e x11 ⟨rfl, b11⟩
      have BF := hide (HRw.out.trans ((HR.out.2.trans ((bw6.trans ((b610.trans (b11.mono b610.size)).mono bw6.size)).mono HR.out.2.size)).mono HRw.out.size))
      clear E3 hx10 p0 p1 p2 p3 p4 p5 q0 q1 q2 q3 q4 q5
      obtain ⟨⟨p0, p1, p2, p3, p4, p5⟩, q0, q1, q2, q3, q4, q5⟩ := HC2.out x11 b11
      go_wp2
      go_ret
      exact ⟨rfl, BF.out⟩
end Go.Proofs.Ytipcdioolafkpaa.recslaw

/- Drawn records of a log: what RecordsOf answers. -/
namespace Go.Proofs.Ytipcdioolafkpaa.recsof
open Go.ChangeShapes Go.WideShapes Go.ChangeAt Go.RowKit
open Go.Proofs.Ytipcdioolafkpaa.bytes Go.Proofs.Ytipcdioolafkpaa.put Go.Proofs.Ytipcdioolafkpaa.pile Go.Proofs.Ytipcdioolafkpaa.join Go.Proofs.Ytipcdioolafkpaa.frames Go.Proofs.Ytipcdioolafkpaa.reader Go.Proofs.Ytipcdioolafkpaa.one Go.Proofs.Ytipcdioolafkpaa.many Go.Proofs.Ytipcdioolafkpaa.draws Go.Proofs.Ytipcdioolafkpaa.payloads Go.Proofs.Ytipcdioolafkpaa.bytefn
open Go.Proofs.Ytipcdioolafkpaa.drawsfn Go.Proofs.Ytipcdioolafkpaa.drawsex Go.Proofs.Ytipcdioolafkpaa.recsdef Go.Proofs.Ytipcdioolafkpaa.recsdraw Go.Proofs.Ytipcdioolafkpaa.recslaw
set_option linter.unusedVariables false

theorem row_rdS2 {w : World} {base : Nat} {a : Value} {us : List Value} (h : w.ownsRow base 22 1 a us.length us) : RdS w a us := by
  have h' := h
  obtain ⟨h1, ⟨rfl, h2⟩ | ⟨g, cap, cur, rfl, hb, hg, hnc, hcm, hcs, htake⟩⟩ := h
  · exact ⟨none, 0, by rw [h2], by omega, by simp [maxLen], fun hp => by omega⟩
  · refine ⟨_, cap, rfl, hnc, hcm, fun hp => ⟨g, 0, rfl, fun i hi => ?_⟩⟩
    have := World.ownsRow.cellAt h' i (by omega)
    rw [Nat.zero_add, this]
    simp [List.getD_eq_getElem?_getD, hi]

set_option maxRecDepth 20000 in
set_option maxHeartbeats 4000000 in
theorem recs_any (w : World) (ao : Option Addr) (cap : Nat) (xs : List Int) (h : RdA w (.slice ao xs.length cap) xs) :
    Calls Try.prog 26 #[.slice ao xs.length cap] w (RecsE w) := by
  have HS := hide (source_any w ao cap xs h)
  clear h
  go_enter Try.func26, Try.ntmps26
  go_wp2_with fail
  refine HS.out.mono ?_
  rintro e w1 ⟨rfl, hd1, B1, sd1, S1⟩
  have HW := hide (records_any w1 _ ao cap xs sd1 S1)
  clear HS S1
  go_wp2_with fail
  refine HW.out.mono ?_
  rintro e w2 ⟨o, n, c, vs, ps, rfl, hrow, heach, hlen, h13, h40, G2⟩
  have HF := hide (And.intro hrow (And.intro heach (B1.grown G2 (by omega) (fun k hk => by simp only [Option.some.injEq] at hk; omega))))
  clear HW hrow heach G2 B1
  go_wp2
  go_ret
  exact ⟨o, n, c, vs, ps, rfl, row_rdS2 HF.out.1, ⟨by rw [List.length_map]; exact hlen, fun i hi => Own.rdA (HF.out.2.1 i hi)⟩, h13, h40, HF.out.2.2⟩
end Go.Proofs.Ytipcdioolafkpaa.recsof

namespace Go.Proofs.Ytipcdioolafkpaa.fnRecovers
open Go.ChangeShapes Go.WideShapes Go.ChangeAt Go.RowKit
open Go.ChangeMaps (open_string shut_string)
open Go.Proofs.Ytipcdioolafkpaa.bytes Go.Proofs.Ytipcdioolafkpaa.pile Go.Proofs.Ytipcdioolafkpaa.recslaw Go.Proofs.Ytipcdioolafkpaa.recsof
set_option linter.unusedVariables false

theorem own : ownKnob Try.prog.godebug = none := by kernel_rfl
theorem laidOut : laidOutB Try.prog = true := by kernel_rfl

/-- WHAT THE WALK IS TOLD OF A SLICE OF INTEGERS THAT CAME IN: it is nil; or it leads to a row of 'cap' cells, the numbers 'zs' (the first 'len' are its elements, the rest its spare room), each fitting its kind. -/
def IsRow (k : IntKind) (w : World) (a : Option Addr) (len cap : Nat) (zs : List Int) : Prop :=
  (a = none ∧ len = 0 ∧ cap = 0 ∧ zs = []) ∨
  ∃ x, a = some x ∧ len ≤ cap ∧ cap ≤ maxLen ∧ zs.length = cap ∧ (∀ i, i < zs.length → w.cell? (x.add i) = some (.int k (zs.getD i 0))) ∧ ∀ n ∈ zs, (Lit.int k n).wf = true

theorem rd_of_row {w : World} {a : Option Addr} {len cap : Nat} {zs : List Int} (h : IsRow .u8 w a len cap zs) : ∃ xs : List Int, Rd w (.slice a len cap) xs ∧ xs.length = len := by
  rcases h with ⟨rfl, rfl, rfl, rfl⟩ | ⟨x, rfl, hl, hm, hz, hcell, hwz⟩
  · exact ⟨[], ⟨none, 0, rfl, by simp, by simp [maxLen], by simp, by simp⟩, rfl⟩
  · have hlen : (zs.take len).length = len := by simp; omega
    refine ⟨zs.take len, ⟨some x, cap, by rw [hlen], by omega, hm, ?_, fun hp => ?_⟩, hlen⟩
    · intro y hy
      have := hwz y (List.mem_of_mem_take hy)
      simpa [Lit.wf, IntKind.min, IntKind.max, IntKind.signed, IntKind.bits] using this
    · obtain ⟨b, off, spot⟩ := x
      have hc := hcell 0 (by omega)
      have hspot : spot = none := by simpa [Addr.add] using World.cell?_spot hc
      subst hspot
      refine ⟨b, off, rfl, fun i hi => ?_⟩
      have := hcell i (by omega)
      have hadd : (⟨b, off, none⟩ : Addr).add i = ⟨b, off + i, none⟩ := by
        unfold Addr.add
        split
        · rename_i h; subst h; rfl
        · rfl
      rw [hadd] at this
      rw [this]
      have hi' : i < len := by omega
      simp [List.getD_eq_getElem?_getD, hi']

theorem le_max_of {w : World} {v : Value} {xs : List Int} (h : Rd w v xs) : xs.length ≤ maxLen := by
  obtain ⟨ao, cap, _, h1, h2, _⟩ := h
  omega

theorem rdA_of_row {w : World} {a : Option Addr} {len cap : Nat} {zs : List Int} (h : IsRow .u8 w a len cap zs) : ∃ xs : List Int, RdA w (.slice a len cap) xs ∧ xs.length = len := by
  obtain ⟨xs, hr, hl⟩ := rd_of_row h
  refine ⟨xs, ⟨hr, fun n c e => ?_⟩, hl⟩
  simp only [Value.slice.injEq] at e
  obtain ⟨rfl, rfl, rfl⟩ := e
  rcases h with ⟨_, rfl, rfl, _⟩ | ⟨x, hx, _⟩
  · rfl
  · simp at hx

set_option maxHeartbeats 1000000 in
theorem walk (a0 : Option Addr) (len0 cap0 : Nat) (z0 : List Int) (a1 : Option Addr) (len1 cap1 : Nat) (z1 : List Int) (w : World) (w0 : IsRow .u8 w a0 len0 cap0 z0) (w1 : IsRow .u8 w a1 len1 cap1 z1) :
    Calls Try.prog 7 #[.slice a0 len0 cap0, .slice a1 len1 cap1] w fun e w' => e = .returned (.bool true) ∧ Below w.heap.size w w' := by
  obtain ⟨xs, HR, hlen⟩ : ∃ xs : List Int, RdA w (.slice a0 len0 cap0) xs ∧ xs.length = len0 := rdA_of_row w0
  obtain ⟨ms, HM, hlen2⟩ : ∃ ms : List Int, RdA w (.slice a1 len1 cap1) ms ∧ ms.length = len1 := rdA_of_row w1
  clear w0 w1
  subst hlen
  subst hlen2
  exact walk0 w a0 cap0 xs HR a1 cap1 ms HM (fun wx h => recs_any wx a0 cap0 xs h)

set_option maxRecDepth 100000 in
theorem lifted (os : Os) (started : os.Started) (H : Type) (enc : TypeId × Value → H) :
    ReturnsInHanded {} Try.checked os 7 .any (Rows.fnRecoversSpec.pre6 enc Try.prog Try.f7 Rows.fnRecoversRow.domain false) (Rows.fnRecoversSpec.post enc Try.prog Try.f7 false true false false) := by
  refine returnsInHanded_of_change (C := Try.checked) own started (by kernel_rfl) Try.func7
    (ChangeSpec.witness6 (enc := enc) (C := Try.checked) false ⟨#[], #[.slice none 0 0, .slice none 0 0], []⟩ 8 (by kernel_rfl) (by kernel_rfl) (by kernel_rfl) (by kernel_rfl)) ?_
  intro W base args ds gs before hval0 hW hcnd _
  have hval : ∀ (j : Nat) t v, Try.f7.params[j]? = some t → args[j]? = some v → Value.okWide Try.prog W .any base t v := hval0
  have hW' := hW
  obtain ⟨p, q, hA0, hV, rfl, hfz, hnd⟩ := hW
  have hA : DataW.TrodAll enc Try.prog W 0 (fun _ => true) true Try.f7.params.toList args.toList ds p := hA0
  rw [Try.params7] at hA hval
  obtain ⟨v0, vs0, d0, ds0, p0, q0, hargs, rfl, rfl, h0, r0⟩ := trodAll_cons hA
  obtain ⟨v1, vs1, d1, ds1, p1, q1, rfl, rfl, rfl, h1, r1⟩ := trodAll_cons r0
  obtain ⟨rfl, rfl, rfl⟩ := trodAll_nil r1
  obtain rfl : args = #[v0, v1] := by cases args; simp_all
  obtain ⟨rfl, rfl⟩ := trodVars_none hV
  obtain ⟨a0, len0, cap0, rfl⟩ := okWide_slice Try.underlying22 (hval 0 22 v0 rfl rfl)
  have k0 := h0
  have lt0 : ∀ x ∈ p0, x.block < W.heap.size := by obtain ⟨m, hm⟩ := k0; exact DataW.trod_lt m _ _ _ hm
  obtain ⟨z0, w0⟩ : ∃ zs, IsRow .u8 W a0 len0 cap0 zs := by
    obtain ⟨fuel, hf⟩ := h0
    rcases open_ints Try.underlying22 Try.underlying5 (by kernel_rfl) hf with ⟨hcs, _⟩ | ⟨x, l, c, zs, hcs, _, hl, hm, hz, _, hcell, hwz⟩
    · simp [Value.cells] at hcs
      obtain ⟨rfl, rfl, rfl⟩ := hcs
      exact ⟨[], .inl ⟨rfl, rfl, rfl, rfl⟩⟩
    · simp [Value.cells] at hcs
      obtain ⟨rfl, rfl, rfl⟩ := hcs
      exact ⟨zs, .inr ⟨_, rfl, hl, hm, by simpa using hz, hcell, hwz⟩⟩
  obtain ⟨a1, len1, cap1, rfl⟩ := okWide_slice Try.underlying22 (hval 1 22 v1 rfl rfl)
  have k1 := h1
  have lt1 : ∀ x ∈ p1, x.block < W.heap.size := by obtain ⟨m, hm⟩ := k1; exact DataW.trod_lt m _ _ _ hm
  obtain ⟨z1, w1⟩ : ∃ zs, IsRow .u8 W a1 len1 cap1 zs := by
    obtain ⟨fuel, hf⟩ := h1
    rcases open_ints Try.underlying22 Try.underlying5 (by kernel_rfl) hf with ⟨hcs, _⟩ | ⟨x, l, c, zs, hcs, _, hl, hm, hz, _, hcell, hwz⟩
    · simp [Value.cells] at hcs
      obtain ⟨rfl, rfl, rfl⟩ := hcs
      exact ⟨[], .inl ⟨rfl, rfl, rfl, rfl⟩⟩
    · simp [Value.cells] at hcs
      obtain ⟨rfl, rfl, rfl⟩ := hcs
      exact ⟨zs, .inr ⟨_, rfl, hl, hm, by simpa using hz, hcell, hwz⟩⟩
  clear hA0 hval0
  refine (walk a0 len0 cap0 z0 a1 len1 cap1 z1 W w0 w1).mono fun e W' ⟨he, bel⟩ => ?_
  subst he
  exact ⟨_, rfl, _, _, _, [], _, [], hW', trodAll_mk1 (shut_bool Try.underlying4 _), (trodAll_cons_mk (Below.trod laidOut (by kernel_rfl) (of_decide_eq_true (by kernel_rfl)) k0 bel lt0) (trodAll_cons_mk (Below.trod laidOut (by kernel_rfl) (of_decide_eq_true (by kernel_rfl)) k1 bel lt1) trodAll_mk0)), rfl, bel.frame _, fun h => by cases h⟩

theorem over : Rows.fnRecoversRow.holds Try.pinned (OpenSpec.ofChange Rows.fnRecoversSpec) :=
  OpenClaim.holds_of_wide 7 Try.f7 rfl rfl rfl rfl rfl rfl rfl ⟨rfl, rfl, rfl, rfl, rfl⟩ rfl rfl rfl rfl rfl (by kernel_rfl) Try.func7 (by kernel_rfl)
    (of_decide_eq_true (by kernel_rfl)) (by unfold Func.isWrapper; first | (rw [if_pos (by decide +kernel)]; kernel_rfl) | (rw [if_neg (by decide +kernel)]; exact ⟨rfl, rfl⟩))
    (fun os started H enc _ => lifted os started H enc)

/-- ████ THE STATEMENT ████ -/
theorem proved : Rows.FnRecoversSaid := over
#print axioms proved
end Go.Proofs.Ytipcdioolafkpaa.fnRecovers

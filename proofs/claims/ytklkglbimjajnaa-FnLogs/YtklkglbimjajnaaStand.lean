/- A peer stands for election. -/
import Derived.Test.YtklkglbimjajnaaGrant
import Derived.OwnWalk
namespace Go.Proofs.Ytklkglbimjajnaa.stand
open Go.ChangeShapes Go.WideShapes Go.ChangeAt Go.RowKit
open Go.Proofs.Ytklkglbimjajnaa.Raft Go.Proofs.Ytklkglbimjajnaa.mem Go.Proofs.Ytklkglbimjajnaa.grp Go.Proofs.Ytklkglbimjajnaa.look Go.Proofs.Ytklkglbimjajnaa.ndw Go.Proofs.Ytklkglbimjajnaa.grant
set_option linter.unusedVariables false

theorem info4 : (Try.prog.info? 4).map (fun i => (i.zero, i.size, i.bytes)) = some (some (.bool false), 1, 1) := by kernel_rfl
theorem info3 : (Try.prog.info? 3).map (fun i => (i.zero, i.size, i.bytes)) = some (some (.int .i64 0), 1, 8) := by kernel_rfl
theorem own_set {w : World} {base e : Nat} {g n cap : Nat} {xs : List Value} (h : w.ownsRow base e 1 (.slice (some ⟨g, 0, none⟩) n cap) n xs) (i : Nat) (v : Value) : (w.setCell ⟨g, i, none⟩ v).ownsRow base e 1 (.slice (some ⟨g, 0, none⟩) n cap) n (xs.set i v) := (World.ownsRow.stored h i v).1

theorem made_false (n : Nat) : (madeCells (Value.bool false).cells (n * 1)).toList = List.replicate n (.bool false) := by
  rw [Nat.mul_one]
  exact (toList_madeCells_one (.bool false) n).trans (by simp)
theorem made_zero (n : Nat) : (madeCells (Value.int .i64 0).cells (n * 1)).toList = List.replicate n (.int .i64 0) := by
  rw [Nat.mul_one]
  exact (toList_madeCells_one (.int .i64 0) n).trans (by simp)

def standP (p : Peer) (k n : Nat) : Peer := { p with term := p.term + 1, vote := k + 1, role := 1, votes := (List.replicate n false).set k true }

theorem stand_end {w w1 : World} {M : Fz} {O : Lb} {b k n : Nat} {p : Peer} {us : List RV} {lv vv nv mv : Value} (st : Sta M O w) (hn : Nd w M O b k p us lv vv nv mv) (hk : k < n) (W0 : World) (hW0 : W0 = sets w b [(0, .int .i64 ((p.term : Int) + 1)), (1, .int .i64 ((k : Int) + 1)), (6, .int .i64 1)])
    (hO : w1.ownsRow W0.heap.size 4 1 (.slice (some ⟨W0.heap.size, 0, none⟩) n n) n (List.replicate n (.bool false))) (hG : W0.grownBy w1 none) :
    NDid M O w b k (standP p k n) ((w1.setCell ⟨b, 7, none⟩ (.slice (some ⟨W0.heap.size, 0, none⟩) n n)).setCell ⟨W0.heap.size, k, none⟩ (.bool true)) := by
  have a0 : Aft (· = 3 + k) M O w M O W0 := by rw [hW0]; exact sets_aft (S := (· = 3 + k)) hn.own rfl _ (Aft.refl _ st)
  have a1 : Aft (· = 3 + k) M O w M O w1 := a0.grown hG (fun _ h => by cases h)
  have hsz : w.heap.size ≤ W0.heap.size := a0.size
  have hg1 := row_lt hO (g := W0.heap.size) rfl
  have hbl := (st.ok b _ hn.own).2
  have a2 := a1.label (b := W0.heap.size) (l := 3 + k) hsz hg1.2 (st.inn.fresh hsz) rfl
  have hbO : lab O W0.heap.size (3 + k) b = some (3 + k) := by rw [lab_ne O _ (by omega)]; exact hn.own
  have a3 := (a2.set hbO rfl 7 (.slice (some ⟨W0.heap.size, 0, none⟩) n n)).set (lab_at O W0.heap.size (3 + k)) rfl k (.bool true)
  refine ⟨M, _, a3, us, lv, .slice (some ⟨W0.heap.size, 0, none⟩) n n, nv, mv, ?_⟩
  have hbb : w1.heap[b]? = some (.cells #[.int .i64 ((p.term : Int) + 1), .int .i64 ((k : Int) + 1), lv, .int .i64 k, .bool p.up, .int .i64 p.commit, .int .i64 1, vv, nv, mv] 110 (0, 0)) := by
    rw [hG.block b (by omega) (by simp), hW0]
    exact sets_at _ hn.blk
  obtain ⟨n1, n2, n3, n4⟩ := hn.ne
  have hbk : ∀ x, x < w.heap.size → x ≠ b → ((w1.setCell ⟨b, 7, none⟩ (.slice (some ⟨W0.heap.size, 0, none⟩) n n)).setCell ⟨W0.heap.size, k, none⟩ (.bool true)).heap[x]? = w.heap[x]? := fun x hx hxb => by
    rw [Below.heap_setCell _ _ _ x (by show x ≠ W0.heap.size; omega), Below.heap_setCell _ _ _ x hxb, hG.block x (by omega) (by simp), hW0]
    exact sets_ne _ w hxb
  have hrow : ∀ {e sz : Nat} {v : Value} {m : Nat} {xs : List Value}, w.ownsRow 0 e sz v m xs → v.ownBlock ≠ some b → ((w1.setCell ⟨b, 7, none⟩ (.slice (some ⟨W0.heap.size, 0, none⟩) n n)).setCell ⟨W0.heap.size, k, none⟩ (.bool true)).ownsRow 0 e sz v m xs := fun h hne => row_kept h fun g hg => hbk g (row_lt h hg).2 (fun e => hne (e ▸ hg))
  refine ⟨?_, hbO, hrow hn.log n1, hn.recs, hn.data, ?_, hrow hn.next n3, hrow hn.mat n4, ?_, hn.apart⟩
  · have h7 := set_at hbb 7 (.slice (some ⟨W0.heap.size, 0, none⟩) n n) rfl
    have h8 : (((w1.setCell ⟨b, 7, none⟩ (.slice (some ⟨W0.heap.size, 0, none⟩) n n)).setCell ⟨W0.heap.size, k, none⟩ (.bool true)).heap[b]?) = ((w1.setCell ⟨b, 7, none⟩ (.slice (some ⟨W0.heap.size, 0, none⟩) n n)).heap[b]?) := Below.heap_setCell _ _ _ b (by show b ≠ W0.heap.size; omega)
    rw [h8, h7]
    simp [standP]
  · have h1 : (w1.setCell ⟨b, 7, none⟩ (.slice (some ⟨W0.heap.size, 0, none⟩) n n)).ownsRow W0.heap.size 4 1 (.slice (some ⟨W0.heap.size, 0, none⟩) n n) n (List.replicate n (.bool false)) := row_kept hO fun g hg => by
      simp only [Value.ownBlock, Option.some.injEq] at hg
      exact Below.heap_setCell _ _ _ g (by show g ≠ b; omega)
    have h2 := own_set h1 k (.bool true)
    obtain ⟨q1, q2⟩ := h2
    have e1 : (standP p k n).votes.length = n := by simp [standP]
    have e2 : (standP p k n).votes.map Value.bool = (List.replicate n (.bool false)).set k (.bool true) := by simp [standP, List.map_set]
    rw [e1, e2]
    refine ⟨q1, ?_⟩
    rcases q2 with q2 | ⟨g, cap, cur, r1, r2, r3⟩
    · exact .inl q2
    · exact .inr ⟨g, cap, cur, r1, Nat.zero_le _, r3⟩
  · intro v hv g hg
    simp only [List.mem_cons, List.not_mem_nil, or_false] at hv
    rcases hv with rfl | rfl | rfl | rfl
    · rw [lab_ne O _ (by have := (row_lt hn.log hg).2; omega)]; exact hn.lab _ (by simp) g hg
    · simp only [Value.ownBlock, Option.some.injEq] at hg
      subst hg; exact lab_at _ _ _
    · rw [lab_ne O _ (by have := (row_lt hn.next hg).2; omega)]; exact hn.lab _ (by simp) g hg
    · rw [lab_ne O _ (by have := (row_lt hn.mat hg).2; omega)]; exact hn.lab _ (by simp) g hg

set_option maxHeartbeats 1600000 in
theorem stand_any (w : World) (M : Fz) (O : Lb) (b k n : Nat) (p : Peer) (st : Sta M O w) (h : Nod w M O b k p) (hk : k < n) (hn7 : n ≤ 7) (hp : p.term < 1000000) :
    Calls Try.prog 135 #[.pointer (some ⟨b, 0, none⟩), .int .i64 n] w fun r w' => r = .returned (.tuple #[]) ∧ NDid M O w b k (standP p k n) w' := by
  obtain ⟨us, lv, vv, nv, mv, h⟩ := h
  obtain ⟨⟨c0, c1, c2, c3, c4, c5, c6, c7, c8, c9⟩, ⟨f0, f1, f2, f3, f4, f5, f6, f7, f8, f9⟩⟩ := Nd.cs h
  obtain ⟨i0, hi, hz0, hz1, hz2⟩ := info_parts info4
  have HI : Hid (Try.prog.info? 4 = some i0 ∧ i0.zero = some (.bool false) ∧ i0.size = 1 ∧ i0.bytes = 1) := ⟨hi, hz0, hz1, hz2⟩
  obtain ⟨W0, hW0⟩ : ∃ W0, (((w.setCell ⟨b, 0, none⟩ (.int .i64 ((p.term : Int) + 1))).setCell ⟨b, 1, none⟩ (.int .i64 ((k : Int) + 1))).setCell ⟨b, 6, none⟩ (.int .i64 1)) = W0 := ⟨_, rfl⟩
  have HV : Hid (∀ wx, Calls Try.prog 150 #[.int .i64 k] wx fun r w' => r = .returned (.int .i64 ((k : Int) + 1)) ∧ w' = wx) := fun wx => voteFor_any wx k (by omega)
  have HE : Hid (∀ w1, w1.ownsRow W0.heap.size 4 1 (.slice (some ⟨W0.heap.size, 0, none⟩) n n) n (List.replicate n (.bool false)) → W0.grownBy w1 none → NDid M O w b k (standP p k n) ((w1.setCell ⟨b, 7, none⟩ (.slice (some ⟨W0.heap.size, 0, none⟩) n n)).setCell ⟨W0.heap.size, k, none⟩ (.bool true))) := fun w1 h1 h2 => stand_end st h hk W0 hW0.symm h1 h2
  have hW0b : W0.heap[b]? = some (.cells #[.int .i64 ((p.term : Int) + 1), .int .i64 ((k : Int) + 1), lv, .int .i64 k, .bool p.up, .int .i64 p.commit, .int .i64 1, vv, nv, mv] 110 (0, 0)) := by
    rw [← hW0]
    exact sets_at [(0, .int .i64 ((p.term : Int) + 1)), (1, .int .i64 ((k : Int) + 1)), (6, .int .i64 1)] h.blk
  have hbl : b < W0.heap.size := (Array.getElem?_eq_some_iff.1 hW0b).1
  have HB : Hid (∀ w1, W0.grownBy w1 none → w1.heap[b]? = some (.cells #[.int .i64 ((p.term : Int) + 1), .int .i64 ((k : Int) + 1), lv, .int .i64 k, .bool p.up, .int .i64 p.commit, .int .i64 1, vv, nv, mv] 110 (0, 0))) := fun w1 hg => (hg.block b hbl (by simp)).trans hW0b
  have hpI : (p.term : Int) < 1000000 := by omega
  have hkI : (k : Int) < n := by omega
  have hne : ¬ (b = W0.heap.size) := by omega
  have hne2 : ¬ (W0.heap.size = b) := by omega
  clear hi hz0 hz1 hz2 hW0b h st hbl
  go_enter Try.func135, Try.ntmps135
  go_wp2_with (first
    | (at_make; refine wpList_make_full _ rfl _ _ 34 rfl W0.heap.size 4 i0 (.bool false) 1 Try.underlying34 HI.out.1 HI.out.2.1 HI.out.2.2.1 .i64 .i64 _ _ n rfl rfl rfl rfl (by rw [HI.out.2.2.2]; omega) (by unfold maxLen; omega) (Nat.le_refl _) ?_
       intro w1 hown1 hgrow1
       have hb1 := HB.out w1 hgrow1
       have t7 := cell_of (i := 7) hb1 (v := vv) rfl
       have t3 := cell_of (i := 3) hb1 (v := .int .i64 k) rfl
       have g7 := frozen_of hb1 7
       rw [made_false] at hown1
       have HO1 := hide hown1
       have HG1 := hide hgrow1
       clear hown1 hgrow1 hb1)
    | (go_at_call 150; refine (HV.out _).mono ?_; rintro e w' ⟨rfl, rfl⟩))
  have hbx : w1.heap[b]? = _ := HB.out w1 HG1.out
  have hO2 : (w1.setCell ⟨b, 7, none⟩ (.slice (some ⟨W0.heap.size, 0, none⟩) n n)).ownsRow W0.heap.size 4 1 (.slice (some ⟨W0.heap.size, 0, none⟩) n n) n (List.replicate n (.bool false)) := row_kept HO1.out fun g hg => by
    simp only [Value.ownBlock, Option.some.injEq] at hg
    exact Below.heap_setCell _ _ _ g (by show g ≠ b; omega)
  obtain ⟨w2, hw2⟩ : ∃ w2, w1.setCell ⟨b, 7, none⟩ (.slice (some ⟨W0.heap.size, 0, none⟩) n n) = w2 := ⟨_, rfl⟩
  have hF := HE.out w1 HO1.out HG1.out
  have hb2 := set_at hbx 7 (.slice (some ⟨W0.heap.size, 0, none⟩) n n) rfl
  rw [hw2] at hO2 hF hb2 ⊢
  have HF := hide hF
  have u7 := cell_of (i := 7) hb2 (v := .slice (some ⟨W0.heap.size, 0, none⟩) n n) rfl
  have u3 := cell_of (i := 3) hb2 (v := .int .i64 k) rfl
  obtain ⟨g', cap', e', _, _, hc', hf'⟩ := own_at hO2 (by omega)
  simp only [Value.slice.injEq, Option.some.injEq, Addr.mk.injEq] at e'
  have eg : g' = W0.heap.size := e'.1.1.symm
  subst eg
  clear e'
  have u8 := hc' k (.bool false) (by rw [List.getElem?_replicate, if_pos hk])
  have u9 := hf' k
  clear hw2 hF hb2 hO2 hbx hc' hf' HO1 HG1 HE HB hW0 hne hne2
  generalize W0.heap.size = Z at *
  go_region_law (fail)
  all_goals
    go_wp2
    go_end0
    exact ⟨rfl, HF.out.drew⟩
end Go.Proofs.Ytklkglbimjajnaa.stand

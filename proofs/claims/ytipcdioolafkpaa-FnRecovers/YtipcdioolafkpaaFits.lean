/- The program's fits: a vote. -/
import Derived.Test.YtipcdioolafkpaaRecov
namespace Go.Proofs.Ytipcdioolafkpaa.fits
open Go.ChangeShapes Go.WideShapes Go.ChangeAt Go.RowKit
open Go.Proofs.Ytipcdioolafkpaa.bytes Go.Proofs.Ytipcdioolafkpaa.pile Go.Proofs.Ytipcdioolafkpaa.put Go.Proofs.Ytipcdioolafkpaa.crcs Go.Proofs.Ytipcdioolafkpaa.join Go.Proofs.Ytipcdioolafkpaa.frames Go.Proofs.Ytipcdioolafkpaa.get Go.Proofs.Ytipcdioolafkpaa.dec Go.Proofs.Ytipcdioolafkpaa.take Go.Proofs.Ytipcdioolafkpaa.one Go.Proofs.Ytipcdioolafkpaa.votes Go.Proofs.Ytipcdioolafkpaa.pays Go.Proofs.Ytipcdioolafkpaa.rechelp Go.Proofs.Ytipcdioolafkpaa.recrows Go.Proofs.Ytipcdioolafkpaa.recov
set_option linter.unusedVariables false

theorem set_grown (w : World) (d i : Nat) (u : Value) : w.grownBy (w.setCell ⟨d, i, none⟩ u) (some d) := ⟨rfl, rfl, rfl, by simp, fun k _ hk => heap_setCell_other w ⟨d, i, none⟩ k u (fun e => hk (by simp [e]))⟩
theorem drew_grown (w : World) (n : Nat) (row : Option Nat) : w.grownBy (w.drewN n) row := ⟨rfl, rfl, rfl, Nat.le_refl _, fun _ _ _ => rfl⟩
theorem alloc_grown (w : World) (o : Obj) (row : Option Nat) : w.grownBy (w.alloc o) row := World.grownBy_alloc w o row
theorem own_keptR {w w' : World} {base : Nat} {v : Value} {row : Option Nat} {xs : List Int} (h : Own w base v xs) (hg : w.grownBy w' row) (hne : ∀ k, v.ownBlock = some k → row ≠ some k) : Own w' base v xs :=
  ⟨h.1, World.ownsRow.kept h.2 hg (by cases hv : v.ownBlock with
    | none => exact .inl rfl
    | some k => exact .inr (Ne.symm (hne k hv)))⟩
/-- Rows of records survive what is written below them. -/
theorem OwnRecs.grown {w w' : World} {B rb : Nat} {v : Value} {rl : List Rec3} {us : List Value} (h : OwnRecs w B v rl us) (hg : w.grownBy w' (some rb)) (hr : rb < B) : OwnRecs w' B v rl us where
  len := h.len
  row := by
    obtain ⟨ao, cap, rfl, h1, h2, h4⟩ := h.row
    refine ⟨ao, cap, rfl, h1, h2, fun hp => ?_⟩
    obtain ⟨g, off, cur, rfl, hbg, hk, hc⟩ := h4 hp
    exact ⟨g, off, cur, rfl, hbg, (hg.block g (Array.getElem?_eq_some_iff.1 hk).1 (by simp; omega)).trans hk, hc⟩
  each := fun k hk => own_keptR (h.each k hk) hg (fun j hj e => by simp only [Option.some.injEq] at e; have := ((h.each k hk).lt j hj).1; omega)
  apart := h.apart
theorem getD_drop {α : Type} (l : List α) (G k : Nat) (z : α) : (l.drop G).getD k z = l.getD (G + k) z := by simp [List.getD_eq_getElem?_getD, List.getElem?_drop]
theorem OwnRecs.drop {w : World} {B : Nat} {ao : Option Addr} {cap : Nat} {rl : List Rec3} {us : List Value} (h : OwnRecs w B (.slice ao rl.length cap) rl us) (G : Nat) (hG : G ≤ rl.length) : OwnRecs w B (.slice (ao.map fun x => x.add (G * 3)) (rl.length - G) (cap - G)) (rl.drop G) (us.drop G) where
  len := by simp [h.len]
  row := by
    obtain ⟨ao', cap', e, h1, h2, h4⟩ := h.row
    simp only [Value.slice.injEq, true_and] at e
    obtain ⟨rfl, rfl⟩ := e
    refine ⟨_, _, by rw [List.length_drop], by rw [List.length_drop]; omega, by omega, fun hp => ?_⟩
    rw [List.length_drop] at hp
    obtain ⟨g, off, cur, rfl, hbg, hg, hc⟩ := h4 (by omega)
    have hadd : (⟨g, off, none⟩ : Addr).add (G * 3) = ⟨g, off + G * 3, none⟩ := by
      unfold Addr.add
      split
      · rename_i h; rw [h]; rfl
      · rfl
    refine ⟨g, off + G * 3, cur, by simp only [Option.map_some, hadd], hbg, hg, fun k hk => ?_⟩
    rw [List.length_drop] at hk
    have := hc (G + k) (by omega)
    rw [getD_drop, getD_drop, show off + G * 3 + k * 3 = off + (G + k) * 3 by omega]
    exact this
  each := fun k hk => by
    rw [List.length_drop] at hk
    rw [getD_drop, getD_drop]
    exact h.each (G + k) (by omega)
  apart := fun j k hj hk hne b hb => by
    rw [List.length_drop] at hj hk
    rw [getD_drop] at hb ⊢
    exact h.apart (G + j) (G + k) (by omega) (by omega) (by omega) b hb
theorem OwnRecs.none (w : World) (B : Nat) (ao : Option Addr) : OwnRecs w B (.slice ao 0 0) [] [] :=
  ⟨rfl, ⟨ao, 0, rfl, by simp, by simp [maxLen], by simp⟩, by simp, by simp⟩
theorem Room.grown {w w' : World} {B rb : Nat} {v : Value} (h : Room w B v) (hg : w.grownBy w' (some rb)) (hr : rb < B) : Room w' B v := by
  obtain ⟨ao, n, cap, rfl, h | ⟨g, off, cur, rfl, hb, hk, hs⟩⟩ := h
  · exact ⟨_, _, _, rfl, .inl h⟩
  · exact ⟨_, _, _, rfl, .inr ⟨g, off, cur, rfl, hb, (hg.block g (Array.getElem?_eq_some_iff.1 hk).1 (by simp; omega)).trans hk, hs⟩⟩
theorem Room.drop {w : World} {B : Nat} {ao : Option Addr} {n cap : Nat} (h : Room w B (.slice ao n cap)) (hnc : n ≤ cap) (G : Nat) (hG : G ≤ n) : Room w B (.slice (ao.map fun x => x.add (G * 3)) (n - G) (cap - G)) := by
  obtain ⟨ao', n', cap', e, h⟩ := h
  simp only [Value.slice.injEq] at e
  obtain ⟨rfl, rfl, rfl⟩ := e
  rcases h with ⟨rfl, rfl, rfl⟩ | ⟨g, off, cur, rfl, hb, hk, hs⟩
  · exact ⟨_, _, _, rfl, .inl ⟨rfl, by omega, by omega⟩⟩
  · have hadd : (⟨g, off, none⟩ : Addr).add (G * 3) = ⟨g, off + G * 3, none⟩ := by
      unfold Addr.add
      split
      · rename_i h; rw [h]; rfl
      · rfl
    exact ⟨_, _, _, rfl, .inr ⟨g, off + G * 3, cur, by simp only [Option.map_some, hadd], hb, hk, by omega⟩⟩
theorem Room.none {w : World} {B : Nat} {ao : Option Addr} {n cap : Nat} (h : Room w B (.slice ao n cap)) : Room w B (.slice ao 0 0) := by
  obtain ⟨ao', n', cap', e, h⟩ := h
  simp only [Value.slice.injEq] at e
  obtain ⟨rfl, rfl, rfl⟩ := e
  rcases h with ⟨rfl, _, _⟩ | ⟨g, off, cur, rfl, hb, hk, hs⟩
  · exact ⟨_, _, _, rfl, .inl ⟨rfl, rfl, rfl⟩⟩
  · exact ⟨_, _, _, rfl, .inr ⟨g, off, cur, rfl, hb, hk, by omega⟩⟩
theorem below_of {w w' : World} {rb : Nat} (h : w.grownBy w' (some rb)) (hr : rb < w.heap.size) : Below rb w w' := ⟨h.os, h.tape, h.output, h.size, fun k hk => by
  by_cases hlt : k < w.heap.size
  · exact h.block k hlt (by simp; omega)
  · exact absurd hk (by omega)⟩
/-- What a fit leaves. -/
def FitE (w : World) (B rb : Nat) (dv : Value) (a : Nat) (s : St) (good : Nat) (r : Option St) (e : Ending) (w' : World) : Prop :=
  e = .returned (.bool r.isSome) ∧ (∃ lv us, RV w' B rb dv a (r.getD s) lv us good) ∧ Below rb w w'
theorem RV.grown {w w' : World} {B rb : Nat} {dv : Value} {a : Nat} {s s' : St} {lv : Value} {us : List Value} {good : Nat} (h : RV w B rb dv a s lv us good) (hg : w.grownBy w' (some rb)) (hr : rb < B) (hl : s'.log = s.log) (hk : w'.heap[rb]? = some (.cells (rcells dv a s' lv good) 86 (0, 0))) : RV w' B rb dv a s' lv us good :=
  ⟨hk, by rw [hl]; exact OwnRecs.grown h.log hg hr, Room.grown h.room hg hr⟩
theorem set_at {w : World} {b t : Nat} {cur cur' : Array Value} (h : w.heap[b]? = some (.cells cur t (0, 0))) (i : Nat) (x : Value) (hc : cur.setIfInBounds i x = cur') : (w.setCell ⟨b, i, none⟩ x).heap[b]? = some (.cells cur' t (0, 0)) := by
  rw [← hc]; exact heap_setCell_same w b i cur t x h

set_option maxHeartbeats 2000000 in
theorem fitVote_any (w : World) (B rb : Nat) (dv : Value) (a : Nat) (s : St) (lv : Value) (us : List Value) (good : Nat) (h : RV w B rb dv a s lv us good) (hr : rb < B) (x y : Int) :
    Calls Try.prog 87 #[.pointer (some ⟨rb, 0, none⟩), .agg #[.int .i64 x, .int .i64 y]] w (FitE w B rb dv a s good (fitV s x y)) := by
  have hlt : rb < w.heap.size := (Array.getElem?_eq_some_iff.1 h.blk).1
  have c2 : w.cell? ⟨rb, 2, none⟩ = some (.int .i64 s.term) := cell_of h.blk rfl
  have f2 := frozen_of h.blk 2
  have f3 := frozen_of h.blk 3
  have c3 : w.cell? ⟨rb, 3, none⟩ = some (.int .i64 s.vote) := cell_of h.blk rfl
  have HRV : Hid (RV w B rb dv a s lv us good) := h
  obtain ⟨W, hW⟩ : ∃ W, W = w.alloc (.cells #[.int .i64 x, .int .i64 y] 120) := ⟨_, rfl⟩
  have HW : Hid (W = w.alloc (.cells #[.int .i64 x, .int .i64 y] 120)) := hW
  have hk : W.heap[rb]? = some (.cells (rcells dv a s lv good) 86 (0, 0)) := by rw [hW, Below.heap_alloc _ _ _ hlt]; exact h.blk
  have hn : W.heap[w.heap.size]? = some (.cells #[.int .i64 x, .int .i64 y] 120 (0, 0)) := by rw [hW]; exact heap_alloc_new w _
  have d0 : W.cell? ⟨w.heap.size, 0, none⟩ = some (.int .i64 x) := cell_of hn rfl
  have d1 : W.cell? ⟨w.heap.size, 1, none⟩ = some (.int .i64 y) := cell_of hn rfl
  have e2 : W.cell? ⟨rb, 2, none⟩ = some (.int .i64 s.term) := cell_of hk rfl
  have e3 : W.cell? ⟨rb, 3, none⟩ = some (.int .i64 s.vote) := cell_of hk rfl
  have g2 := frozen_of hk 2
  have g3 := frozen_of hk 3
  have HK : Hid (W.heap[rb]? = some (.cells (rcells dv a s lv good) 86 (0, 0))) := hk
  have hne : w.heap.size ≠ rb := by omega
  have hne2 : rb ≠ w.heap.size := by omega
  clear h c2 c3 f2 f3 hk hn hlt
  by_cases ht : x < s.term
  · have HF : Hid (fitV s x y = none) := by unfold Hid fitV; rw [if_pos ht]
    rw [HF.out]
    generalize s.term = T at *
    go_enter Try.func87, Try.ntmps87
    go_wp2
    rw [← hW]
    clear hW
    go_quiet (fail)
    go_wp2
    go_ret
    refine ⟨rfl, ⟨lv, us, ?_⟩, ?_⟩
    · have hg : w.grownBy (W.drewN nq) (some rb) := by rw [HW.out]; exact grown_trans (alloc_grown _ _ _) (drew_grown _ _ _)
      exact RV.grown HRV.out hg hr rfl HK.out
    · refine below_of ?_ (Array.getElem?_eq_some_iff.1 HRV.out.blk).1
      rw [HW.out]; exact grown_trans (alloc_grown _ _ _) (drew_grown _ _ _)
  · have HF : Hid (fitV s x y = some { s with term := x, vote := y }) := by unfold Hid fitV; rw [if_neg ht]
    rw [HF.out]
    go_enter Try.func87, Try.ntmps87
    go_wp2
    rw [← hW]
    clear hW
    go_quiet (fail)
    go_wp2
    go_region
    all_goals
      go_wp2
      go_ret
      have k2 := set_at (w := W.drewN (nq + 1)) HK.out 2 (.int .i64 x) (cur' := rcells dv a { s with term := x } lv good) rfl
      have k3 := set_at k2 3 (.int .i64 y) (cur' := rcells dv a { s with term := x, vote := y } lv good) rfl
      have hg : w.grownBy (((W.drewN (nq + 1)).setCell ⟨rb, 2, none⟩ (.int .i64 x)).setCell ⟨rb, 3, none⟩ (.int .i64 y)) (some rb) := by
        rw [HW.out]; exact grown_trans (grown_trans (grown_trans (alloc_grown _ _ _) (drew_grown _ _ _)) (set_grown _ _ _ _)) (set_grown _ _ _ _)
      exact ⟨rfl, ⟨lv, us, RV.grown HRV.out hg hr rfl k3⟩, below_of hg (Array.getElem?_eq_some_iff.1 HRV.out.blk).1⟩

theorem termBehind_int (w : World) (B rb : Nat) (dv : Value) (a : Nat) (s : St) (lv : Value) (us : List Value) (good : Nat) (h : RV w B rb dv a s lv us good) (n : Int) (h0 : 0 ≤ n) (hn : n ≤ s.log.length) :
    Calls Try.prog 91 #[.pointer (some ⟨rb, 0, none⟩), .int .i64 n] w fun e w' => e = .returned (.int .i64 (termB s n.toNat)) ∧ w' = w := by
  obtain ⟨n, rfl⟩ := Int.eq_ofNat_of_zero_le h0
  exact termBehind_any w B rb dv a s lv us good h n (by omega)

set_option maxHeartbeats 2000000 in
theorem fitBase_any (w : World) (B rb : Nat) (dv : Value) (a : Nat) (s : St) (lv : Value) (us : List Value) (good : Nat) (h : RV w B rb dv a s lv us good) (hr : rb < B) (x y : Int) (hx : 0 ≤ x ∧ x ≤ 1000000) (hs : 0 ≤ s.base ∧ s.base ≤ 1000000) :
    Calls Try.prog 89 #[.pointer (some ⟨rb, 0, none⟩), .agg #[.int .i64 x, .int .i64 y]] w (FitE w B rb dv a s good (fitB s x y)) := by
  have hlt : rb < w.heap.size := (Array.getElem?_eq_some_iff.1 h.blk).1
  have HRV : Hid (RV w B rb dv a s lv us good) := h
  obtain ⟨W, hW⟩ : ∃ W, W = w.alloc (.cells #[.int .i64 x, .int .i64 y] 127) := ⟨_, rfl⟩
  have HW : Hid (W = w.alloc (.cells #[.int .i64 x, .int .i64 y] 127)) := hW
  have hk : W.heap[rb]? = some (.cells (rcells dv a s lv good) 86 (0, 0)) := by rw [hW, Below.heap_alloc _ _ _ hlt]; exact h.blk
  have hn : W.heap[w.heap.size]? = some (.cells #[.int .i64 x, .int .i64 y] 127 (0, 0)) := by rw [hW]; exact heap_alloc_new w _
  have d0 : W.cell? ⟨w.heap.size, 0, none⟩ = some (.int .i64 x) := cell_of hn rfl
  have d1 : W.cell? ⟨w.heap.size, 1, none⟩ = some (.int .i64 y) := cell_of hn rfl
  obtain ⟨ao, cap, hlv, hl1, hl2, _⟩ := h.log.row
  subst hlv
  unfold maxLen at hl2
  have e4 : W.cell? ⟨rb, 4, none⟩ = some (.int .i64 s.base) := cell_of hk rfl
  have e5 : W.cell? ⟨rb, 5, none⟩ = some (.int .i64 s.bterm) := cell_of hk rfl
  have e6 : W.cell? ⟨rb, 6, none⟩ = some (.slice ao s.log.length cap) := cell_of hk rfl
  have g4 := frozen_of hk 4
  have g5 := frozen_of hk 5
  have g6 := frozen_of hk 6
  have HK : Hid (W.heap[rb]? = some (.cells (rcells dv a s (.slice ao s.log.length cap) good) 86 (0, 0))) := hk
  have hne : w.heap.size ≠ rb := by omega
  have hne2 : rb ≠ w.heap.size := by omega
  have HRW : Hid (∀ n, RV (W.drewN n) B rb dv a s (.slice ao s.log.length cap) us good) := fun n => by
    have hg : w.grownBy (W.drewN n) (some rb) := by rw [hW]; exact grown_trans (alloc_grown _ _ _) (drew_grown _ _ _)
    exact RV.grown HRV.out hg hr rfl HK.out
  have HTB : Hid (∀ m n, 0 ≤ x - s.base → x - s.base ≤ s.log.length → Calls Try.prog 91 #[.pointer (some ⟨rb, 0, none⟩), .int .i64 (x - s.base)] (W.drewN (m + n)) fun e w' => e = .returned (.int .i64 (termB s (x - s.base).toNat)) ∧ ∃ k, w' = W.drewN (m + k)) := fun m n h1 h2 => (termBehind_int _ B rb dv a s _ us good (HRW.out _) _ h1 h2).mono fun _ _ h => ⟨h.1, n, h.2⟩
  have hgw : Hid (∀ n, w.grownBy (W.drewN n) (some rb)) := fun n => by rw [hW]; exact grown_trans (alloc_grown _ _ _) (drew_grown _ _ _)
  clear h hk hn hlt
  by_cases h1 : x - s.base < 0
  · have HF : Hid (fitB s x y = none) := by unfold Hid fitB; rw [if_pos (.inl h1)]
    rw [HF.out]
    go_enter Try.func89, Try.ntmps89
    go_wp2
    rw [← hW]
    clear hW
    go_quiet (fail)
    go_wp2
    go_quiet (fail)
    go_wp2
    go_ret
    (try simp only [World.drewN_drewN]); exact ⟨rfl, ⟨_, us, HRW.out _⟩, below_of (hgw.out _) (Array.getElem?_eq_some_iff.1 HRV.out.blk).1⟩
  have hd1 : decide (x - s.base < 0) = false := by simp only [decide_eq_false_iff_not]; exact h1
  by_cases h2 : (s.log.length : Int) < x - s.base
  · have HF : Hid (fitB s x y = none) := by unfold Hid fitB; rw [if_pos (.inr (.inl h2))]
    rw [HF.out]
    have hd2 : decide ((s.log.length : Int) < x - s.base) = true := by simp only [decide_eq_true_eq]; exact h2
    go_enter Try.func89, Try.ntmps89
    go_wp2
    rw [← hW]
    clear hW
    go_quiet (fail)
    go_wp2
    go_quiet (fail)
    go_wp2
    go_ret
    (try simp only [World.drewN_drewN]); exact ⟨rfl, ⟨_, us, HRW.out _⟩, below_of (hgw.out _) (Array.getElem?_eq_some_iff.1 HRV.out.blk).1⟩
  have hd2 : decide ((s.log.length : Int) < x - s.base) = false := by simp only [decide_eq_false_iff_not]; exact h2
  have HTC := hide (fun m n => HTB.out m n (by omega) (by omega))
  clear HTB
  by_cases h3 : y = termB s (x - s.base).toNat
  · have HF : Hid (fitB s x y = some { s with base := x, bterm := y, log := s.log.drop (x - s.base).toNat }) := by unfold Hid fitB; rw [if_neg (by simp only [not_or]; exact ⟨h1, h2, fun e => e h3⟩)]
    rw [HF.out]
    rw [← h3] at HTC
    have hyy : (y != y) = false := by simp
    clear h3
    go_enter Try.func89, Try.ntmps89
    go_wp2
    rw [← hW]
    clear hW
    go_quiet (fail)
    generalize nq = nqZ
    go_wp2
    go_quiet ((go_at_call 91; exact HTC.out _ _))
    go_wp2
    go_region
    all_goals go_wp2
    all_goals
      go_ret
      have k4 := set_at (w := W.drewN (nqZ + nq + 1)) HK.out 4 (.int .i64 x) (cur' := rcells dv a { s with base := x } (.slice ao s.log.length cap) good) rfl
      have k5 := set_at k4 5 (.int .i64 y) (cur' := rcells dv a { s with base := x, bterm := y } (.slice ao s.log.length cap) good) rfl
      have hg : ∀ v, w.grownBy ((((W.drewN (nqZ + nq + 1)).setCell ⟨rb, 4, none⟩ (.int .i64 x)).setCell ⟨rb, 5, none⟩ (.int .i64 y)).setCell ⟨rb, 6, none⟩ v) (some rb) := fun v =>
        grown_trans (grown_trans (grown_trans (hgw.out _) (set_grown _ _ _ _)) (set_grown _ _ _ _)) (set_grown _ _ _ _)
      first
        | (refine ⟨rfl, ⟨.slice ao 0 0, [], ⟨set_at k5 6 _ ?_, ?_, Room.grown (Room.none HRV.out.room) (hg _) hr⟩⟩, below_of (hg _) (Array.getElem?_eq_some_iff.1 HRV.out.blk).1⟩
           · have hz : s.log.length - (x - s.base).toNat = 0 := by omega
             rw [hz]; rfl
           · have hz : s.log.drop (x - s.base).toNat = [] := List.drop_eq_nil_of_le (by omega)
             simp only [Option.getD_some, hz]
             exact OwnRecs.none _ _ _)
        | exact ⟨rfl, ⟨_, us.drop (x - s.base).toNat, ⟨set_at k5 6 _ rfl, OwnRecs.grown (OwnRecs.drop HRV.out.log (x - s.base).toNat (by omega)) (hg _) hr, Room.grown (Room.drop HRV.out.room hl1 _ (by omega)) (hg _) hr⟩⟩, below_of (hg _) (Array.getElem?_eq_some_iff.1 HRV.out.blk).1⟩
  · have HF : Hid (fitB s x y = none) := by unfold Hid fitB; rw [if_pos (.inr (.inr h3))]
    rw [HF.out]
    generalize termB s (x - s.base).toNat = TB at HTC h3
    have hyt : (y != TB) = true := by simp only [bne_iff_ne]; exact h3
    go_enter Try.func89, Try.ntmps89
    go_wp2
    rw [← hW]
    clear hW
    go_quiet (fail)
    go_wp2
    go_quiet ((go_at_call 91; exact HTC.out _ _))
    go_wp2
    go_ret
    (try simp only [World.drewN_drewN]); exact ⟨rfl, ⟨_, us, HRW.out _⟩, below_of (hgw.out _) (Array.getElem?_eq_some_iff.1 HRV.out.blk).1⟩
end Go.Proofs.Ytipcdioolafkpaa.fits

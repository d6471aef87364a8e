/- A letter's reach: where a match of it can end. -/
import Derived.Test.YtfpeajbfimodfaaGreatDoorLast
import Derived.Test.YtfpeajbfimodfaaGreatDoorRead
namespace Go.Proofs.YtfpeajbfimodfaaGreatDoor.leaf
open Go.ChangeShapes Go.WideShapes Go.ChangeAt Go.RowKit
open Go.Proofs.YtfpeajbfimodfaaGreatDoor.bytes Go.Proofs.YtfpeajbfimodfaaGreatDoor.letters Go.Proofs.YtfpeajbfimodfaaGreatDoor.read Go.Proofs.YtfpeajbfimodfaaGreatDoor.places Go.Proofs.YtfpeajbfimodfaaGreatDoor.sets
set_option linter.unusedVariables false

set_option maxHeartbeats 2000000 in
theorem char69 (w : World) (rb : Nat) (c y : Int) (hc0 : 0 ≤ c) (hc1 : c ≤ 255) (h : w.cell? ⟨rb, 1, none⟩ = some (.int .i64 y)) :
    Calls Tryz.prog 69 #[.int .u8 c, .pointer (some ⟨rb, 0, none⟩)] w fun e w' => e = .returned (.bool (c == y)) ∧ w' = w := by
  go_enter Tryz.func69, Tryz.ntmps69
  go_wp2
  go_ret
  exact ⟨rfl, rfl⟩
/-- The ends of a letter's match from a place on: at most one. -/
def endsC (ts : List Int) (y : Int) (p : Nat) : Nat := if p < ts.length ∧ ts.getD p 0 = y then 2 ^ (p + 1) else 0
/-- A letter's reach in memory: the boxes of the text and of what is asked, and the node. -/
structure Leaf (w : World) (tb fb rb : Nat) (ts : List Int) (y : Int) : Prop where
  text : w.cell? ⟨tb, 0, none⟩ = some (.string (strOfNums ts))
  asks : w.cell? ⟨fb, 0, none⟩ = some (.func (.func 69) #[] #[.pointer (some ⟨rb, 0, none⟩)])
  node : w.cell? ⟨rb, 1, none⟩ = some (.int .i64 y)
/-- A set is laid into a block of two words. -/
theorem two_end {W : World} {H a : Nat} (h : C2 W H a) (x : Nat) : ((W.setCell ⟨H, 0, none⟩ (.int .u64 (x : Nat))).setCell ⟨H, 1, none⟩ (.int .u64 0)).heap[H]? = some (.cells #[.int .u64 (x : Nat), .int .u64 0] 87 (0, 0)) := by
  have h0 := heap_setCell_same W H 0 _ 87 (.int .u64 (x : Nat)) h
  have h1 := heap_setCell_same _ H 1 _ 87 (.int .u64 0) h0
  simp at h1
  exact h1
theorem two_below {w W : World} (h : Below w.heap.size w W) (x : Nat) : Below w.heap.size w ((W.setCell ⟨w.heap.size, 0, none⟩ (.int .u64 (x : Nat))).setCell ⟨w.heap.size, 1, none⟩ (.int .u64 0)) := (h.setCell (p := ⟨w.heap.size, 0, none⟩) (Nat.le_refl _) _).setCell (p := ⟨w.heap.size, 1, none⟩) (Nat.le_refl _) _
set_option maxRecDepth 20000 in
set_option maxHeartbeats 4000000 in
theorem leaf_any (w : World) (tb fb rb : Nat) (ts : List Int) (y : Int) (p : Nat) (hl : ts.length ≤ 22) (hp : p ≤ ts.length) (hts : ∀ t ∈ ts, 0 ≤ t ∧ t ≤ 255) (h : Leaf w tb fb rb ts y) :
    Calls Tryz.prog 83 #[.int .i64 p, .pointer (some ⟨tb, 0, none⟩), .pointer (some ⟨fb, 0, none⟩)] w fun e w' => e = .returned (psV (endsC ts y p)) ∧ Below w.heap.size w w' := by
  have k1 := h.text
  have k2 := h.asks
  have k3 := h.node
  have ht : tb < w.heap.size := cell_lt k1
  have hf : fb < w.heap.size := cell_lt k2
  have hr : rb < w.heap.size := cell_lt k3
  have hs : (strOfNums ts).size = ts.length := strOfNums_size _
  have HZ : Hid (∀ n, ((((w.alloc (.cells #[.int .u64 0, .int .u64 0] 87)).drewN n).setCell ⟨w.heap.size, 0, none⟩ (.int .u64 ((0 : Nat) : Int))).setCell ⟨w.heap.size, 1, none⟩ (.int .u64 0)).heap[w.heap.size]? = some (.cells #[.int .u64 ((0 : Nat) : Int), .int .u64 0] 87 (0, 0)) ∧ Below w.heap.size w ((((w.alloc (.cells #[.int .u64 0, .int .u64 0] 87)).drewN n).setCell ⟨w.heap.size, 0, none⟩ (.int .u64 ((0 : Nat) : Int))).setCell ⟨w.heap.size, 1, none⟩ (.int .u64 0))) := by
    refine hide (fun n => ⟨two_end (a := 0) (heap_alloc_new w _) 0, two_below ?_ 0⟩)
    exact ((Below.refl _ _).alloc (Nat.le_refl _) _).trans ⟨rfl, rfl, rfl, Nat.le_refl _, fun _ _ => rfl⟩
  by_cases he : p = ts.length
  · have hE : endsC ts y p = 0 := by unfold endsC; rw [if_neg (by omega)]
    rw [hE]
    have hI : (p : Int) = (ts.length : Int) := by omega
    have hb : ((p : Int) == (ts.length : Int)) = true := by simp [hI]
    have HE : Hid ((w.alloc (.cells #[.int .u64 0, .int .u64 0] 87)).heap[w.heap.size]? = some (.cells #[.int .u64 ((0 : Nat) : Int), .int .u64 0] 87 (0, 0))) := hide (heap_alloc_new w _)
    clear hE he
    generalize strOfNums ts = S at k1 hs
    unfold psV
    go_enter Tryz.func83, Tryz.ntmps83
    go_wp2
    go_quiet (fail)
    go_wp2
    exact bodyPost_ret (results_cell_row rfl _ _ w.heap.size 87 _ (0, 0) _ rfl (HZ.out nq).1 Tryz.underlying87 rfl (size87.trans (by simp))) rfl ⟨rfl, (HZ.out nq).2⟩
  · have hlt : p < ts.length := by omega
    have hbf : ((p : Int) == (ts.length : Int)) = false := by simp; omega
    have hd9 : ¬ (p : Int) = (ts.length : Int) := by omega
    have hb := hts (ts.getD p 0) (by rw [List.getD_eq_getElem?_getD, List.getElem?_eq_getElem hlt]; exact List.getElem_mem hlt)
    have hix : ∀ W : World, (Instr.index 9 (.string (strOfNums ts)) (.int .i64 (p : Int))).run Tryz.prog W = .ok (.int .u8 (ts.getD p 0)) W := by
      intro W
      have hlt' : p < (strOfNums ts).size := by rw [hs]; exact hlt
      rw [run_index_string W 9 _ _ _ Tryz.underlying9, dif_pos ⟨by omega, by omega⟩]
      have hq : (strOfNums ts)[p]'hlt' = UInt8.ofNat (ts.getD p 0).toNat := by
        rw [List.getD_eq_getElem?_getD, List.getElem?_eq_getElem hlt]
        show (strOfNums ts).data[p]'hlt' = _
        simp [strOfNums]
      have hr1 : (UInt8.ofNat (ts.getD p 0).toNat).toNat = (ts.getD p 0).toNat := by
        rw [UInt8.toNat_ofNat']
        omega
      have hz : ((ts.getD p 0).toNat : Int) = ts.getD p 0 := by omega
      have e : ((p : Int)).toNat = p := by omega
      simp only [e]
      rw [hq, hr1, hz]
    obtain ⟨c, hc⟩ : ∃ c, c = ts.getD p 0 := ⟨_, rfl⟩
    have hE : endsC ts y p = if c = y then 2 ^ (p + 1) else 0 := by unfold endsC; rw [hc]; simp [hlt]
    rw [hE]
    rw [← hc] at hix hb
    clear hE hc hts
    have HC : Hid (∀ W : World, W.cell? ⟨rb, 1, none⟩ = some (.int .i64 y) → Calls Tryz.prog 69 #[.int .u8 c, .pointer (some ⟨rb, 0, none⟩)] W fun e w' => e = .returned (.bool (c == y)) ∧ w' = W) := hide (fun W hW => char69 W rb c y hb.1 hb.2 hW)
    have HO : Hid (∀ W, Calls Tryz.prog 56 #[.int .i64 ((p : Int) + 1)] W fun r w' => r = .returned (psV (2 ^ (p + 1))) ∧ Below W.heap.size W w') := by
      refine hide (fun W => ?_)
      have h := only_any W (p + 1) (by omega)
      rw [show (((p + 1 : Nat) : Nat) : Int) = (p : Int) + 1 by omega] at h
      exact h
    have hkr : ∀ o n, ((w.alloc o).drewN n).cell? ⟨rb, 1, none⟩ = some (.int .i64 y) := fun o n => (((Below.refl w.heap.size w).alloc (Nat.le_refl _) o).cell hr).trans k3
    generalize strOfNums ts = S at k1 hs hix
    by_cases hcy : c = y
    · subst hcy
      have hbb : (c == c) = true := by simp
      rw [if_pos rfl]
      rw [hbb] at HC
      clear hbb
      obtain ⟨X, hX⟩ : ∃ X, X = 2 ^ (p + 1) := ⟨_, rfl⟩
      rw [← hX] at HO ⊢
      clear hX
      unfold psV at HO ⊢
      go_enter Tryz.func83, Tryz.ntmps83
      go_wp2
      go_quiet (first | (go_at_call 69; with_reducible (refine Calls.quiet_of_same (HC.out _ ?_)); exact hkr _ _))
      go_wp2_with fail
      refine (HO.out _).mono ?_
      rintro e w5 ⟨rfl, B5⟩
      have hs5 := B5.size
      simp at hs5
      have h5 : C2 w5 w.heap.size 0 := (B5.block _ (by simp)).trans (heap_alloc_new w _)
      have hw0 : Below w.heap.size w ((w.alloc (.cells #[.int .u64 0, .int .u64 0] 87)).drewN nq) := Below.trans ((Below.refl w.heap.size w).alloc (Nat.le_refl _) (.cells #[.int .u64 0, .int .u64 0] 87)) ⟨rfl, rfl, rfl, Nat.le_refl _, fun _ _ => rfl⟩
      have b5 : Below w.heap.size w w5 := hw0.trans (B5.mono hw0.size)
      have r0 := h5.c0
      have r1 := h5.c1
      have s0 := h5.fz 0
      have s1 := h5.fz 1
      have HE := hide (And.intro (two_end h5 X) (two_below b5 X))
      clear HC HO HZ h5 b5 B5
      go_wp2
      exact bodyPost_ret (results_cell_row rfl _ _ w.heap.size 87 _ (0, 0) _ rfl HE.out.1 Tryz.underlying87 rfl (size87.trans (by simp))) rfl ⟨rfl, HE.out.2⟩
    · have hbb : (c == y) = false := by simp [hcy]
      rw [if_neg hcy]
      rw [hbb] at HC
      unfold psV
      go_enter Tryz.func83, Tryz.ntmps83
      go_wp2
      go_quiet (first | (go_at_call 69; with_reducible (refine Calls.quiet_of_same (HC.out _ ?_)); exact hkr _ _))
      go_wp2
      exact bodyPost_ret (results_cell_row rfl _ _ w.heap.size 87 _ (0, 0) _ rfl (HZ.out nq).1 Tryz.underlying87 rfl (size87.trans (by simp))) rfl ⟨rfl, (HZ.out nq).2⟩
end Go.Proofs.YtfpeajbfimodfaaGreatDoor.leaf

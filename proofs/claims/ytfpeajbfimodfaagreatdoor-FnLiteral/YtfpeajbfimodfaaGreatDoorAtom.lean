/- One atom of a pattern that is a letter; no repetition behind it. -/
import Derived.Test.YtfpeajbfimodfaaGreatDoorRead
import Derived.Laws.Externs
namespace Go.Proofs.YtfpeajbfimodfaaGreatDoor.atom
open Go.ChangeShapes Go.WideShapes Go.ChangeAt Go.RowKit
open Go.Proofs.YtfpeajbfimodfaaGreatDoor.bytes Go.Proofs.YtfpeajbfimodfaaGreatDoor.pile Go.Proofs.YtfpeajbfimodfaaGreatDoor.src Go.Proofs.YtfpeajbfimodfaaGreatDoor.letters Go.Proofs.YtfpeajbfimodfaaGreatDoor.read
set_option linter.unusedVariables false

theorem run86 (c : Int) (hc : Letter c) (W : World) : (callFunc 86 #[.string ⟨#[42, 43, 63, 123, 41]⟩, .int .u8 c]).run Tryz.prog W = .ok (.value (.int .i64 (-1))) W := by
  rcases hc with rfl | rfl | rfl | rfl | rfl <;> kernel_rfl
set_option maxHeartbeats 1000000 in
theorem idx75 (w : World) (c : Int) (hc : Letter c) :
    Calls Tryz.prog 75 #[.string ⟨#[42, 43, 63, 123, 41]⟩, .int .u8 c] w fun e w' => e = .returned (.int .i64 (-1)) ∧ w' = w := by
  have hr := run86 c hc
  clear hc
  go_enter Tryz.func75, Tryz.ntmps75
  go_wp2
  go_ret
  exact ⟨rfl, rfl⟩
set_option maxHeartbeats 1000000 in
theorem idx51 (w : World) (c : Int) (hc : Letter c) :
    Calls Tryz.prog 51 #[.string ⟨#[42, 43, 63, 123, 41]⟩, .int .u8 c] w fun e w' => e = .returned (.int .i64 (-1)) ∧ w' = w := by
  have H := hide (idx75 w c hc)
  clear hc
  go_enter Tryz.func51, Tryz.ntmps51
  go_wp2_with fail
  refine H.out.mono ?_
  rintro e w' ⟨rfl, rfl⟩
  go_wp2
  go_ret
  exact ⟨rfl, rfl⟩
theorem no_of {c : Int} (h : c = 42 ∨ c = 43 ∨ c = 63 ∨ c = 124 ∨ c = 40 ∨ c = 41 ∨ c = 92 ∨ c = 123) : NoLetter c := by
  refine ⟨by omega, by omega, fun y hy => ?_⟩
  rcases hy with rfl | rfl | rfl | rfl | rfl <;> rcases h with rfl | rfl | rfl | rfl | rfl | rfl | rfl | rfl <;> decide
/-- The sign ahead of the signs of a basic pattern. -/
def leadOf (ere : Bool) : List Int := if ere then [] else [92]
theorem pr_drewN {w : World} {d : Nat} {ys : List Int} {ere : Bool} {lead : List Int} {at_ : Nat} (h : PR w d ys ere lead at_) (m : Nat) : PR (w.drewN m) d ys ere lead at_ := ⟨h.blk⟩

set_option maxHeartbeats 2000000 in
theorem repetition_no (w : World) (d : Nat) (ys : List Int) (ere : Bool) (at_ : Nat) (h : PR w d ys ere (leadOf ere) at_) (hl : ys.length ≤ 8) (hat : at_ ≤ ys.length) (hy : ∀ y ∈ ys, Letter y) :
    Calls Tryz.prog 33 #[.pointer (some ⟨d, 0, none⟩)] w fun e w' => e = .returned (.tuple #[.int .i64 0, .int .i64 0, .bool false]) ∧ ∃ m, w' = w.drewN m := by
  have HT : Hid (∀ (W : World) (c : Int), (c = 42 ∨ c = 43 ∨ c = 63) → PR W d ys ere (leadOf ere) at_ → Calls Tryz.prog 34 #[.pointer (some ⟨d, 0, none⟩), .string (strOfNums [c])] W fun e w' => e = .returned (.bool false) ∧ ∃ m, w' = W.drewN m) := hide (fun W c hc hP => takes_no W d ys ere (leadOf ere) at_ hP hl hat hy c [] (no_of (by omega)) (by simp))
  have HSe : Hid (∀ (W : World) (c : Int) (cs : List Int), (c = 92 ∨ c = 123) → cs.length ≤ 8 → PR W d ys ere (leadOf ere) at_ → Calls Tryz.prog 30 #[.pointer (some ⟨d, 0, none⟩), .string (strOfNums (c :: cs))] W fun e w' => e = .returned (.bool false) ∧ ∃ m, w' = W.drewN m) := hide (fun W c cs hc hcs hP => sees_no W d ys ere (leadOf ere) at_ hP hl hat hy c cs (no_of (by omega)) hcs)
  have HP := hide h
  have c1 := h.c1
  have c2 := h.c2
  clear h hy
  cases ere with
  | false =>
    have hld : strOfNums (leadOf false) ++ ⟨#[123]⟩ = strOfNums (92 :: [123]) := rfl
    go_enter Tryz.func33, Tryz.ntmps33
    go_wp2_with fail
    refine (HT.out _ 42 (by omega) HP.out).mono ?_
    rintro e w1 ⟨rfl, m1, rfl⟩
    go_wp2_with fail
    refine (HSe.out _ 92 [123] (by omega) (by simp) (pr_drewN HP.out m1)).mono ?_
    rintro e w2 ⟨rfl, m2, rfl⟩
    go_wp2
    go_ret3
    exact ⟨rfl, _, rfl⟩
  | true =>
    have hld : strOfNums (leadOf true) ++ ⟨#[123]⟩ = strOfNums (123 :: []) := rfl
    go_enter Tryz.func33, Tryz.ntmps33
    go_wp2_with fail
    refine (HT.out _ 42 (by omega) HP.out).mono ?_
    rintro e w1 ⟨rfl, m1, rfl⟩
    go_wp2_with fail
    refine (HT.out _ 43 (by omega) (pr_drewN HP.out m1)).mono ?_
    rintro e w2 ⟨rfl, m2, rfl⟩
    rw [World.drewN_drewN]
    go_wp2_with fail
    refine (HT.out _ 63 (by omega) (pr_drewN HP.out _)).mono ?_
    rintro e w3 ⟨rfl, m3, rfl⟩
    rw [World.drewN_drewN]
    go_wp2_with fail
    refine (HSe.out _ 123 [] (by omega) (by simp) (pr_drewN HP.out _)).mono ?_
    rintro e w4 ⟨rfl, m4, rfl⟩
    go_wp2
    go_ret3
    exact ⟨rfl, _, rfl⟩

/-- The atoms in memory: letters, one behind the other. -/
def AtC (w : World) (g : Nat) (ys : List Int) : Prop := ∀ i, i < ys.length → w.cell? ⟨g, 5 * i, none⟩ = some (.int .i64 1)
set_option maxHeartbeats 2000000 in
theorem star_no (w : World) (d : Nat) (ys : List Int) (ere : Bool) (at_ : Nat) (h : PR w d ys ere (leadOf ere) at_) (g n cap : Nat) (hn : 1 ≤ n) (hc : w.cell? ⟨g, 0, none⟩ = some (.int .i64 1)) :
    Calls Tryz.prog 32 #[.pointer (some ⟨d, 0, none⟩), .slice (some ⟨g, 0, none⟩) n cap] w fun e w' => e = .returned (.bool false) ∧ w' = w := by
  have c1 := h.c1
  clear h
  cases ere with
  | true =>
    go_enter Tryz.func32, Tryz.ntmps32
    go_wp2
    go_ret
    exact ⟨rfl, rfl⟩
  | false =>
    by_cases h1 : n = 1
    · subst h1
      go_enter Tryz.func32, Tryz.ntmps32
      go_wp2
      go_ret
      exact ⟨rfl, rfl⟩
    · have hI : ¬ (n : Int) = 1 := by omega
      have hb : ((n : Int) == 1) = false := by simp; omega
      go_enter Tryz.func32, Tryz.ntmps32
      go_wp2
      go_ret
      exact ⟨rfl, rfl⟩

theorem size26 : (Tryz.prog.info? 26).map (·.size) = some 5 := by kernel_rfl
theorem five {W : World} {H : Nat} {a0 a1 a2 a3 a4 : Value} (h : W.heap[H]? = some (.cells #[a0, a1, a2, a3, a4] 26 (0, 0))) (v0 v1 v2 v3 v4 : Value) :
    (((((W.setCell ⟨H, 0, none⟩ v0).setCell ⟨H, 1, none⟩ v1).setCell ⟨H, 2, none⟩ v2).setCell ⟨H, 3, none⟩ v3).setCell ⟨H, 4, none⟩ v4).heap[H]? = some (.cells #[v0, v1, v2, v3, v4] 26 (0, 0)) := by
  have h0 := heap_setCell_same W H 0 _ 26 v0 h
  have h1 := heap_setCell_same _ H 1 _ 26 v1 h0
  have h2 := heap_setCell_same _ H 2 _ 26 v2 h1
  have h3 := heap_setCell_same _ H 3 _ 26 v3 h2
  have h4 := heap_setCell_same _ H 4 _ 26 v4 h3
  simpa using h4
theorem five_other (W : World) (H k : Nat) (hk : k ≠ H) (v0 v1 v2 v3 v4 : Value) :
    (((((W.setCell ⟨H, 0, none⟩ v0).setCell ⟨H, 1, none⟩ v1).setCell ⟨H, 2, none⟩ v2).setCell ⟨H, 3, none⟩ v3).setCell ⟨H, 4, none⟩ v4).heap[k]? = W.heap[k]? := by
  rw [heap_setCell_other _ ⟨H, 4, none⟩ k v4 hk, heap_setCell_other _ ⟨H, 3, none⟩ k v3 hk, heap_setCell_other _ ⟨H, 2, none⟩ k v2 hk, heap_setCell_other _ ⟨H, 1, none⟩ k v1 hk, heap_setCell_other _ ⟨H, 0, none⟩ k v0 hk]
/-- What an atom leaves in memory. -/
def atomW (w : World) (d n at_ : Nat) (c : Int) : World :=
  ((((((((w.alloc (.cells #[.int .i64 0, .int .i64 0, .int .i64 0, .string ⟨#[]⟩, .slice none 0 0] 26)).drewN n).setCell ⟨d, 3, none⟩ (.int .i64 ((at_ : Int) + 1))).setCell ⟨w.heap.size, 0, none⟩ (.int .i64 1)).setCell ⟨w.heap.size, 1, none⟩ (.int .i64 c)).setCell ⟨w.heap.size, 2, none⟩ (.int .i64 0)).setCell ⟨w.heap.size, 3, none⟩ (.string ⟨#[]⟩)).setCell ⟨w.heap.size, 4, none⟩ (.slice none 0 0))
set_option maxHeartbeats 4000000 in
theorem atom_end {w : World} {d : Nat} {ys : List Int} {ere : Bool} {lead : List Int} {at_ : Nat} (h : PR w d ys ere lead at_) (n : Nat) (c : Int) :
    (atomW w d n at_ c).heap[w.heap.size]? = some (.cells #[.int .i64 1, .int .i64 c, .int .i64 0, .string ⟨#[]⟩, .slice none 0 0] 26 (0, 0)) ∧ PR (atomW w d n at_ c) d ys ere lead (at_ + 1) ∧ w.grownBy (atomW w d n at_ c) (some d) := by
  have hd : d < w.heap.size := (Array.getElem?_eq_some_iff.1 h.blk).1
  have hblk : ((w.alloc (.cells #[.int .i64 0, .int .i64 0, .int .i64 0, .string ⟨#[]⟩, .slice none 0 0] 26)).drewN n).heap[d]? = w.heap[d]? := Below.heap_alloc w _ d hd
  have hnew : ((w.alloc (.cells #[.int .i64 0, .int .i64 0, .int .i64 0, .string ⟨#[]⟩, .slice none 0 0] 26)).drewN n).heap[w.heap.size]? = some (.cells #[.int .i64 0, .int .i64 0, .int .i64 0, .string ⟨#[]⟩, .slice none 0 0] 26 (0, 0)) := heap_alloc_new w _
  refine ⟨?_, ⟨?_⟩, ?_, ?_, ?_, ?_, fun k hk hn => ?_⟩
  · exact five ((heap_setCell_other _ ⟨d, 3, none⟩ w.heap.size _ (by simp; omega)).trans hnew) _ _ _ _ _
  · unfold atomW
    rw [five_other _ _ _ (by omega)]
    have h3 := heap_setCell_same _ d 3 _ 63 (.int .i64 ((at_ : Int) + 1)) (hblk.trans h.blk)
    rw [show (((at_ + 1 : Nat) : Nat) : Int) = (at_ : Int) + 1 by omega]
    simpa using h3
  · rfl
  · unfold atomW; simp
  · rfl
  · unfold atomW
    simp
  · unfold atomW
    rw [five_other _ _ _ (by omega), heap_setCell_other _ ⟨d, 3, none⟩ k _ (fun e => hn (by simp [e]))]
    exact Below.heap_alloc w _ k hk

set_option maxHeartbeats 4000000 in
theorem atom_any (w : World) (d : Nat) (ys : List Int) (ere first : Bool) (at_ : Nat) (h : PR w d ys ere (leadOf ere) at_) (hl : ys.length ≤ 8) (hat : at_ < ys.length) (hy : ∀ y ∈ ys, Letter y) :
    Calls Tryz.prog 31 #[.pointer (some ⟨d, 0, none⟩), .bool false, .bool first] w fun e w' => e = .returned (.agg #[.int .i64 1, .int .i64 (ys.getD at_ 0), .int .i64 0, .string ⟨#[]⟩, .slice none 0 0]) ∧ PR w' d ys ere (leadOf ere) (at_ + 1) ∧ w.grownBy w' (some d) := by
  have HSe : Hid (∀ (W : World) (c : Int) (cs : List Int), (c = 92 ∨ c = 40) → cs.length ≤ 8 → PR W d ys ere (leadOf ere) at_ → Calls Tryz.prog 30 #[.pointer (some ⟨d, 0, none⟩), .string (strOfNums (c :: cs))] W fun e w' => e = .returned (.bool false) ∧ ∃ m, w' = W.drewN m) := hide (fun W c cs hc hcs hP => sees_no W d ys ere (leadOf ere) at_ hP hl (by omega) hy c cs (no_of (by omega)) hcs)
  have HP := hide h
  have c0 := h.c0
  have c1 := h.c1
  have c2 := h.c2
  have c3 := h.c3
  have f3 := h.fz 3
  have hd : d < w.heap.size := (Array.getElem?_eq_some_iff.1 h.blk).1
  have hL : Letter (ys.getD at_ 0) := hy _ (by rw [List.getD_eq_getElem?_getD, List.getElem?_eq_getElem hat]; exact List.getElem_mem hat)
  have hix : ∀ W : World, (Instr.index 9 (.string (strOfNums ys)) (.int .i64 (at_ : Int))).run Tryz.prog W = .ok (.int .u8 (ys.getD at_ 0)) W := by
    intro W
    have hlt : at_ < (strOfNums ys).size := by rw [strOfNums_size]; exact hat
    rw [run_index_string W 9 _ _ _ Tryz.underlying9, dif_pos ⟨by omega, by omega⟩]
    have hb : (strOfNums ys)[at_]'hlt = UInt8.ofNat (ys.getD at_ 0).toNat := by
      rw [List.getD_eq_getElem?_getD, List.getElem?_eq_getElem hat]
      show (strOfNums ys).data[at_]'hlt = _
      simp [strOfNums]
    have hr : (UInt8.ofNat (ys.getD at_ 0).toNat).toNat = (ys.getD at_ 0).toNat := by
      rcases hL with h | h | h | h | h <;> rw [h] <;> rfl
    have hz : ((ys.getD at_ 0).toNat : Int) = ys.getD at_ 0 := by
      rcases hL with h | h | h | h | h <;> rw [h] <;> rfl
    have e : ((at_ : Int)).toNat = at_ := by omega
    simp only [e]
    rw [hb, hr, hz]
  generalize ys.getD at_ 0 = c at hL hix
  have HI := hide (idx51 · c hL)
  clear h hy
  cases ere with
  | false =>
    have hld : strOfNums (leadOf false) ++ ⟨#[40]⟩ = strOfNums (92 :: [40]) := rfl
    rcases hL with rfl | rfl | rfl | rfl | rfl
    · go_enter Tryz.func31, Tryz.ntmps31
      go_wp2
      go_quiet (fail)
      go_wp2_with fail
      refine (HSe.out _ 92 [40] (by omega) (by simp) ?_).mono ?_
      · exact ⟨(Below.heap_alloc w _ d hd).trans HP.out.blk⟩
      rintro e w1 ⟨rfl, m1, rfl⟩
      have HE := hide (atom_end HP.out (nq + m1) 97)
      go_wp2
      exact bodyPost_ret (results_cell_row rfl _ _ w.heap.size 26 _ (0, 0) _ rfl HE.out.1 Tryz.underlying26 rfl (size26.trans (by simp))) rfl ⟨rfl, HE.out.2.1, HE.out.2.2⟩
    · go_enter Tryz.func31, Tryz.ntmps31
      go_wp2
      go_quiet (fail)
      go_wp2_with fail
      refine (HSe.out _ 92 [40] (by omega) (by simp) ?_).mono ?_
      · exact ⟨(Below.heap_alloc w _ d hd).trans HP.out.blk⟩
      rintro e w1 ⟨rfl, m1, rfl⟩
      have HE := hide (atom_end HP.out (nq + m1) 98)
      go_wp2
      exact bodyPost_ret (results_cell_row rfl _ _ w.heap.size 26 _ (0, 0) _ rfl HE.out.1 Tryz.underlying26 rfl (size26.trans (by simp))) rfl ⟨rfl, HE.out.2.1, HE.out.2.2⟩
    · go_enter Tryz.func31, Tryz.ntmps31
      go_wp2
      go_quiet (fail)
      go_wp2_with fail
      refine (HSe.out _ 92 [40] (by omega) (by simp) ?_).mono ?_
      · exact ⟨(Below.heap_alloc w _ d hd).trans HP.out.blk⟩
      rintro e w1 ⟨rfl, m1, rfl⟩
      have HE := hide (atom_end HP.out (nq + m1) 99)
      go_wp2
      exact bodyPost_ret (results_cell_row rfl _ _ w.heap.size 26 _ (0, 0) _ rfl HE.out.1 Tryz.underlying26 rfl (size26.trans (by simp))) rfl ⟨rfl, HE.out.2.1, HE.out.2.2⟩
    · go_enter Tryz.func31, Tryz.ntmps31
      go_wp2
      go_quiet (fail)
      go_wp2_with fail
      refine (HSe.out _ 92 [40] (by omega) (by simp) ?_).mono ?_
      · exact ⟨(Below.heap_alloc w _ d hd).trans HP.out.blk⟩
      rintro e w1 ⟨rfl, m1, rfl⟩
      have HE := hide (atom_end HP.out (nq + m1) 49)
      go_wp2
      exact bodyPost_ret (results_cell_row rfl _ _ w.heap.size 26 _ (0, 0) _ rfl HE.out.1 Tryz.underlying26 rfl (size26.trans (by simp))) rfl ⟨rfl, HE.out.2.1, HE.out.2.2⟩
    · go_enter Tryz.func31, Tryz.ntmps31
      go_wp2
      go_quiet (fail)
      go_wp2_with fail
      refine (HSe.out _ 92 [40] (by omega) (by simp) ?_).mono ?_
      · exact ⟨(Below.heap_alloc w _ d hd).trans HP.out.blk⟩
      rintro e w1 ⟨rfl, m1, rfl⟩
      have HE := hide (atom_end HP.out (nq + m1) 120)
      go_wp2
      exact bodyPost_ret (results_cell_row rfl _ _ w.heap.size 26 _ (0, 0) _ rfl HE.out.1 Tryz.underlying26 rfl (size26.trans (by simp))) rfl ⟨rfl, HE.out.2.1, HE.out.2.2⟩
  | true =>
    have hld : strOfNums (leadOf true) ++ ⟨#[40]⟩ = strOfNums (40 :: []) := rfl
    rcases hL with rfl | rfl | rfl | rfl | rfl
    · go_enter Tryz.func31, Tryz.ntmps31
      go_wp2
      go_quiet (fail)
      go_wp2_with fail
      refine (HSe.out _ 40 [] (by omega) (by simp) ?_).mono ?_
      · exact ⟨(Below.heap_alloc w _ d hd).trans HP.out.blk⟩
      rintro e w1 ⟨rfl, m1, rfl⟩
      have HE := hide (atom_end HP.out (nq + m1) 97)
      go_wp2_with fail
      refine (HI.out _).mono ?_
      rintro e w2 ⟨rfl, hw2⟩
      replace hw2 := hw2.symm
      subst hw2
      go_wp2
      exact bodyPost_ret (results_cell_row rfl _ _ w.heap.size 26 _ (0, 0) _ rfl HE.out.1 Tryz.underlying26 rfl (size26.trans (by simp))) rfl ⟨rfl, HE.out.2.1, HE.out.2.2⟩
    · go_enter Tryz.func31, Tryz.ntmps31
      go_wp2
      go_quiet (fail)
      go_wp2_with fail
      refine (HSe.out _ 40 [] (by omega) (by simp) ?_).mono ?_
      · exact ⟨(Below.heap_alloc w _ d hd).trans HP.out.blk⟩
      rintro e w1 ⟨rfl, m1, rfl⟩
      have HE := hide (atom_end HP.out (nq + m1) 98)
      go_wp2_with fail
      refine (HI.out _).mono ?_
      rintro e w2 ⟨rfl, hw2⟩
      replace hw2 := hw2.symm
      subst hw2
      go_wp2
      exact bodyPost_ret (results_cell_row rfl _ _ w.heap.size 26 _ (0, 0) _ rfl HE.out.1 Tryz.underlying26 rfl (size26.trans (by simp))) rfl ⟨rfl, HE.out.2.1, HE.out.2.2⟩
    · go_enter Tryz.func31, Tryz.ntmps31
      go_wp2
      go_quiet (fail)
      go_wp2_with fail
      refine (HSe.out _ 40 [] (by omega) (by simp) ?_).mono ?_
      · exact ⟨(Below.heap_alloc w _ d hd).trans HP.out.blk⟩
      rintro e w1 ⟨rfl, m1, rfl⟩
      have HE := hide (atom_end HP.out (nq + m1) 99)
      go_wp2_with fail
      refine (HI.out _).mono ?_
      rintro e w2 ⟨rfl, hw2⟩
      replace hw2 := hw2.symm
      subst hw2
      go_wp2
      exact bodyPost_ret (results_cell_row rfl _ _ w.heap.size 26 _ (0, 0) _ rfl HE.out.1 Tryz.underlying26 rfl (size26.trans (by simp))) rfl ⟨rfl, HE.out.2.1, HE.out.2.2⟩
    · go_enter Tryz.func31, Tryz.ntmps31
      go_wp2
      go_quiet (fail)
      go_wp2_with fail
      refine (HSe.out _ 40 [] (by omega) (by simp) ?_).mono ?_
      · exact ⟨(Below.heap_alloc w _ d hd).trans HP.out.blk⟩
      rintro e w1 ⟨rfl, m1, rfl⟩
      have HE := hide (atom_end HP.out (nq + m1) 49)
      go_wp2_with fail
      refine (HI.out _).mono ?_
      rintro e w2 ⟨rfl, hw2⟩
      replace hw2 := hw2.symm
      subst hw2
      go_wp2
      exact bodyPost_ret (results_cell_row rfl _ _ w.heap.size 26 _ (0, 0) _ rfl HE.out.1 Tryz.underlying26 rfl (size26.trans (by simp))) rfl ⟨rfl, HE.out.2.1, HE.out.2.2⟩
    · go_enter Tryz.func31, Tryz.ntmps31
      go_wp2
      go_quiet (fail)
      go_wp2_with fail
      refine (HSe.out _ 40 [] (by omega) (by simp) ?_).mono ?_
      · exact ⟨(Below.heap_alloc w _ d hd).trans HP.out.blk⟩
      rintro e w1 ⟨rfl, m1, rfl⟩
      have HE := hide (atom_end HP.out (nq + m1) 120)
      go_wp2_with fail
      refine (HI.out _).mono ?_
      rintro e w2 ⟨rfl, hw2⟩
      replace hw2 := hw2.symm
      subst hw2
      go_wp2
      exact bodyPost_ret (results_cell_row rfl _ _ w.heap.size 26 _ (0, 0) _ rfl HE.out.1 Tryz.underlying26 rfl (size26.trans (by simp))) rfl ⟨rfl, HE.out.2.1, HE.out.2.2⟩
end Go.Proofs.YtfpeajbfimodfaaGreatDoor.atom

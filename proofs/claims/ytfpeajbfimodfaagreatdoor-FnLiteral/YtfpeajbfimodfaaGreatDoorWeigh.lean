/- The tree of a text of letters is right. -/
import Derived.Test.YtfpeajbfimodfaaGreatDoorComp
import Derived.BigRegion
namespace Go.Proofs.YtfpeajbfimodfaaGreatDoor.weigh
open Go.ChangeShapes Go.WideShapes Go.ChangeAt Go.RowKit
open Go.Proofs.YtfpeajbfimodfaaGreatDoor.bytes Go.Proofs.YtfpeajbfimodfaaGreatDoor.pile Go.Proofs.YtfpeajbfimodfaaGreatDoor.src Go.Proofs.YtfpeajbfimodfaaGreatDoor.letters Go.Proofs.YtfpeajbfimodfaaGreatDoor.read Go.Proofs.YtfpeajbfimodfaaGreatDoor.atom Go.Proofs.YtfpeajbfimodfaaGreatDoor.pat Go.Proofs.YtfpeajbfimodfaaGreatDoor.comp
set_option linter.unusedVariables false

set_option maxHeartbeats 4000000 in
theorem row_char (w : World) (c : Nat) (y : Int) (h0 : 0 ≤ y) (h1 : y < 256) :
    Calls Tryz.prog 38 #[.pointer (some ⟨c, 0, none⟩), .agg #[.int .i64 1, .int .i64 y, .int .i64 0, .string ⟨#[]⟩, .slice none 0 0]] w fun e w' => e = .returned (.bool true) ∧ Below w.heap.size w w' := by
  go_enter Tryz.func38, Tryz.ntmps38
  go_wp2
  go_region
  go_wp2
  go_ret
  exact ⟨rfl, (((Below.refl _ _).alloc (Nat.le_refl _) _).alloc (by simp) _).drew⟩
set_option maxHeartbeats 4000000 in
theorem row_cat (w : World) (c g n cap : Nat) :
    Calls Tryz.prog 38 #[.pointer (some ⟨c, 0, none⟩), .agg #[.int .i64 7, .int .i64 0, .int .i64 0, .string ⟨#[]⟩, .slice (some ⟨g, 0, none⟩) n cap]] w fun e w' => e = .returned (.bool true) ∧ Below w.heap.size w w' := by
  go_enter Tryz.func38, Tryz.ntmps38
  go_wp2
  go_region
  go_wp2
  go_ret
  exact ⟨rfl, (((Below.refl _ _).alloc (Nat.le_refl _) _).alloc (by simp) _).drew⟩
theorem node_at {w : World} {base g cap : Nat} {ys : List Int} (h : w.ownsRow base 26 5 (.slice (some ⟨g, 0, none⟩) ys.length cap) ys.length (nodes ys)) (i : Nat) (hi : i < ys.length) : w.cell? ⟨g, 5 * i, none⟩ = some (.int .i64 1) ∧ w.cell? ⟨g, 5 * i + 1, none⟩ = some (.int .i64 (ys.getD i 0)) ∧ w.cell? ⟨g, 5 * i + 2, none⟩ = some (.int .i64 0) ∧ w.cell? ⟨g, 5 * i + 3, none⟩ = some (.string ⟨#[]⟩) ∧ w.cell? ⟨g, 5 * i + 4, none⟩ = some (.slice none 0 0) := by
  have key : ∀ (l : List Int) (i j : Nat), i < l.length → j < 5 → (nodes l)[5 * i + j]? = (nodeC (l.getD i 0))[j]? := by
    intro l
    induction l with
    | nil => intro i j hi; simp at hi
    | cons y l ih =>
      intro i j hi hj
      have e : nodes (y :: l) = nodeC y ++ nodes l := by simp [nodes]
      rw [e]
      cases i with
      | zero => rw [List.getElem?_append_left (by simp [nodeC]; omega)]; simp
      | succ i =>
        rw [List.getElem?_append_right (by simp [nodeC]; omega), show 5 * (i + 1) + j - (nodeC y).length = 5 * i + j by simp [nodeC]; omega, ih i j (by simpa using hi) hj]
        rfl
  have c : ∀ j, j < 5 → w.cell? ⟨g, 5 * i + j, none⟩ = (nodeC (ys.getD i 0))[j]? := fun j hj => (World.ownsRow.cellAt h (5 * i + j) (by omega)).trans (key ys i j hi hj)
  exact ⟨c 0 (by omega), c 1 (by omega), c 2 (by omega), c 3 (by omega), c 4 (by omega)⟩
/-- The check's counts in memory. -/
structure CK (w : World) (c : Nat) (n : Nat) : Prop where
  blk : w.heap[c]? = some (.cells #[.int .i64 n, .int .i64 0] 80 (0, 0))
theorem CK.c0 {w : World} {c n : Nat} (h : CK w c n) : w.cell? ⟨c, 0, none⟩ = some (.int .i64 n) := by simp [World.cell?, h.blk]
theorem CK.fz {w : World} {c n : Nat} (h : CK w c n) (i : Nat) : w.frozen? ⟨c, i, none⟩ = false := by simp [World.frozen?, h.blk]
theorem CK.lt {w : World} {c n : Nat} (h : CK w c n) : c < w.heap.size := (Array.getElem?_eq_some_iff.1 h.blk).1
theorem CK.below {w w' : World} {c n : Nat} (h : CK w c n) (hb : Below w.heap.size w w') : CK w' c n := ⟨(hb.block c h.lt).trans h.blk⟩
/-- One node more is counted, a copy of it made. -/
theorem CK.step {w : World} {c n : Nat} (h : CK w c n) (o : Obj) : CK ((w.setCell ⟨c, 0, none⟩ (.int .i64 ((n : Int) + 1))).alloc o) c (n + 1) ∧ w.grownBy ((w.setCell ⟨c, 0, none⟩ (.int .i64 ((n : Int) + 1))).alloc o) (some c) := by
  have hc := h.lt
  refine ⟨⟨?_⟩, rfl, rfl, rfl, by simp, fun k hk hn => ?_⟩
  · rw [Below.heap_alloc _ o c (by simpa using hc)]
    have h1 := heap_setCell_same _ c 0 _ 80 (.int .i64 ((n : Int) + 1)) h.blk
    rw [show (((n + 1 : Nat) : Nat) : Int) = (n : Int) + 1 by omega]
    simpa using h1
  · rw [Below.heap_alloc _ o k (by simpa using hk), heap_setCell_other _ ⟨c, 0, none⟩ k _ (fun e => hn (by simp [e]))]
set_option maxRecDepth 20000 in
set_option maxHeartbeats 4000000 in
theorem weigh_char (w : World) (c n : Nat) (y : Int) (h0 : 0 ≤ y) (h1 : y < 256) (h : CK w c n) (hn : n < 120) :
    Calls Tryz.prog 25 #[.pointer (some ⟨c, 0, none⟩), .agg #[.int .i64 1, .int .i64 y, .int .i64 0, .string ⟨#[]⟩, .slice none 0 0]] w fun e w' => e = .returned (.int .i64 1) ∧ CK w' c (n + 1) ∧ w.grownBy w' (some c) := by
  have k0 := h.c0
  have f0 := h.fz 0
  have hc := h.lt
  have HS := hide (h.step (.cells #[.int .i64 1, .int .i64 y, .int .i64 0, .string ⟨#[]⟩, .slice none 0 0] 26))
  have HR : Hid (∀ W, Calls Tryz.prog 38 #[.pointer (some ⟨c, 0, none⟩), .agg #[.int .i64 1, .int .i64 y, .int .i64 0, .string ⟨#[]⟩, .slice none 0 0]] W fun e w' => e = .returned (.bool true) ∧ Below W.heap.size W w') := hide (fun W => row_char W c y h0 h1)
  clear h
  go_enter Tryz.func25, Tryz.ntmps25
  go_wp2_with fail
  refine (HR.out _).mono ?_
  rintro e w1 ⟨rfl, B1⟩
  have hs1 := B1.size
  simp at hs1
  have hbox : w1.heap[w.heap.size]? = some (.cells #[.int .i64 1, .int .i64 y, .int .i64 0, .string ⟨#[]⟩, .slice none 0 0] 26 (0, 0)) := by
    rw [B1.block _ (by simp)]
    have hnw := heap_alloc_new (w.setCell ⟨c, 0, none⟩ (.int .i64 ((n : Int) + 1))) (.cells #[.int .i64 1, .int .i64 y, .int .i64 0, .string ⟨#[]⟩, .slice none 0 0] 26)
    rw [show (w.setCell ⟨c, 0, none⟩ (.int .i64 ((n : Int) + 1))).heap.size = w.heap.size by simp] at hnw
    exact hnw
  have b4 : w1.cell? ⟨w.heap.size, 4, none⟩ = some (.slice none 0 0) := by simp [World.cell?, hbox]
  have b0 : w1.cell? ⟨w.heap.size, 0, none⟩ = some (.int .i64 1) := by simp [World.cell?, hbox]
  have HF : Hid (CK w1 c (n + 1) ∧ w.grownBy w1 (some c)) := hide ⟨HS.out.1.below B1, grown_trans HS.out.2 ⟨B1.os, B1.tape, B1.output, B1.size, fun k hk _ => B1.block k hk⟩⟩
  clear HS HR B1 hbox k0 f0
  go_wp2
  go_loopw [5, 31] (fun wt iv wr => wt = .int .i64 1 ∧ iv = .int .i64 0 ∧ wr = w1) (fun _ _ _ => 0)
  case atStart => exact ⟨rfl, rfl, rfl⟩
  case round =>
    obtain ⟨rfl, rfl, hw9⟩ := hrel
    replace hw9 := hw9.symm
    subst hw9
    go_wp2
    go_ret
    exact ⟨rfl, HF.out.1, HF.out.2⟩

set_option maxRecDepth 20000 in
set_option maxHeartbeats 8000000 in
theorem weigh_cat (w : World) (c n g cap base : Nat) (ys : List Int) (hl : ys.length ≤ 8) (hy : ∀ y ∈ ys, Letter y) (h : CK w c n) (hn : n + 9 ≤ 120) (hrow : w.ownsRow base 26 5 (.slice (some ⟨g, 0, none⟩) ys.length cap) ys.length (nodes ys)) (hgc : g ≠ c) :
    Calls Tryz.prog 25 #[.pointer (some ⟨c, 0, none⟩), .agg #[.int .i64 7, .int .i64 0, .int .i64 0, .string ⟨#[]⟩, .slice (some ⟨g, 0, none⟩) ys.length cap]] w fun e w' => e = .returned (.int .i64 (1 + (ys.length : Int))) ∧ CK w' c (n + 1 + ys.length) ∧ w.grownBy w' (some c) := by
  have k0 := h.c0
  have f0 := h.fz 0
  have hc := h.lt
  have HS := hide (h.step (.cells #[.int .i64 7, .int .i64 0, .int .i64 0, .string ⟨#[]⟩, .slice (some ⟨g, 0, none⟩) ys.length cap] 26))
  have HR : Hid (∀ W, Calls Tryz.prog 38 #[.pointer (some ⟨c, 0, none⟩), .agg #[.int .i64 7, .int .i64 0, .int .i64 0, .string ⟨#[]⟩, .slice (some ⟨g, 0, none⟩) ys.length cap]] W fun e w' => e = .returned (.bool true) ∧ Below W.heap.size W w') := hide (fun W => row_cat W c g ys.length cap)
  have HN : Hid (∀ i, i < ys.length → w.cell? ⟨g, 5 * i, none⟩ = some (.int .i64 1) ∧ w.cell? ⟨g, 5 * i + 1, none⟩ = some (.int .i64 (ys.getD i 0)) ∧ w.cell? ⟨g, 5 * i + 2, none⟩ = some (.int .i64 0) ∧ w.cell? ⟨g, 5 * i + 3, none⟩ = some (.string ⟨#[]⟩) ∧ w.cell? ⟨g, 5 * i + 4, none⟩ = some (.slice none 0 0)) := hide (fun i hi => node_at hrow i hi)
  have hgl : ys.length = 0 ∨ g < w.heap.size := by
    by_cases h0 : ys.length = 0
    · exact .inl h0
    · exact .inr (World.ownsRow.lt hrow g rfl).2
  clear h hrow
  go_enter Tryz.func25, Tryz.ntmps25
  go_wp2_with fail
  refine (HR.out _).mono ?_
  rintro e w1 ⟨rfl, B1⟩
  have hs1 := B1.size
  simp at hs1
  have hbox : w1.heap[w.heap.size]? = some (.cells #[.int .i64 7, .int .i64 0, .int .i64 0, .string ⟨#[]⟩, .slice (some ⟨g, 0, none⟩) ys.length cap] 26 (0, 0)) := by
    rw [B1.block _ (by simp)]
    have hnw := heap_alloc_new (w.setCell ⟨c, 0, none⟩ (.int .i64 ((n : Int) + 1))) (.cells #[.int .i64 7, .int .i64 0, .int .i64 0, .string ⟨#[]⟩, .slice (some ⟨g, 0, none⟩) ys.length cap] 26)
    rw [show (w.setCell ⟨c, 0, none⟩ (.int .i64 ((n : Int) + 1))).heap.size = w.heap.size by simp] at hnw
    exact hnw
  have b4 : w1.cell? ⟨w.heap.size, 4, none⟩ = some (.slice (some ⟨g, 0, none⟩) ys.length cap) := by simp [World.cell?, hbox]
  have HF : Hid (CK w1 c (n + 1) ∧ w.grownBy w1 (some c) ∧ w1.cell? ⟨w.heap.size, 0, none⟩ = some (.int .i64 7) ∧ w.heap.size < w1.heap.size) := hide ⟨HS.out.1.below B1, grown_trans HS.out.2 ⟨B1.os, B1.tape, B1.output, B1.size, fun k hk _ => B1.block k hk⟩, by simp [World.cell?, hbox], by omega⟩
  clear HS HR B1 hbox k0 f0
  go_wp2
  go_loopw [5, 7, 8, 31] (fun wt k7 m8 iv wr => ∃ i : Nat, i ≤ ys.length ∧ wt = .int .i64 (1 + (i : Int)) ∧ iv = .int .i64 i ∧ Hid (CK wr c (n + 1 + i) ∧ w.grownBy wr (some c) ∧ wr.cell? ⟨w.heap.size, 0, none⟩ = some (.int .i64 7) ∧ w.heap.size < wr.heap.size)) (fun _ _ _ iv _ => ys.length - (intOf iv).toNat)
  case atStart => exact ⟨0, by omega, rfl, rfl, HF⟩
  case round =>
    obtain ⟨i, hi, rfl, rfl, HX⟩ := hrel
    clear HF
    by_cases hil : i < ys.length
    · have hgw : g < w.heap.size := by omega
      have hbg : wr.heap[g]? = w.heap[g]? := HX.out.2.1.block g hgw (by simp; exact hgc)
      obtain ⟨d0, d1, d2, d3, d4⟩ := HN.out i hil
      rw [Nat.mul_comm 5 i] at d0 d1 d2 d3 d4
      rw [← World.cell?_of_block (a := ⟨g, i * 5, none⟩) hbg] at d0
      rw [← World.cell?_of_block (a := ⟨g, i * 5 + 1, none⟩) hbg] at d1
      rw [← World.cell?_of_block (a := ⟨g, i * 5 + 2, none⟩) hbg] at d2
      rw [← World.cell?_of_block (a := ⟨g, i * 5 + 3, none⟩) hbg] at d3
      rw [← World.cell?_of_block (a := ⟨g, i * 5 + 4, none⟩) hbg] at d4
      have hL := hy (ys.getD i 0) (by rw [List.getD_eq_getElem?_getD, List.getElem?_eq_getElem hil]; exact List.getElem_mem hil)
      obtain ⟨y, hye⟩ : ∃ y, y = ys.getD i 0 := ⟨_, rfl⟩
      rw [← hye] at d1 hL
      clear hye
      have hy0 : 0 ≤ y ∧ y < 256 := by rcases hL with h | h | h | h | h <;> omega
      have HW := hide (fun W (hW : CK W c (n + 1 + i)) => weigh_char W c (n + 1 + i) y hy0.1 hy0.2 hW (by omega))
      go_wp2_with fail
      refine (HW.out _ ?_).mono ?_
      · exact ⟨(Below.heap_alloc wr _ c HX.out.1.lt).trans HX.out.1.blk⟩
      rintro e w5 ⟨rfl, hK5, hG5⟩
      have HX5 : Hid (CK w5 c (n + 1 + (i + 1)) ∧ w.grownBy w5 (some c) ∧ w5.cell? ⟨w.heap.size, 0, none⟩ = some (.int .i64 7) ∧ w.heap.size < w5.heap.size) := by
        have hcw := hc
        have hlw := HX.out.2.2.2
        have hs5 := hG5.size
        simp at hs5
        refine hide ⟨hK5, grown_trans HX.out.2.1 (grown_trans (World.grownBy_alloc wr _ (some c)) hG5), ?_, by omega⟩
        exact ((World.cell?_of_block (a := ⟨w.heap.size, 0, none⟩) ((hG5.block w.heap.size (by simp; omega) (by simp; omega)).trans (Below.heap_alloc wr _ w.heap.size hlw)))).trans HX.out.2.2.1
      clear HX hK5 hG5 HW d0 d1 d2 d3 d4 hbg
      go_wp2
      go_roundw
      case rel => exact ⟨i + 1, by omega, by go_num, by go_num, HX5⟩
      case measure => simp [intOf]; omega
    · obtain rfl : i = ys.length := by omega
      have b0 := HX.out.2.2.1
      go_wp2
      go_ret
      exact ⟨rfl, HX.out.1, HX.out.2.1⟩
end Go.Proofs.YtfpeajbfimodfaaGreatDoor.weigh

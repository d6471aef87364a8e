/- The laws' own helpers on slices of bytes: equal, copied. -/
import Derived.Test.YtkkildgdeagpeahBytes
namespace Go.Proofs.Ytkkildgdeagpeah.shelp
open Go.ChangeShapes Go.WideShapes Go.ChangeAt Go.RowKit
open Go.Proofs.Ytkkildgdeagpeah.bytes
set_option linter.unusedVariables false

set_option maxHeartbeats 400000 in
theorem eq_same (w : World) (a b : Value) (xs : List Int) (ha : Rd w a xs) (hb : Rd w b xs) :
    Calls Try.prog 10 #[a, b] w fun e w' => e = .returned (.bool true) ∧ ∃ n, w' = w.drewN n := by
  obtain ⟨ao, ca, rfl, ha1, ha2, hx, ha3⟩ := ha
  obtain ⟨bo, cb, rfl, hb1, hb2, _, hb3⟩ := hb
  unfold maxLen at ha2 hb2
  have hne : (((xs.length : Nat) : Int) != ((xs.length : Nat) : Int)) = false := by simp
  go_enter Try.func10, Try.ntmps10
  go_wp2
  go_loopw [5] (fun i wr => ∃ k m : Nat, k ≤ xs.length ∧ i = .int .i64 k ∧ wr = w.drewN m) (fun i _ => xs.length - (intOf i).toNat)
  case atStart => exact ⟨0, 0, by omega, rfl, rfl⟩
  case round =>
    obtain ⟨k, m, hk, rfl, rfl⟩ := hrel
    by_cases hlt : k < xs.length
    · obtain ⟨ab, aoff, rfl, hca⟩ := ha3 (by omega)
      obtain ⟨bb, boff, rfl, hcb⟩ := hb3 (by omega)
      have hca' := hca k hlt
      have hcb' := hcb k hlt
      clear hca hcb ha3 hb3
      go_wp2
      go_quiet (fail)
      go_wp2
      go_roundw
      case rel => exact ⟨k + 1, _, by omega, by go_num, rfl⟩
      case measure => simp [intOf]; omega
    · go_wp2
      go_ret
      exact ⟨rfl, m, rfl⟩
set_option maxHeartbeats 400000 in
theorem to_own (w : World) (a : Value) (xs : List Int) (hl : xs.length ≤ 281474976710656) (ha : Rd w a xs) :
    Calls Try.prog 8 #[a] w fun e w' => ∃ v, e = .returned v ∧ Own w' w.heap.size v xs ∧ Below w.heap.size w w' := by
  obtain ⟨ao, ca, rfl, ha1, ha2, hx, ha3⟩ := ha
  unfold maxLen at ha2
  obtain ⟨i0, hi, hz0, hz1, hz2⟩ := info_parts info5
  have HI : Hid (Try.prog.info? 5 = some i0 ∧ i0.zero = some (.int .u8 0) ∧ i0.size = 1 ∧ i0.bytes = 1) := ⟨hi, hz0, hz1, hz2⟩
  clear hi hz0 hz1 hz2
  go_enter Try.func8, Try.ntmps8
  go_wp2_with (at_make; refine wpList_make_full _ rfl _ _ 22 rfl w.heap.size 5 i0 (.int .u8 0) 1 Try.underlying22 HI.out.1 HI.out.2.1 HI.out.2.2.1 .i64 .i64 _ _ xs.length rfl rfl rfl rfl (by rw [HI.out.2.2.2]; omega) (by unfold maxLen; omega) (Nat.le_refl _) ?_; intro w1 hown1 hgrow1)
  rw [made_list] at hown1
  have HW : Hid (w1.ownsRow w.heap.size 5 1 (.slice (some ⟨w.heap.size, 0, none⟩) xs.length xs.length) xs.length ((xs.take 0 ++ List.replicate (xs.length - 0) (0 : Int)).map (Value.int .u8)) ∧ Below w.heap.size w w1) := by
    refine hide ⟨by simpa using hown1, (Below.refl _ _).grown hgrow1 (Nat.le_refl _) (by simp)⟩
  clear hown1 hgrow1 HI
  go_loopw [4] (fun i wr => ∃ k : Nat, k ≤ xs.length ∧ i = .int .i64 k ∧ Hid (wr.ownsRow w.heap.size 5 1 (.slice (some ⟨w.heap.size, 0, none⟩) xs.length xs.length) xs.length ((xs.take k ++ List.replicate (xs.length - k) (0 : Int)).map (Value.int .u8)) ∧ Below w.heap.size w wr)) (fun i _ => xs.length - (intOf i).toNat)
  case atStart => exact ⟨0, by omega, rfl, HW⟩
  case round =>
    clear HW
    obtain ⟨k, hk, rfl, HR⟩ := hrel
    by_cases hlt : k < xs.length
    · obtain ⟨ab, aoff, rfl, hca⟩ := ha3 (by omega)
      obtain ⟨hown, hbel⟩ := HR.out
      have hck := hca k hlt
      have hca' : wr.cell? ⟨ab, aoff + k, none⟩ = some (.int .u8 (xs.getD k 0)) := (hbel.cell (cell_lt hck)).trans hck
      have hcell := World.ownsRow.cellAt hown k (by omega)
      have hfz := World.ownsRow.frozenAt hown k
      have hst := World.ownsRow.stored hown k (.int .u8 (xs.getD k 0))
      have HS : Hid ((wr.setCell ⟨w.heap.size, k, none⟩ (.int .u8 (xs.getD k 0))).ownsRow w.heap.size 5 1 (.slice (some ⟨w.heap.size, 0, none⟩) xs.length xs.length) xs.length ((xs.take (k + 1) ++ List.replicate (xs.length - (k + 1)) (0 : Int)).map (Value.int .u8)) ∧ Below w.heap.size w (wr.setCell ⟨w.heap.size, k, none⟩ (.int .u8 (xs.getD k 0)))) := by
        refine hide ⟨?_, hbel.setCell (Nat.le_refl _) _⟩
        have := hst.1
        rw [← List.map_set, copy_set xs k _ hlt rfl] at this
        exact this
      have hcell' : ∃ u, wr.cell? ⟨w.heap.size, k, none⟩ = some (.int .u8 u) := ⟨(xs.take k ++ List.replicate (xs.length - k) 0).getD k 0, by
        rw [hcell, List.getElem?_map, List.getD_eq_getElem?_getD]
        have hl : k < (xs.take k ++ List.replicate (xs.length - k) (0 : Int)).length := by simp; omega
        rw [List.getElem?_eq_getElem hl]; rfl⟩
      obtain ⟨u, hcu⟩ := hcell'
      clear hst hown hbel HR hcell hca ha3 hck
      generalize xs.getD k 0 = x at hca' HS
      go_wp2
      go_roundw
      case rel => exact ⟨k + 1, by omega, by go_num, HS⟩
      case measure => simp [intOf]; omega
    · have hkn : k = xs.length := by omega
      go_wp2
      go_ret
      refine ⟨_, rfl, ⟨hx, ?_⟩, HR.out.2⟩
      have := HR.out.1
      rw [hkn, List.take_length, Nat.sub_self, List.replicate_zero, List.append_nil] at this
      exact this
end Go.Proofs.Ytkkildgdeagpeah.shelp

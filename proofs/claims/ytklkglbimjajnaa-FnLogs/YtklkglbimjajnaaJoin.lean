/- Contract of the function that makes new bytes of pieces, one behind the other. -/
import Derived.Test.YtklkglbimjajnaaPile
namespace Go.Proofs.Ytklkglbimjajnaa.join
open Go.ChangeShapes Go.WideShapes Go.ChangeAt Go.RowKit
open Go.Proofs.Ytklkglbimjajnaa.bytes Go.Proofs.Ytklkglbimjajnaa.pile
set_option linter.unusedVariables false

set_option maxHeartbeats 800000 in
theorem join_own (w : World) (p : Value) (us : List Value) (xss : List (List Int)) (hp : RdS w p us) (ht : Texts w us xss) (hl : xss.flatten.length ≤ 140737488355328) :
    Calls Try.prog 97 #[p] w fun e w' => ∃ v, e = .returned v ∧ Own w' w.heap.size v xss.flatten ∧ Below w.heap.size w w' := by
  have HP : Hid (RdS w p us ∧ Texts w us xss) := ⟨hp, ht⟩
  obtain ⟨T, hT⟩ : ∃ T, T = xss.flatten.length := ⟨_, rfl⟩
  have HT : Hid (T = xss.flatten.length) := hT
  rw [← hT] at hl
  clear hT
  have hlu := ht.1
  obtain ⟨ao, ca, rfl, ha1, ha2, ha3⟩ := hp
  unfold maxLen at ha2
  obtain ⟨i0, hi, hz0, hz1, hz2⟩ := info_parts info5
  have HI : Hid (Try.prog.info? 5 = some i0 ∧ i0.zero = some (.int .u8 0) ∧ i0.size = 1 ∧ i0.bytes = 1) := ⟨hi, hz0, hz1, hz2⟩
  clear hi hz0 hz1 hz2
  have HLU : Hid (us.length = xss.length) := hlu
  clear hlu ht
  go_enter Try.func97, Try.ntmps97
  go_wp2
  go_loop [3, 11] (fun s i => ∃ k : Nat, k ≤ us.length ∧ i = .int .i64 k ∧ s = .int .i64 (sizeTo xss k)) (fun _ i => us.length - (intOf i).toNat)
  case atStart => exact ⟨0, by omega, rfl, by simp [sizeTo]⟩
  case round =>
    obtain ⟨k, hk, rfl, rfl⟩ := hrel
    have hsz : sizeTo xss k ≤ T := by rw [HT.out]; exact sizeTo_le xss k
    by_cases hlt : k < us.length
    · obtain ⟨ab, aoff, rfl, hca⟩ := ha3 (by omega)
      have hc := hca k hlt
      have hs1 := sizeTo_succ (xss := xss) (k := k) (by rw [← HLU.out]; exact hlt)
      have hs2 : sizeTo xss (k + 1) ≤ T := by rw [HT.out]; exact sizeTo_le xss (k + 1)
      have hbnd : sizeTo xss k + (xss.getD k []).length ≤ 140737488355328 := by omega
      have HS : Hid (sizeTo xss (k + 1) = sizeTo xss k + (xss.getD k []).length) := hs1
      obtain ⟨⟨bo, cb, he, _⟩, _⟩ := HP.out.2.2 k hlt
      rw [he] at hc
      clear hs1 hs2 he hca ha3
      generalize (xss.getD k []).length = L at hc hbnd HS
      generalize sizeTo xss k = S at hsz hbnd HS
      go_wp2
      go_round
      case rel => exact ⟨k + 1, by omega, by go_num, by rw [HS.out]; go_num⟩
      case measure => simp [intOf]; omega
    · have hkk : sizeTo xss k = T := by
        rw [HT.out]
        unfold sizeTo
        rw [List.take_of_length_le (by rw [← HLU.out]; omega)]
      rw [hkk]
      clear hkk hsz
      go_wp2_with (at_make; refine wpList_make_own _ rfl _ _ 22 rfl w.heap.size 5 i0 (.int .u8 0) 1 Try.underlying22 HI.out.1 HI.out.2.1 HI.out.2.2.1 .i64 .i64 _ T rfl rfl rfl (by rw [HI.out.2.2.2]; omega) (by unfold maxLen; omega) (Nat.le_refl _) ?_; intro w1 hown1 hgrow1)
      have HW : Hid (Own w1 w.heap.size (.slice (some ⟨w.heap.size, 0, none⟩) 0 T) [] ∧ Below w.heap.size w w1) :=
        hide ⟨⟨by simp, hown1⟩, (Below.refl _ _).grown hgrow1 (Nat.le_refl _) (by simp)⟩
      clear hown1 hgrow1 HI
      go_loopw [6, 24] (fun v i wr => ∃ k : Nat, k ≤ us.length ∧ i = .int .i64 k ∧ Hid (Own wr w.heap.size v (xss.take k).flatten ∧ Below w.heap.size w wr)) (fun _ i _ => us.length - (intOf i).toNat)
      case atStart => exact ⟨0, by omega, rfl, HW⟩
      case round =>
        clear HW
        obtain ⟨k, hk, rfl, HR⟩ := hrel
        by_cases hlt : k < us.length
        · obtain ⟨ab, aoff, rfl, hca⟩ := ha3 (by omega)
          have hck := hca k hlt
          have hc : wr.cell? ⟨ab, aoff + k, none⟩ = some (us.getD k (.slice none 0 0)) := (HR.out.2.cell (cell_lt hck)).trans hck
          have HA : Hid (RdA wr (us.getD k (.slice none 0 0)) (xss.getD k [])) := (HP.out.2.2 k hlt).below HR.out.2 (Nat.le_refl _)
          have hs1 := flat_succ (xss := xss) (k := k) (by rw [← HLU.out]; exact hlt)
          have HS : Hid ((xss.take (k + 1)).flatten = (xss.take k).flatten ++ xss.getD k []) := hs1
          have hbnd : (xss.take k).flatten.length + (xss.getD k []).length ≤ 140737488355328 := by
            have := sizeTo_le xss (k + 1)
            rw [← HT.out, sizeTo, hs1, List.length_append] at this
            omega
          have HB : Hid ((xss.take k).flatten.length + (xss.getD k []).length ≤ 140737488355328) := hbnd
          have hsz := HR.out.2.size
          clear hs1 hca ha3 hck hbnd
          generalize us.getD k (.slice none 0 0) = u at hc HA
          generalize xss.getD k [] = ys at HA HS HB
          go_wp2_with (at_builtin; refine wpList_append_rd _ rfl _ _ 22 rfl Try.underlying22 info5 w.heap.size _ _ rfl HR.out.1 u ys rfl HA.out HB.out hsz ?_; intro v' w2 hown2 hgrow2)
          go_roundw
          case rel => exact ⟨k + 1, by omega, by go_num, hide ⟨by rw [HS.out]; exact hown2, HR.out.2.grown hgrow2 hsz (fun j hj => (HR.out.1.lt j hj).1)⟩⟩
          case measure => simp [intOf]; omega
        · go_wp2
          go_ret
          have hfin := HR.out
          rw [List.take_of_length_le (by rw [← HLU.out]; omega)] at hfin
          exact ⟨_, rfl, hfin.1, hfin.2⟩
end Go.Proofs.Ytklkglbimjajnaa.join

/- A number's text: the specification's side. -/
import Derived.Test.YtolmngfjdcoapaaDoorPhr
namespace Go.Proofs.YtolmngfjdcoapaaDoor.snum
open Go.ChangeShapes Go.WideShapes Go.ChangeAt Go.RowKit
open Go.Proofs.YtolmngfjdcoapaaDoor.bytes Go.Proofs.YtolmngfjdcoapaaDoor.pile Go.Proofs.YtolmngfjdcoapaaDoor.jhelp Go.Proofs.YtolmngfjdcoapaaDoor.num Go.Proofs.YtolmngfjdcoapaaDoor.phr
set_option linter.unusedVariables false
theorem dv_app : ∀ (a b : List UInt8) (acc : Nat), dv acc (a ++ b) = (dv acc a).bind fun u => dv u b
  | [], b, acc => rfl
  | c :: a, b, acc => by
    simp only [List.cons_append, dv]
    split
    · exact dv_app a b _
    · rfl
theorem size_len (X : ByteArray) : X.data.toList.length = X.size := rfl
theorem at_list (X : ByteArray) (k : Nat) (h : k < X.size) : X.data.toList[k]? = some (X[k]'h) := by
  rw [Array.getElem?_toList, Array.getElem?_eq_getElem h]
  rfl
theorem head_list (X : ByteArray) (h : 0 < X.size) : X.data.toList.head? = some (X[0]'h) := by rw [List.head?_eq_getElem?]; exact at_list X 0 h
theorem take_next (X : ByteArray) (k : Nat) (h : k < X.size) : X.data.toList.take (k + 1) = X.data.toList.take k ++ [X[k]'h] := by rw [List.take_add_one, at_list X k h]; rfl
/-- One more digit. -/
theorem dv_next (X : ByteArray) (k acc : Nat) (h : k < X.size) (hd : dv 0 (X.data.toList.take k) = some acc) (h1 : 48 ≤ (X[k]'h).toNat) (h2 : (X[k]'h).toNat ≤ 57) : dv 0 (X.data.toList.take (k + 1)) = some (acc * 10 + ((X[k]'h).toNat - 48)) := by
  rw [take_next X k h, dv_snoc, hd, Option.bind_some, if_pos ⟨h1, h2⟩]
theorem dv_stop (X : ByteArray) (k acc : Nat) (h : k < X.size) (hd : dv 0 (X.data.toList.take k) = some acc) (h1 : ¬ (48 ≤ (X[k]'h).toNat ∧ (X[k]'h).toNat ≤ 57)) : dv 0 X.data.toList = none := by
  conv => lhs; rw [← List.take_append_drop (k + 1) X.data.toList]
  rw [dv_app, take_next X k h, dv_snoc, hd, Option.bind_some, if_neg h1]
  rfl
theorem mag_none (neg : Bool) (X : ByteArray) (h : X.size = 0 ∨ 18 < X.size ∨ (∃ h0 : 0 < X.size, (X[0]'h0).toNat = 48 ∧ (1 < X.size ∨ neg = true))) : mag neg X.data.toList = none := by
  unfold mag
  rw [if_pos]
  rcases h with h | h | ⟨h0, h1, h2⟩
  · exact .inl h
  · exact .inr (.inl h)
  · exact .inr (.inr ⟨by rw [head_list X h0]; congr 1; exact UInt8.toNat_inj.1 h1, h2⟩)
theorem mag_dv (neg : Bool) (X : ByteArray) (h0 : 0 < X.size) (h1 : X.size ≤ 18) (h2 : (X[0]'h0).toNat = 48 → X.size = 1 ∧ neg = false) : mag neg X.data.toList = dv 0 X.data.toList := by
  unfold mag
  rw [if_neg]
  rintro (h | h | ⟨h, h'⟩)
  · rw [size_len] at h; omega
  · rw [size_len] at h; omega
  · rw [head_list X h0] at h
    obtain ⟨e1, e2⟩ := h2 (by rw [Option.some.inj h]; rfl)
    rw [size_len, e1, e2] at h'
    simp at h'
set_option maxHeartbeats 1600000 in
theorem neg (w : World) (s : ByteArray) (hs : s.size < 4294967281) (h0 : 0 < s.size) (h45 : (((s[0]'h0).toNat : Int) == 45) = true) (r : ByteArray) (hr : s.extract 1 s.size = r) (hrs : r.size = s.size - 1) (hnum : numS s.data.toList = (mag true r.data.toList).map (fun (u : Nat) => -(u : Int))) :
    Calls Tryd.prog 12 #[.string s] w fun e w' => e = .returned (.tuple #[.int .i64 ((numS s.data.toList).getD 0), .bool (numS s.data.toList).isSome]) ∧ w' = w := by
  obtain ⟨M, hM⟩ : ∃ M, mag true r.data.toList = M := ⟨_, rfl⟩
  rw [hM] at hnum
  by_cases hz : r.size = 0
  · have hMn : M = none := by rw [← hM]; exact mag_none _ _ (.inl hz)
    subst hMn
    rw [hnum]
    clear hnum hM
    go_enter Tryd.func12, Tryd.ntmps12
    go_wp2
    go_ret2
    exact ⟨rfl, rfl⟩
  by_cases hb : 18 < r.size
  · have hMn : M = none := by rw [← hM]; exact mag_none _ _ (.inr (.inl hb))
    subst hMn
    rw [hnum]
    clear hnum hM
    go_enter Tryd.func12, Tryd.ntmps12
    go_wp2
    go_ret2
    exact ⟨rfl, rfl⟩
  have hp : 0 < r.size := by omega
  obtain ⟨c0, hc0⟩ : ∃ c0, (r[0]'hp).toNat = c0 := ⟨_, rfl⟩
  by_cases hq : c0 = 48 
  · have hMn : M = none := by rw [← hM]; exact mag_none _ _ (.inr (.inr ⟨hp, by omega, by simp; try omega⟩))
    subst hMn
    rw [hnum]
    clear hnum hM
    have hq1 : ((c0 : Int) == 48) = true := by simp; omega
    by_cases hl1 : 1 < r.size
    · go_enter Tryd.func12, Tryd.ntmps12
      go_wp2
      go_ret2
      exact ⟨rfl, rfl⟩
    · go_enter Tryd.func12, Tryd.ntmps12
      go_wp2
      go_ret2
      exact ⟨rfl, rfl⟩
  have hMd : M = dv 0 r.data.toList := by rw [← hM]; exact mag_dv _ _ hp (by omega) (fun e => by rw [hc0] at e; exact absurd e hq)
  subst hMd
  clear hM
  have HD : Hid (∀ (k acc : Nat) (h : k < r.size), dv 0 (r.data.toList.take k) = some acc → (48 ≤ (r[k]'h).toNat → (r[k]'h).toNat ≤ 57 → dv 0 (r.data.toList.take (k + 1)) = some (acc * 10 + ((r[k]'h).toNat - 48))) ∧ (¬ (48 ≤ (r[k]'h).toNat ∧ (r[k]'h).toNat ≤ 57) → dv 0 r.data.toList = none)) := fun k acc h hd => ⟨dv_next r k acc h hd, dv_stop r k acc h hd⟩
  have HT : Hid (r.data.toList.take r.size = r.data.toList) := List.take_length
  have hnum' : Hid (numS s.data.toList = (dv 0 r.data.toList).map (fun (u : Nat) => -(u : Int))) := hnum
  clear hnum
  have ht1 : (((s.size - 1 : Nat) : Int) == 0) = false := by rw [beq_eq_false_iff_ne]; omega
  have ht2 : decide (18 < ((s.size - 1 : Nat) : Int)) = false := by simp; omega
  have hq1 : ((c0 : Int) == 48) = false := by simp; omega
  go_enter Tryd.func12, Tryd.ntmps12
  go_wp2
  go_loop [5, 6] (fun v i => ∃ k acc : Nat, k ≤ r.size ∧ i = .int .i64 k ∧ v = .int .i64 acc ∧ acc < 10 ^ k ∧ Hid (dv 0 (r.data.toList.take k) = some acc)) (fun _ i => r.size - (intOf i).toNat)
  case atStart => exact ⟨0, 0, by omega, rfl, rfl, by simp, hide rfl⟩
  case round =>
    obtain ⟨k, acc, hk, rfl, rfl, hacc, Hdv⟩ := hrel
    by_cases hlt : k < r.size
    · have hacc' : acc < 100000000000000000 := Nat.lt_of_lt_of_le hacc (Nat.pow_le_pow_right (n := 10) (by decide) (show k ≤ 17 by omega))
      obtain ⟨hd1, hd2⟩ := HD.out k acc hlt Hdv.out
      obtain ⟨c, hc⟩ : ∃ c, (r[k]'hlt).toNat = c := ⟨_, rfl⟩
      have hc256 : c < 256 := by rw [← hc]; exact UInt8.toNat_lt _
      rw [hc] at hd1 hd2
      by_cases hdig : 48 ≤ c ∧ c ≤ 57
      · have Hd1 : Hid (dv 0 (r.data.toList.take (k + 1)) = some (acc * 10 + (c - 48))) := hd1 hdig.1 hdig.2
        have hcl : ¬ ((c : Int) < 48) := by omega
        have hcg : ¬ ((57 : Int) < c) := by omega
        clear hd1 hd2 HD HT hnum'
        go_wp2
        go_round
        case rel => exact ⟨k + 1, acc * 10 + (c - 48), by omega, by go_num, by go_num, by rw [Nat.pow_succ]; omega, Hd1⟩
        case measure => simp [intOf]; omega
      · have hnn : Hid (numS s.data.toList = none) := by rw [show numS s.data.toList = _ from hnum'.out, hd2 hdig]; rfl
        clear hd1 hd2 HD HT
        by_cases hcl : (c : Int) < 48
        · go_wp2
          go_ret2
          rw [hnn.out]
          exact ⟨rfl, rfl⟩
        · have hcg : (57 : Int) < c := by omega
          go_wp2
          go_ret2
          rw [hnn.out]
          exact ⟨rfl, rfl⟩
    · have hkn : k = r.size := by omega
      subst hkn
      have hacc' : acc < 1000000000000000000 := Nat.lt_of_lt_of_le hacc (Nat.pow_le_pow_right (n := 10) (by decide) (show r.size ≤ 18 by omega))
      have hnn : Hid (numS s.data.toList = some (-(acc : Int))) := by
        have := Hdv.out
        rw [HT.out] at this
        rw [show numS s.data.toList = _ from hnum'.out, this]
        rfl
      clear HD HT hnum'
      go_wp2
      go_ret2
      rw [hnn.out]
      refine ⟨?_, rfl⟩
      simp
set_option maxHeartbeats 1600000 in
theorem pos (w : World) (s : ByteArray) (hs : s.size < 4294967281) (h0 : 0 < s.size) (h45 : (((s[0]'h0).toNat : Int) == 45) = false) (hnum : numS s.data.toList = (mag false s.data.toList).map (fun (u : Nat) => (u : Int))) :
    Calls Tryd.prog 12 #[.string s] w fun e w' => e = .returned (.tuple #[.int .i64 ((numS s.data.toList).getD 0), .bool (numS s.data.toList).isSome]) ∧ w' = w := by
  obtain ⟨M, hM⟩ : ∃ M, mag false s.data.toList = M := ⟨_, rfl⟩
  rw [hM] at hnum
  by_cases hz : s.size = 0
  · have hMn : M = none := by rw [← hM]; exact mag_none _ _ (.inl hz)
    subst hMn
    rw [hnum]
    clear hnum hM
    go_enter Tryd.func12, Tryd.ntmps12
    go_wp2
    go_ret2
    exact ⟨rfl, rfl⟩
  by_cases hb : 18 < s.size
  · have hMn : M = none := by rw [← hM]; exact mag_none _ _ (.inr (.inl hb))
    subst hMn
    rw [hnum]
    clear hnum hM
    go_enter Tryd.func12, Tryd.ntmps12
    go_wp2
    go_ret2
    exact ⟨rfl, rfl⟩
  have hp : 0 < s.size := by omega
  obtain ⟨c0, hc0⟩ : ∃ c0, (s[0]'hp).toNat = c0 := ⟨_, rfl⟩
  by_cases hq : c0 = 48 ∧ 1 < s.size
  · have hMn : M = none := by rw [← hM]; exact mag_none _ _ (.inr (.inr ⟨hp, by omega, by simp; try omega⟩))
    subst hMn
    rw [hnum]
    clear hnum hM
    have hq1 : ((c0 : Int) == 48) = true := by simp; omega
    go_enter Tryd.func12, Tryd.ntmps12
    go_wp2
    go_ret2
    exact ⟨rfl, rfl⟩
  have hMd : M = dv 0 s.data.toList := by rw [← hM]; exact mag_dv _ _ hp (by omega) (fun e => by rw [hc0] at e; exact ⟨by omega, rfl⟩)
  subst hMd
  clear hM
  have HD : Hid (∀ (k acc : Nat) (h : k < s.size), dv 0 (s.data.toList.take k) = some acc → (48 ≤ (s[k]'h).toNat → (s[k]'h).toNat ≤ 57 → dv 0 (s.data.toList.take (k + 1)) = some (acc * 10 + ((s[k]'h).toNat - 48))) ∧ (¬ (48 ≤ (s[k]'h).toNat ∧ (s[k]'h).toNat ≤ 57) → dv 0 s.data.toList = none)) := fun k acc h hd => ⟨dv_next s k acc h hd, dv_stop s k acc h hd⟩
  have HT : Hid (s.data.toList.take s.size = s.data.toList) := List.take_length
  have hnum' : Hid (numS s.data.toList = (dv 0 s.data.toList).map (fun (u : Nat) => (u : Int))) := hnum
  clear hnum
  have ht1 : ((s.size : Int) == 0) = false := by rw [beq_eq_false_iff_ne]; omega
  have ht2 : decide (18 < (s.size : Int)) = false := by simp; omega
  by_cases hq0 : c0 = 48
  · have hq1 : ((c0 : Int) == 48) = true := by simp; omega
    have hz1 : s.size = 1 := by omega
    go_enter Tryd.func12, Tryd.ntmps12
    go_wp2
    go_loop [5, 6] (fun v i => ∃ k acc : Nat, k ≤ s.size ∧ i = .int .i64 k ∧ v = .int .i64 acc ∧ acc < 10 ^ k ∧ Hid (dv 0 (s.data.toList.take k) = some acc)) (fun _ i => s.size - (intOf i).toNat)
    case atStart => exact ⟨0, 0, by omega, rfl, rfl, by simp, hide rfl⟩
    case round =>
      obtain ⟨k, acc, hk, rfl, rfl, hacc, Hdv⟩ := hrel
      by_cases hlt : k < s.size
      · have hacc' : acc < 100000000000000000 := Nat.lt_of_lt_of_le hacc (Nat.pow_le_pow_right (n := 10) (by decide) (show k ≤ 17 by omega))
        obtain ⟨hd1, hd2⟩ := HD.out k acc hlt Hdv.out
        obtain ⟨c, hc⟩ : ∃ c, (s[k]'hlt).toNat = c := ⟨_, rfl⟩
        have hc256 : c < 256 := by rw [← hc]; exact UInt8.toNat_lt _
        rw [hc] at hd1 hd2
        by_cases hdig : 48 ≤ c ∧ c ≤ 57
        · have Hd1 : Hid (dv 0 (s.data.toList.take (k + 1)) = some (acc * 10 + (c - 48))) := hd1 hdig.1 hdig.2
          have hcl : ¬ ((c : Int) < 48) := by omega
          have hcg : ¬ ((57 : Int) < c) := by omega
          clear hd1 hd2 HD HT hnum'
          go_wp2
          go_round
          case rel => exact ⟨k + 1, acc * 10 + (c - 48), by omega, by go_num, by go_num, by rw [Nat.pow_succ]; omega, Hd1⟩
          case measure => simp [intOf]; omega
        · have hnn : Hid (numS s.data.toList = none) := by rw [show numS s.data.toList = _ from hnum'.out, hd2 hdig]; rfl
          clear hd1 hd2 HD HT
          by_cases hcl : (c : Int) < 48
          · go_wp2
            go_ret2
            rw [hnn.out]
            exact ⟨rfl, rfl⟩
          · have hcg : (57 : Int) < c := by omega
            go_wp2
            go_ret2
            rw [hnn.out]
            exact ⟨rfl, rfl⟩
      · have hkn : k = s.size := by omega
        subst hkn
        have hacc' : acc < 1000000000000000000 := Nat.lt_of_lt_of_le hacc (Nat.pow_le_pow_right (n := 10) (by decide) (show s.size ≤ 18 by omega))
        have hnn : Hid (numS s.data.toList = some ((acc : Int))) := by
          have := Hdv.out
          rw [HT.out] at this
          rw [show numS s.data.toList = _ from hnum'.out, this]
          rfl
        clear HD HT hnum'
        go_wp2
        go_ret2
        rw [hnn.out]
        refine ⟨?_, rfl⟩
        simp
  · have hq1 : ((c0 : Int) == 48) = false := by simp; omega
    go_enter Tryd.func12, Tryd.ntmps12
    go_wp2
    go_loop [5, 6] (fun v i => ∃ k acc : Nat, k ≤ s.size ∧ i = .int .i64 k ∧ v = .int .i64 acc ∧ acc < 10 ^ k ∧ Hid (dv 0 (s.data.toList.take k) = some acc)) (fun _ i => s.size - (intOf i).toNat)
    case atStart => exact ⟨0, 0, by omega, rfl, rfl, by simp, hide rfl⟩
    case round =>
      obtain ⟨k, acc, hk, rfl, rfl, hacc, Hdv⟩ := hrel
      by_cases hlt : k < s.size
      · have hacc' : acc < 100000000000000000 := Nat.lt_of_lt_of_le hacc (Nat.pow_le_pow_right (n := 10) (by decide) (show k ≤ 17 by omega))
        obtain ⟨hd1, hd2⟩ := HD.out k acc hlt Hdv.out
        obtain ⟨c, hc⟩ : ∃ c, (s[k]'hlt).toNat = c := ⟨_, rfl⟩
        have hc256 : c < 256 := by rw [← hc]; exact UInt8.toNat_lt _
        rw [hc] at hd1 hd2
        by_cases hdig : 48 ≤ c ∧ c ≤ 57
        · have Hd1 : Hid (dv 0 (s.data.toList.take (k + 1)) = some (acc * 10 + (c - 48))) := hd1 hdig.1 hdig.2
          have hcl : ¬ ((c : Int) < 48) := by omega
          have hcg : ¬ ((57 : Int) < c) := by omega
          clear hd1 hd2 HD HT hnum'
          go_wp2
          go_round
          case rel => exact ⟨k + 1, acc * 10 + (c - 48), by omega, by go_num, by go_num, by rw [Nat.pow_succ]; omega, Hd1⟩
          case measure => simp [intOf]; omega
        · have hnn : Hid (numS s.data.toList = none) := by rw [show numS s.data.toList = _ from hnum'.out, hd2 hdig]; rfl
          clear hd1 hd2 HD HT
          by_cases hcl : (c : Int) < 48
          · go_wp2
            go_ret2
            rw [hnn.out]
            exact ⟨rfl, rfl⟩
          · have hcg : (57 : Int) < c := by omega
            go_wp2
            go_ret2
            rw [hnn.out]
            exact ⟨rfl, rfl⟩
      · have hkn : k = s.size := by omega
        subst hkn
        have hacc' : acc < 1000000000000000000 := Nat.lt_of_lt_of_le hacc (Nat.pow_le_pow_right (n := 10) (by decide) (show s.size ≤ 18 by omega))
        have hnn : Hid (numS s.data.toList = some ((acc : Int))) := by
          have := Hdv.out
          rw [HT.out] at this
          rw [show numS s.data.toList = _ from hnum'.out, this]
          rfl
        clear HD HT hnum'
        go_wp2
        go_ret2
        rw [hnn.out]
        refine ⟨?_, rfl⟩
        simp
set_option maxHeartbeats 800000 in
theorem number_any (w : World) (s : ByteArray) (hs : s.size < 4294967281) :
    Calls Tryd.prog 12 #[.string s] w fun e w' => e = .returned (.tuple #[.int .i64 ((numS s.data.toList).getD 0), .bool (numS s.data.toList).isSome]) ∧ w' = w := by
  by_cases h0 : 0 < s.size
  · by_cases h45 : (s[0]'h0).toNat = 45
    · have he : s.data.toList.head? = some 45 := by rw [head_list s h0]; congr 1; exact UInt8.toNat_inj.1 h45
      refine neg w s hs h0 (by simp [h45]) (s.extract 1 s.size) rfl (by simp) ?_
      have ht : (s.extract 1 s.size).data.toList = s.data.toList.tail := by
        rw [ByteArray.data_extract, Array.toList_extract]
        rw [List.extract_eq_take_drop, List.drop_one]
        exact List.take_of_length_le (by rw [List.length_tail]; exact Nat.le_refl _)
      rw [ht]
      unfold numS
      rw [if_pos he]
    · have he : ¬ s.data.toList.head? = some 45 := by
        rw [head_list s h0]
        intro e
        exact h45 (by rw [Option.some.inj e]; rfl)
      refine pos w s hs h0 (by simp; omega) ?_
      unfold numS
      rw [if_neg he]
  · have hz : s.size = 0 := by omega
    have hn : numS s.data.toList = none := by
      have : s.data.toList = [] := List.length_eq_zero_iff.1 hz
      rw [this]
      rfl
    rw [hn]
    clear hn
    go_enter Tryd.func12, Tryd.ntmps12
    go_wp2
    go_ret2
    exact ⟨rfl, rfl⟩
end Go.Proofs.YtolmngfjdcoapaaDoor.snum

/- slices.Repeat of one number, up to seven times. -/
import Derived.Test.YtklkglbimjajnaaStand
import Derived.Laws.CopyOwn
namespace Go.Proofs.Ytklkglbimjajnaa.rep
open Go.ChangeShapes Go.WideShapes Go.ChangeAt Go.RowKit
open Go.Proofs.Ytklkglbimjajnaa.Raft Go.Proofs.Ytklkglbimjajnaa.mem Go.Proofs.Ytklkglbimjajnaa.grp Go.Proofs.Ytklkglbimjajnaa.look Go.Proofs.Ytklkglbimjajnaa.ndw Go.Proofs.Ytklkglbimjajnaa.grant Go.Proofs.Ytklkglbimjajnaa.stand
set_option linter.unusedVariables false
theorem mulA1 (w : World) : Calls Try.prog 161 #[.int .u64 1, .int .u64 1] w fun r w' => r = .returned (.tuple #[.int .u64 0, .int .u64 1]) ∧ w' = w := by
  go_enter Try.func161, Try.ntmps161
  go_wp2
  go_ret2
  exact ⟨rfl, rfl⟩
theorem mulB1 (w : World) : Calls Try.prog 159 #[.int .u64 1, .int .u64 1] w fun r w' => r = .returned (.tuple #[.int .u64 0, .int .u64 1]) ∧ w' = w := by
  have H := mulA1 w
  go_enter Try.func159, Try.ntmps159
  go_wp2_with (go_at_call 161; refine H.mono ?_; rintro e w' ⟨rfl, rfl⟩)
  go_ret2
  exact ⟨rfl, rfl⟩
theorem mulA2 (w : World) : Calls Try.prog 161 #[.int .u64 1, .int .u64 2] w fun r w' => r = .returned (.tuple #[.int .u64 0, .int .u64 2]) ∧ w' = w := by
  go_enter Try.func161, Try.ntmps161
  go_wp2
  go_ret2
  exact ⟨rfl, rfl⟩
theorem mulB2 (w : World) : Calls Try.prog 159 #[.int .u64 1, .int .u64 2] w fun r w' => r = .returned (.tuple #[.int .u64 0, .int .u64 2]) ∧ w' = w := by
  have H := mulA2 w
  go_enter Try.func159, Try.ntmps159
  go_wp2_with (go_at_call 161; refine H.mono ?_; rintro e w' ⟨rfl, rfl⟩)
  go_ret2
  exact ⟨rfl, rfl⟩
theorem mulA3 (w : World) : Calls Try.prog 161 #[.int .u64 1, .int .u64 3] w fun r w' => r = .returned (.tuple #[.int .u64 0, .int .u64 3]) ∧ w' = w := by
  go_enter Try.func161, Try.ntmps161
  go_wp2
  go_ret2
  exact ⟨rfl, rfl⟩
theorem mulB3 (w : World) : Calls Try.prog 159 #[.int .u64 1, .int .u64 3] w fun r w' => r = .returned (.tuple #[.int .u64 0, .int .u64 3]) ∧ w' = w := by
  have H := mulA3 w
  go_enter Try.func159, Try.ntmps159
  go_wp2_with (go_at_call 161; refine H.mono ?_; rintro e w' ⟨rfl, rfl⟩)
  go_ret2
  exact ⟨rfl, rfl⟩
theorem mulA4 (w : World) : Calls Try.prog 161 #[.int .u64 1, .int .u64 4] w fun r w' => r = .returned (.tuple #[.int .u64 0, .int .u64 4]) ∧ w' = w := by
  go_enter Try.func161, Try.ntmps161
  go_wp2
  go_ret2
  exact ⟨rfl, rfl⟩
theorem mulB4 (w : World) : Calls Try.prog 159 #[.int .u64 1, .int .u64 4] w fun r w' => r = .returned (.tuple #[.int .u64 0, .int .u64 4]) ∧ w' = w := by
  have H := mulA4 w
  go_enter Try.func159, Try.ntmps159
  go_wp2_with (go_at_call 161; refine H.mono ?_; rintro e w' ⟨rfl, rfl⟩)
  go_ret2
  exact ⟨rfl, rfl⟩
theorem mulA5 (w : World) : Calls Try.prog 161 #[.int .u64 1, .int .u64 5] w fun r w' => r = .returned (.tuple #[.int .u64 0, .int .u64 5]) ∧ w' = w := by
  go_enter Try.func161, Try.ntmps161
  go_wp2
  go_ret2
  exact ⟨rfl, rfl⟩
theorem mulB5 (w : World) : Calls Try.prog 159 #[.int .u64 1, .int .u64 5] w fun r w' => r = .returned (.tuple #[.int .u64 0, .int .u64 5]) ∧ w' = w := by
  have H := mulA5 w
  go_enter Try.func159, Try.ntmps159
  go_wp2_with (go_at_call 161; refine H.mono ?_; rintro e w' ⟨rfl, rfl⟩)
  go_ret2
  exact ⟨rfl, rfl⟩
theorem mulA6 (w : World) : Calls Try.prog 161 #[.int .u64 1, .int .u64 6] w fun r w' => r = .returned (.tuple #[.int .u64 0, .int .u64 6]) ∧ w' = w := by
  go_enter Try.func161, Try.ntmps161
  go_wp2
  go_ret2
  exact ⟨rfl, rfl⟩
theorem mulB6 (w : World) : Calls Try.prog 159 #[.int .u64 1, .int .u64 6] w fun r w' => r = .returned (.tuple #[.int .u64 0, .int .u64 6]) ∧ w' = w := by
  have H := mulA6 w
  go_enter Try.func159, Try.ntmps159
  go_wp2_with (go_at_call 161; refine H.mono ?_; rintro e w' ⟨rfl, rfl⟩)
  go_ret2
  exact ⟨rfl, rfl⟩
theorem mulA7 (w : World) : Calls Try.prog 161 #[.int .u64 1, .int .u64 7] w fun r w' => r = .returned (.tuple #[.int .u64 0, .int .u64 7]) ∧ w' = w := by
  go_enter Try.func161, Try.ntmps161
  go_wp2
  go_ret2
  exact ⟨rfl, rfl⟩
theorem mulB7 (w : World) : Calls Try.prog 159 #[.int .u64 1, .int .u64 7] w fun r w' => r = .returned (.tuple #[.int .u64 0, .int .u64 7]) ∧ w' = w := by
  have H := mulA7 w
  go_enter Try.func159, Try.ntmps159
  go_wp2_with (go_at_call 161; refine H.mono ?_; rintro e w' ⟨rfl, rfl⟩)
  go_ret2
  exact ⟨rfl, rfl⟩
theorem mul_any (w : World) (n : Nat) (h1 : 1 ≤ n) (h2 : n ≤ 7) : Calls Try.prog 159 #[.int .u64 1, .int .u64 (n : Nat)] w fun r w' => r = .returned (.tuple #[.int .u64 0, .int .u64 (n : Nat)]) ∧ w' = w := by
  match n, h1, h2 with
  | 1, _, _ => exact mulB1 w
  | 2, _, _ => exact mulB2 w
  | 3, _, _ => exact mulB3 w
  | 4, _, _ => exact mulB4 w
  | 5, _, _ => exact mulB5 w
  | 6, _, _ => exact mulB6 w
  | 7, _, _ => exact mulB7 w

/-- Behind a repeat. -/
def RepE (w : World) (n : Nat) (v : Int) (r : Ending) (w' : World) : Prop :=
  r = .returned (.slice (some ⟨w.heap.size, 0, none⟩) n n) ∧ w'.ownsRow w.heap.size 3 1 (.slice (some ⟨w.heap.size, 0, none⟩) n n) n (List.replicate n (.int .i64 v)) ∧ Below w.heap.size w w'
def rowR (n j : Nat) (v : Int) : List Value := List.replicate j (.int .i64 v) ++ List.replicate (n - j) (.int .i64 0)
theorem rowR_len {n j : Nat} (v : Int) (h : j ≤ n) : (rowR n j v).length = n := by simp [rowR]; omega
theorem rowR_splice {n j : Nat} (v : Int) (h : j < n) : splice (rowR n j v) j (List.replicate (min j (n - j)) (.int .i64 v)) = rowR n (j + min j (n - j)) v := by
  have hm : min j (n - j) ≤ n - j := Nat.min_le_right _ _
  generalize min j (n - j) = m at *
  unfold splice rowR
  rw [List.take_append_of_le_length (by simp), List.take_of_length_le (by simp), List.drop_append]
  simp only [List.length_replicate]
  rw [List.drop_eq_nil_of_le (by simp), List.nil_append]
  have e : j + m - j = m := by omega
  rw [e, List.drop_replicate, ← List.append_assoc, List.replicate_append_replicate]
  have e2 : n - j - m = n - (j + m) := by omega
  rw [e2]
theorem own_heap {w : World} {base e : Nat} {g n : Nat} {xs : List Value} (h : w.ownsRow base e 1 (.slice (some ⟨g, 0, none⟩) n n) n xs) : w.heap[g]? = some (.cells xs.toArray e (0, 0)) := by
  obtain ⟨h1, ⟨e1, _⟩ | ⟨g', cap, cur, e1, hb, hh, hc, hm, hs, ht⟩⟩ := h
  · simp at e1
  · simp only [Value.slice.injEq, Option.some.injEq, Addr.mk.injEq] at e1
    obtain ⟨⟨rfl, _⟩, _, rfl⟩ := e1
    rw [hh]
    have : cur = xs.toArray := by
      rw [← ht, List.take_of_length_le (by simp [hs])]
    rw [this]
theorem heap_own {w : World} {base e : Nat} {g n : Nat} {xs : List Value} (hb : base ≤ g) (hn : n ≤ 1000) (hl : xs.length = n) (h : w.heap[g]? = some (.cells xs.toArray e (0, 0))) : w.ownsRow base e 1 (.slice (some ⟨g, 0, none⟩) n n) n xs :=
  ⟨by omega, .inr ⟨g, n, xs.toArray, rfl, hb, h, Nat.le_refl _, by unfold maxLen; omega, by simp [hl], by rw [Nat.mul_one, List.take_of_length_le (by simp; omega)]⟩⟩

set_option maxHeartbeats 1600000 in
theorem rep_any (w : World) (s : Nat) (v : Int) (hs : w.cell? ⟨s, 0, none⟩ = some (.int .i64 v)) (n : Nat) (h1 : 1 ≤ n) (h2 : n ≤ 7) :
    Calls Try.prog 158 #[.slice (some ⟨s, 0, none⟩) 1 1, .int .i64 n] w fun r w' => RepE w n v r w' := by
  obtain ⟨i0, hi, hz0, hz1, hz2⟩ := info_parts info3
  have hsz : (Try.prog.info? 3).map (·.size) = some 1 := by rw [hi]; simp [hz1]
  have HI : Hid (Try.prog.info? 3 = some i0 ∧ i0.zero = some (.int .i64 0) ∧ i0.size = 1 ∧ i0.bytes = 8 ∧ (Try.prog.info? 3).map (·.size) = some 1) := ⟨hi, hz0, hz1, hz2, hsz⟩
  have H := hide (mul_any w n h1 h2)
  have hw0 : IntKind.u64.wrap (n : Int) = n := by rw [IntKind.wrap_u64]; omega
  have hw1 : IntKind.i64.wrap (n : Int) = n := by rw [IntKind.wrap_i64]; omega
  have hnI : (1 : Int) ≤ n := by omega
  have hnI7 : (n : Int) ≤ 7 := by omega
  have hslt : s < w.heap.size := World.block_lt_of_cell? w ⟨s, 0, none⟩ hs
  have HB : Hid (∀ w1, w.grownBy w1 none → w1.cell? ⟨s, 0, none⟩ = some (.int .i64 v) ∧ Below w.heap.size w w1) := fun w1 hg => by
    have hb : Below w.heap.size w w1 := (Below.refl _ _).grown hg (Nat.le_refl _) (by simp)
    exact ⟨by rw [World.cell?_of_block (a := ⟨s, 0, none⟩) (hb.block s hslt)]; exact hs, hb⟩
  clear hi hz0 hz1 hz2 hsz
  go_enter Try.func158, Try.ntmps158
  go_wp2_with (first
    | (go_at_call 159; refine H.out.mono ?_; rintro e w' ⟨rfl, hw'⟩; have hw2 := hw'.symm; subst hw2; clear hw')
    | (at_make; go_loud (refine wpList_make_full _ rfl _ _ 31 rfl w.heap.size 3 i0 (.int .i64 0) 1 Try.underlying31 HI.out.1 HI.out.2.1 HI.out.2.2.1 .i64 .i64 _ _ n rfl rfl rfl rfl (by rw [HI.out.2.2.2.1]; omega) (by unfold maxLen; omega) (Nat.le_refl _) ?_)
       intro w1 hown1 hgrow1
       rw [made_zero] at hown1
       have HW1 := hide (own_heap hown1)
       have HB1 := hide (HB.out w1 hgrow1)
       clear hown1 hgrow1)
    | (refine wpList_copy_splice rfl _ _ 31 31 rfl 3 Try.underlying31 HI.out.2.2.2.2 _ _ _ _ _ _ rfl rfl w.heap.size 0 (List.replicate n (.int .i64 0)) 3 HW1.out [.int .i64 v] (by simp [Nat.min_def]; omega) (fun _ => ⟨rfl, _, rfl, fun j u hu => by (match j, hu with | 0, hu => simp only [List.getElem?_cons_zero, Option.some.injEq] at hu; subst hu; rw [addr_add]; exact HB1.out.1 | j + 1, hu => simp at hu)⟩) (by simp; omega) (by simp [Value.oneCell']) w.heap.size w HB1.out.2 (Nat.le_refl _) ?_
       intro w2 HW2 hb2
       have HB2 := hide hb2
       clear hb2 HW1 HB1))
  have HW3 : Hid (w2.heap[w.heap.size]? = some (.cells (rowR n 1 v).toArray 3 (0, 0))) := by
    have h9 := HW2.out
    have e9 : splice (List.replicate n (Value.int .i64 0)) 0 [Value.int .i64 v] = rowR n 1 v := by
      unfold splice rowR
      simp
    rw [e9] at h9
    exact h9
  clear HW2 H HB hs hslt
  go_loopw [8] (fun jv wr => ∃ j : Nat, 1 ≤ j ∧ j ≤ n ∧ jv = .int .i64 j ∧ Hid (wr.heap[w.heap.size]? = some (.cells (rowR n j v).toArray 3 (0, 0)) ∧ Below w.heap.size w wr)) (fun jv _ => n - (intOf jv).toNat)
  case atStart => exact ⟨1, Nat.le_refl _, h1, rfl, hide ⟨HW3.out, HB2.out⟩⟩
  case round =>
    clear HW3 HB2
    obtain ⟨j, hj1, hjn, rfl, HJ⟩ := hrel
    by_cases hlt : j < n
    · have hltI : (j : Int) < n := by omega
      have hne : ¬ (n = j) := by omega
      have HC : Hid (∀ i u, (List.replicate (min j (n - j)) (Value.int .i64 v))[i]? = some u → wr.cell? ⟨w.heap.size, i, none⟩ = some u) := fun i u hu => by
        have hi := (List.getElem?_eq_some_iff.1 hu).1
        simp only [List.length_replicate] at hi
        refine cell_of HJ.out.1 ?_
        rw [List.getElem?_replicate, if_pos (by omega)] at hu
        simp only [List.getElem?_toArray, rowR]
        rw [List.getElem?_append_left (by simp; omega), List.getElem?_replicate, if_pos (by omega)]
        exact hu
      have HC2 : Hid (∀ i u, (List.replicate (min j (n - j)) (Value.int .i64 v))[i]? = some u → wr.drew.cell? ⟨w.heap.size, i, none⟩ = some u) := HC.out
      have hmn : min j (n - j) ≤ n := by omega
      have HM : Hid (min j (n - j) = Nat.min j (n - j)) := rfl
      have HN : Hid (∀ w4 : World, w4.heap[w.heap.size]? = some (.cells (splice (rowR n j v) j (List.replicate (min j (n - j)) (.int .i64 v))).toArray 3 (0, 0)) → w4.heap[w.heap.size]? = some (.cells (rowR n (j + min j (n - j)) v).toArray 3 (0, 0))) := fun w4 h => by rw [rowR_splice v hlt] at h; exact h
      have hmpos : 1 ≤ min j (n - j) := by omega
      have hmle : j + min j (n - j) ≤ n := by omega
      generalize min j (n - j) = m at *
      have HM2 : Hid ((List.replicate m (Value.int .i64 v)).length = Nat.min j (n - j)) := by unfold Hid; simp only [List.length_replicate]; exact HM.out
      have HCC : Hid (∀ (i : Nat) (u : Value), (List.replicate m (Value.int .i64 v))[i]? = some u → wr.drew.cell? ((⟨w.heap.size, 0, none⟩ : Addr).add i) = some u) := fun i u hu => by rw [addr_add, Nat.zero_add]; exact HC.out i u hu
      have HFit : Hid (j + (List.replicate m (Value.int .i64 v)).length ≤ (rowR n j v).length) := by unfold Hid; rw [rowR_len v (by omega)]; simp only [List.length_replicate]; omega
      have HOne : Hid (∀ u ∈ List.replicate m (Value.int .i64 v), u.oneCell' = true) := fun u hu => by rw [List.eq_of_mem_replicate hu]; rfl
      have HBd : Hid (Below w.heap.size w wr.drew) := HJ.out.2.drew
      clear HC HC2 HM hmn
      have hmI : (j : Int) + m ≤ n := by omega
      have hwj : IntKind.i64.wrap ((j : Int) + m) = (j : Int) + m := by rw [IntKind.wrap_i64]; omega
      go_wp2
      go_region_law (refine step_copy_splice rfl (.tmp 41) (.tmp 44) 31 31 rfl 3 Try.underlying31 HI.out.2.2.2.2 (some ⟨w.heap.size, j, none⟩) (some ⟨w.heap.size, 0, none⟩) (n - j) (n - j) j n (by simp [Act.eval, Act.put]) (by simp [Act.eval, Act.put]) w.heap.size j (rowR n j v) 3 HJ.out.1 (List.replicate m (.int .i64 v)) HM2.out (fun _ => ⟨rfl, _, rfl, HCC.out⟩) HFit.out HOne.out w.heap.size w HBd.out (Nat.le_refl _) ?_; intro w4 HW4 hb4; have HB4 := hide hb4; clear hb4; simp only [goInt, List.length_replicate])
      all_goals
        have HN4 := hide (HN.out w4 HW4.out)
        simp [Act.put]

        go_wp2
        go_roundw
        case rel => exact ⟨j + m, by omega, by omega, by go_num, hide ⟨HN4.out, HB4.out⟩⟩
        case measure => simp [intOf]; omega
    · have hltI : ¬ (j : Int) < n := by omega
      obtain rfl : j = n := by omega
      have HE : Hid (wr.ownsRow w.heap.size 3 1 (.slice (some ⟨w.heap.size, 0, none⟩) j j) j (List.replicate j (.int .i64 v)) ∧ Below w.heap.size w wr) := by
        refine hide ⟨?_, HJ.out.2⟩
        have h9 := HJ.out.1
        have e9 : rowR j j v = List.replicate j (.int .i64 v) := by simp [rowR]
        rw [e9] at h9
        exact heap_own (Nat.le_refl _) (by omega) (by simp) h9
      go_wp2
      go_ret
      exact ⟨rfl, HE.out⟩
end Go.Proofs.Ytklkglbimjajnaa.rep

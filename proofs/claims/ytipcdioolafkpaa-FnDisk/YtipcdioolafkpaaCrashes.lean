/- Contracts of the program's track: what a crash keeps, a cut, and the disk behind them. -/
import Derived.Test.YtipcdioolafkpaaTrackOf
import Derived.Laws.CopyOwn
namespace Go.Proofs.Ytipcdioolafkpaa.crashes
open Go.ChangeShapes Go.WideShapes Go.ChangeAt Go.RowKit
open Go.Proofs.Ytipcdioolafkpaa.bytes Go.Proofs.Ytipcdioolafkpaa.pile Go.Proofs.Ytipcdioolafkpaa.reader Go.Proofs.Ytipcdioolafkpaa.lists Go.Proofs.Ytipcdioolafkpaa.sizes Go.Proofs.Ytipcdioolafkpaa.marked Go.Proofs.Ytipcdioolafkpaa.disks Go.Proofs.Ytipcdioolafkpaa.diskmarks Go.Proofs.Ytipcdioolafkpaa.specdisk Go.Proofs.Ytipcdioolafkpaa.tracks Go.Proofs.Ytipcdioolafkpaa.trackof
set_option linter.unusedVariables false

/-- What a crash leaves. -/
def crashF (xs : List Int) (cs : List (List Int)) (K torn : Nat) : List Int := xs ++ (cs.take K).flatten ++ (cs.getD K []).take torn
/-- How many bytes it leaves. -/
def keptN (n : Nat) (cs : List (List Int)) (K torn : Nat) : Nat := n + sizeTo cs K + min torn (cs.getD K []).length
theorem flat_split (cs : List (List Int)) (K : Nat) : cs.flatten = (cs.take K).flatten ++ (cs.getD K [] ++ (cs.drop (K + 1)).flatten) := by
  by_cases h : K < cs.length
  · have e : cs = cs.take K ++ (cs[K] :: cs.drop (K + 1)) := by
      rw [← List.drop_eq_getElem_cons h, List.take_append_drop]
    have e2 : cs.getD K [] = cs[K] := by simp [List.getD_eq_getElem?_getD, h]
    rw [e2]
    conv => lhs; rw [e]
    simp only [List.flatten_append, List.flatten_cons]
  · have e2 : cs.getD K [] = [] := by rw [List.getD_eq_getElem?_getD, List.getElem?_eq_none (by omega)]; rfl
    rw [e2, List.take_of_length_le (by omega), List.drop_eq_nil_of_le (by omega)]
    simp
theorem crash_take (xs : List Int) (cs : List (List Int)) (K torn : Nat) : (xs ++ cs.flatten).take (keptN xs.length cs K torn) = crashF xs cs K torn := by
  unfold crashF keptN sizeTo
  rw [flat_split cs K, List.append_assoc, ← List.append_assoc, List.append_assoc xs, Nat.add_assoc, List.take_append, List.take_of_length_le (by omega)]
  congr 1
  rw [show xs.length + ((cs.take K).flatten.length + min torn (cs.getD K []).length) - xs.length = (cs.take K).flatten.length + min torn (cs.getD K []).length by omega, List.take_append, List.take_of_length_le (by omega)]
  congr 1
  rw [show (cs.take K).flatten.length + min torn (cs.getD K []).length - (cs.take K).flatten.length = min torn (cs.getD K []).length by omega, List.take_append_of_le_length (by omega)]
  by_cases h : torn ≤ (cs.getD K []).length
  · rw [Nat.min_eq_left h]
  · rw [Nat.min_eq_right (by omega), List.take_length, List.take_of_length_le (by omega)]
theorem kept_le (xs : List Int) (cs : List (List Int)) (K torn : Nat) : keptN xs.length cs K torn ≤ (xs ++ cs.flatten).length := by
  unfold keptN sizeTo
  have := congrArg List.length (flat_split cs K)
  rw [List.length_append, List.length_append] at this
  rw [List.length_append]
  omega

set_option maxHeartbeats 800000 in
theorem kept_any (w : World) (base d : Nat) (av : Value) (ys : List Int) (n : Nat) (ev : Value) (cs : List (List Int)) (h : TS w base d av ys n ev (endsTo n cs cs.length)) (K torn : Nat) (hn : n + cs.flatten.length ≤ 1099511627776) (hK : K ≤ 9223372036854775807) (ht : torn ≤ 9223372036854775807) (hc : cs.length ≤ 1099511627776) :
    Calls Try.prog 71 #[.pointer (some ⟨d, 0, none⟩), .int .i64 K, .int .i64 torn] w fun e w' => e = .returned (.int .i64 (keptN n cs K torn)) ∧ w' = w := by
  have HT : Hid (TS w base d av ys n ev (endsTo n cs cs.length)) := h
  obtain ⟨T, hT⟩ : ∃ T, T = cs.flatten.length := ⟨_, rfl⟩
  have HTT : Hid (T = cs.flatten.length) := hT
  rw [← hT] at hn
  clear hT
  have c1 := cell_of h.blk (i := 1) rfl
  have c2 := cell_of h.blk (i := 2) rfl
  obtain ⟨N, hN⟩ : ∃ N, N = cs.length := ⟨_, rfl⟩
  have HN : Hid (N = cs.length) := hN
  have HEnds : Hid (∀ k, k < N → ∀ x, ev.ownBlock = some x → w.cell? ⟨x, k, none⟩ = some (.int .i64 ((n : Int) + (sizeTo cs (k + 1) : Int)))) := by
    intro k hk x hx
    have := h.ends
    obtain ⟨_, ⟨rfl, _⟩ | ⟨g, c, cur, rfl, _⟩⟩ := h.ends
    · simp [Value.ownBlock] at hx
    · simp only [Value.ownBlock, Option.some.injEq] at hx
      subst hx
      rw [World.ownsRow.cellAt this k (by rw [endsTo_length]; omega)]
      have hk' : k < cs.length := by omega
      simp [endsTo, hk']
  have hform : ∃ eo ec, ev = .slice eo N ec ∧ N ≤ ec ∧ (0 < N → ∃ x, eo = some ⟨x, 0, none⟩) := by
    obtain ⟨h1, ⟨rfl, h2⟩ | ⟨g, c, cur, rfl, hbg, hg, hnc, _⟩⟩ := h.ends
    · rw [endsTo_length] at h2
      exact ⟨none, 0, by rw [hN, h2], by omega, fun hp => by omega⟩
    · rw [endsTo_length] at hnc ⊢
      exact ⟨_, c, by rw [hN], by omega, fun _ => ⟨g, rfl⟩⟩
  obtain ⟨eo, ec, rfl, hec, hex⟩ := hform
  clear h hN
  go_enter Try.func71, Try.ntmps71
  go_wp2
  go_loop [7, 19] (fun p i => ∃ k : Nat, k ≤ N ∧ k ≤ K ∧ i = .int .i64 k ∧ p = .int .i64 ((n : Int) + (sizeTo cs k : Int))) (fun _ i => N - (intOf i).toNat)
  case atStart => exact ⟨0, by omega, by omega, rfl, by simp [sizeTo]⟩
  case round =>
    obtain ⟨k, hk, hkK, rfl, rfl⟩ := hrel
    have hsz : sizeTo cs k ≤ T := by rw [HTT.out]; exact sizeTo_le cs k
    have hs2 : sizeTo cs (k + 1) ≤ T := by rw [HTT.out]; exact sizeTo_le cs (k + 1)
    by_cases hlt : k < N
    · obtain ⟨x, rfl⟩ := hex (by omega)
      have hcl := HEnds.out k hlt x rfl
      have HSu : Hid (sizeTo cs (k + 1) = sizeTo cs k + (cs.getD k []).length) := sizeTo_succ (xss := cs) (k := k) (by rw [← HN.out]; exact hlt)
      rw [HSu.out] at hcl hs2
      by_cases he : k = K
      · subst he
        have hq : ((k : Int) == (k : Int)) = true := by simp
        have HE : Hid (keptN n cs k torn = n + sizeTo cs k + min torn (cs.getD k []).length) := rfl
        clear HSu
        generalize (cs.getD k []).length = L at hcl hs2 HE
        go_wp2
        all_goals
          go_ret
          rw [HE.out]
          exact ⟨ret_int (by omega), rfl⟩
      · have hq : ((k : Int) == (K : Int)) = false := beq_eq_false_iff_ne.2 (by omega)
        generalize (cs.getD k []).length = L at hcl hs2 HSu
        go_wp2
        go_round
        case rel => exact ⟨k + 1, by omega, by omega, by go_num, by rw [HSu.out]; go_num⟩
        case measure => simp [intOf]; omega
    · have HE : Hid (keptN n cs K torn = n + sizeTo cs k) := hide (by
        unfold keptN sizeTo
        have hkl : k = cs.length := by rw [← HN.out]; omega
        rw [List.getD_eq_getElem?_getD, List.getElem?_eq_none (by omega), List.take_of_length_le (by omega), List.take_of_length_le (by omega)]
        simp)
      go_wp2
      go_ret
      rw [HE.out]
      exact ⟨rfl, rfl⟩

theorem made_of {w : World} {base g n cap : Nat} {vs : List Value} (h : w.ownsRow base 5 1 (.slice (some ⟨g, 0, none⟩) n n) n vs) (hv : vs.length = n) : w.heap[g]? = some (.cells vs.toArray 5 (0, 0)) := by
  obtain ⟨_, ⟨e, _⟩ | ⟨g', c, cur, e, _, hg, hnc, hcm, hcs, ht⟩⟩ := h
  · simp at e
  · simp only [Value.slice.injEq, Option.some.injEq, Addr.mk.injEq, and_true, true_and] at e
    obtain ⟨rfl, rfl⟩ := e
    rw [hg]
    have : cur.toList = vs := by
      rw [Nat.mul_one] at ht hcs
      rw [← ht]
      exact (List.take_of_length_le (by simp; omega)).symm
    rw [← this]

set_option maxRecDepth 20000 in
set_option maxHeartbeats 1000000 in
theorem cut_ok (w : World) (base d : Nat) (av : Value) (xs : List Int) (sy : Int) (ev : Value) (es : List Int) (h : TS w base d av xs sy ev es) (m : Nat) (hm : m ≤ xs.length) (hx : xs.length ≤ 8192) :
    Calls Try.prog 66 #[.pointer (some ⟨d, 0, none⟩), .int .i64 m] w fun e w' => e = .returned (.int .i64 0) ∧ TS w' base d (.slice (some ⟨w.heap.size, 0, none⟩) m m) (xs.take m) m (.slice none 0 0) [] ∧ Below base w w' := by
  have HT : Hid (TS w base d av xs sy ev es) := h
  obtain ⟨ao, ca, rfl, ha1, ha2, hxb, hcell⟩ := h.all.rd
  obtain ⟨eo, el, ec, rfl⟩ := row_slice h.ends
  unfold maxLen at ha2
  have HXb : Hid (∀ x ∈ xs, 0 ≤ x ∧ x ≤ 255) := hxb
  have HC : Hid (0 < xs.length → ∃ b off, ao = some ⟨b, off, none⟩ ∧ ∀ i, i < xs.length → w.cell? ⟨b, off + i, none⟩ = some (.int .u8 (xs.getD i 0))) := hcell
  have c0 := cell_of h.blk (i := 0) rfl
  have hd := h.lt
  have hlow := h.low
  clear h hxb hcell
  obtain ⟨i0, hi, hz0, hz1, hz2⟩ := info_parts info5
  have HI : Hid (Try.prog.info? 5 = some i0 ∧ i0.zero = some (.int .u8 0) ∧ i0.size = 1 ∧ i0.bytes = 1) := ⟨hi, hz0, hz1, hz2⟩
  clear hi hz0 hz1 hz2
  have hm1 : ¬ (m : Int) < 0 := by omega
  have hm2 : ¬ (xs.length : Int) < (m : Int) := by omega
  go_enter Try.func66, Try.ntmps66
  have c0' : w.cell? ⟨d, 0, none⟩ = some (.slice ao xs.length ca) := c0
  clear c0
  have HMade : Hid (∀ w1, w1.ownsRow w.heap.size 5 1 (.slice (some ⟨w.heap.size, 0, none⟩) m m) m (madeCells (Value.int .u8 0).cells (m * 1)).toList → w.grownBy w1 none → w1.cell? ⟨d, 0, none⟩ = some (.slice ao xs.length ca) ∧ Hid (Below w.heap.size w w1) ∧ Hid (w1.heap[w.heap.size]? = some (.cells ((List.replicate m (0 : Int)).map (Value.int .u8)).toArray 5 (0, 0))) ∧ Hid (0 < ((xs.take m).map (Value.int .u8)).length → ∃ ad, ao = some ad ∧ ∀ j v, ((xs.take m).map (Value.int .u8))[j]? = some v → w1.cell? (ad.add j) = some v)) := by
    intro w1 hown1 hgrow1
    rw [made_list] at hown1
    have b1 : Below w.heap.size w w1 := (Below.refl _ _).grown hgrow1 (Nat.le_refl _) (by simp)
    refine ⟨(b1.cell hd).trans c0', b1, made_of (cap := 0) hown1 (by simp), fun hp => ?_⟩
    rw [List.length_map, List.length_take] at hp
    obtain ⟨b, off, hao, hc⟩ := HC.out (by omega)
    refine ⟨⟨b, off, none⟩, hao, fun j v hv => ?_⟩
    simp only [List.getElem?_map, Option.map_eq_some_iff] at hv
    obtain ⟨z, hz, rfl⟩ := hv
    have hj := (List.getElem?_eq_some_iff.1 hz).1
    rw [List.length_take] at hj
    have hcj := hc j (by omega)
    rw [add_at, (b1.cell (cell_lt hcj)), hcj]
    rw [List.getElem?_take, if_pos (by omega)] at hz
    simp [List.getD_eq_getElem?_getD, hz]
  have HAtD : Hid (∀ wx, Below w.heap.size w wx → wx.cell? ⟨d, 0, none⟩ = some (.slice ao xs.length ca) ∧ wx.cell? ⟨d, 1, none⟩ = some (.int .i64 sy) ∧ wx.cell? ⟨d, 2, none⟩ = some (.slice eo el ec) ∧ wx.frozen? ⟨d, 0, none⟩ = false ∧ wx.frozen? ⟨d, 1, none⟩ = false ∧ wx.frozen? ⟨d, 2, none⟩ = false) := fun wx hb => by
    have k := (hb.block d hd).trans HT.out.blk
    exact ⟨cell_of k rfl, cell_of k rfl, cell_of k rfl, frozen_of k 0, frozen_of k 1, frozen_of k 2⟩
  have HFin : Hid (∀ w2, w2.heap[w.heap.size]? = some (.cells (splice ((List.replicate m (0 : Int)).map (Value.int .u8)) 0 ((xs.take m).map (Value.int .u8))).toArray 5 (0, 0)) → Below w.heap.size w w2 → TS (((w2.setCell ⟨d, 0, none⟩ (.slice (some ⟨w.heap.size, 0, none⟩) m m)).setCell ⟨d, 1, none⟩ (.int .i64 m)).setCell ⟨d, 2, none⟩ (.slice none 0 0)) base d (.slice (some ⟨w.heap.size, 0, none⟩) m m) (xs.take m) m (.slice none 0 0) [] ∧ Below base w (((w2.setCell ⟨d, 0, none⟩ (.slice (some ⟨w.heap.size, 0, none⟩) m m)).setCell ⟨d, 1, none⟩ (.int .i64 m)).setCell ⟨d, 2, none⟩ (.slice none 0 0))) := fun w2 hk hb => by
    have k := (hb.block d hd).trans HT.out.blk
    have hlt : (xs.take m).length = m := by rw [List.length_take]; omega
    have hsp : splice ((List.replicate m (0 : Int)).map (Value.int .u8)) 0 ((xs.take m).map (Value.int .u8)) = (xs.take m).map (Value.int .u8) := by
      unfold splice
      simp only [List.take_zero, List.nil_append, Nat.zero_add]
      rw [List.drop_eq_nil_of_le (by rw [List.length_map, List.length_map, List.length_replicate, hlt]; omega), List.append_nil]
    rw [hsp] at hk
    have hO : Own w2 base (.slice (some ⟨w.heap.size, 0, none⟩) m m) (xs.take m) := by
      refine ⟨fun x hx => HXb.out x (List.mem_of_mem_take hx), ?_⟩
      rw [hlt]
      refine ⟨by rw [List.length_map, hlt]; omega, .inr ⟨w.heap.size, m, _, rfl, by omega, hk, Nat.le_refl _, by unfold maxLen; omega, by rw [List.size_toArray, List.length_map, hlt]; omega, ?_⟩⟩
      rw [Nat.mul_one]
      exact List.take_of_length_le (by simp only [List.length_map]; omega)
    refine ⟨⟨set3 k _ _ _, ⟨hO.1, row_set3 hO.2 k (by decide) _ _ _⟩, World.ownsRow_nil _ _ _ _, hlow⟩, below_set3 (hb.mono (by omega)) hlow _ _ _⟩
  have HOne : Hid (∀ v ∈ (xs.take m).map (Value.int .u8), v.oneCell' = true) := fun v hv => by
    obtain ⟨z, _, rfl⟩ := List.mem_map.1 hv
    rfl
  have HLen : Hid (((xs.take m).map (Value.int .u8)).length = Nat.min xs.length m) := by
    unfold Hid
    rw [List.length_map, List.length_take]
    show min m xs.length = min xs.length m
    omega
  have HFit : Hid (0 + ((xs.take m).map (Value.int .u8)).length ≤ ((List.replicate m (0 : Int)).map (Value.int .u8)).length) := by unfold Hid; simp; omega
  go_wp2_with (first | (at_make; refine wpList_make_full _ rfl _ _ 22 rfl w.heap.size 5 i0 (.int .u8 0) 1 Try.underlying22 HI.out.1 HI.out.2.1 HI.out.2.2.1 .i64 .i64 _ _ m rfl rfl rfl rfl (by rw [HI.out.2.2.2]; omega) (by unfold maxLen; omega) (Nat.le_refl _) ?_; intro w1 hown1 hgrow1; obtain ⟨c10, HB1, HK1, HSrc⟩ := HMade.out w1 hown1 hgrow1; clear hown1 hgrow1) | (refine wpList_copy_splice rfl _ _ 22 22 rfl 5 Try.underlying22 (by kernel_rfl) (some ⟨w.heap.size, 0, none⟩) ao m m xs.length ca rfl rfl w.heap.size 0 ((List.replicate m (0 : Int)).map (Value.int .u8)) 5 HK1.out ((xs.take m).map (Value.int .u8)) HLen.out (fun hp => ⟨rfl, HSrc.out hp⟩) HFit.out HOne.out w.heap.size w HB1.out (Nat.le_refl _) ?_; intro w2 hk2 b2; obtain ⟨q0, q1, q2, f0, f1, f2⟩ := HAtD.out w2 b2))
  go_ret
  exact ⟨rfl, HFin.out w2 hk2.out b2⟩
end Go.Proofs.Ytipcdioolafkpaa.crashes

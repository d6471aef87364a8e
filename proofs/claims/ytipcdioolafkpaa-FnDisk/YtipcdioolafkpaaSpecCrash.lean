/- Contract of the specification's crash of a disk. -/
import Derived.Test.YtipcdioolafkpaaCrashes
import Derived.Deep.RegionLaw
namespace Go.Proofs.Ytipcdioolafkpaa.speccrash
open Go.ChangeShapes Go.WideShapes Go.ChangeAt Go.RowKit
open Go.Proofs.Ytipcdioolafkpaa.bytes Go.Proofs.Ytipcdioolafkpaa.pile Go.Proofs.Ytipcdioolafkpaa.reader Go.Proofs.Ytipcdioolafkpaa.lists Go.Proofs.Ytipcdioolafkpaa.sizes Go.Proofs.Ytipcdioolafkpaa.marked Go.Proofs.Ytipcdioolafkpaa.disks Go.Proofs.Ytipcdioolafkpaa.diskmarks Go.Proofs.Ytipcdioolafkpaa.specdisk Go.Proofs.Ytipcdioolafkpaa.tracks Go.Proofs.Ytipcdioolafkpaa.trackof Go.Proofs.Ytipcdioolafkpaa.crashes
set_option linter.unusedVariables false

/-- 'append(out, ys...)' within a region that draws its order. -/
theorem step_append_rd {P : Program} (w : World) {ops : Array Oper} {o : Oper} {a : Act} {K : Act → World → Prop} {Q : Exit → Act → World → Prop} {E : Prop} (hgd : o.guard = none) (s x : Operand) (t : TypeId)
    (ho : o.op = .call { callee := .builtin .append, args := #[s, x], argTypes := #[t, t] }) (ht : P.underlying t = some (.slice 5))
    (hi : (P.info? 5).map (fun i => (i.zero, i.size, i.bytes)) = some (some (.int .u8 0), 1, 1))
    (base : Nat) (v : Value) (xs : List Int) (hs : a.eval s = v) (hown : Own w base v xs) (u : Value) (ys : List Int) (hx : a.eval x = u) (hr : RdA w u ys)
    (hlen : xs.length + ys.length ≤ 140737488355328) (hbase : base ≤ w.heap.size)
    (h : ∀ v' w', Own w' base v' (xs ++ ys) → w.grownBy w' v.ownBlock → K (a.put o.dst v') w') :
    if Region.wanted o (yielded ops a.tmps) = true then Oper.wp P o a w K Q else E := by
  have hw : Region.wanted o (yielded ops a.tmps) = true := by simp [Region.wanted, hgd]
  rw [if_pos hw]
  obtain ⟨i0, hi1, hz0, hz1, hz2⟩ := info_parts hi
  obtain ⟨⟨ao, cap, rfl, h1, h2, h3, h4⟩, hnil⟩ := hr
  have hall : ∀ y ∈ xs ++ ys, 0 ≤ y ∧ y ≤ 255 := by
    intro y hy
    rcases List.mem_append.1 hy with hy | hy
    · exact hown.1 y hy
    · exact h3 y hy
  cases ao with
  | none =>
    have e := hnil _ _ rfl
    simp only [Value.slice.injEq, true_and] at e
    have hys : ys = [] := List.length_eq_zero_iff.1 e.1
    subst hys
    obtain rfl : cap = 0 := e.2
    have hrun := run_append_owned_none (P := P) (w := w) base t o.type 5 i0 1 ht hi1 v xs.length _ hown.2
    have hK := h v w (by simpa using hown) (World.grownBy.refl _ _)
    unfold Oper.wp
    simp only [List.length_nil] at hx
    simp [execOp, ho, resolve, invoke, builtin, hs, hx, hrun, Result.andThen]
    exact hK
  | some ad =>
    refine wp_append_own w s x t ho base 5 i0 (.int .u8 0) 1 1 ht hi1 hz0 hz1 hz2 rfl (by decide) v xs.length _ hs hown.2 ad ys.length cap (ys.map (Value.int .u8)) hx (by simp) ?_ ?_ (by unfold maxLen; omega) (by omega) hbase ?_
    · intro j y hy
      simp only [List.getElem?_map, Option.map_eq_some_iff] at hy
      obtain ⟨z, hz, rfl⟩ := hy
      have hj : j < ys.length := (List.getElem?_eq_some_iff.1 hz).1
      obtain ⟨b, off, e, hc⟩ := h4 (by omega)
      simp only [Option.some.injEq] at e
      subst e
      rw [add_at, hc j hj]
      simp [List.getD_eq_getElem?_getD, hz]
    · intro y hy
      obtain ⟨z, _, rfl⟩ := List.mem_map.1 hy
      rfl
    · intro v' w' hown' hgrow _
      refine h v' w' ⟨hall, ?_⟩ hgrow
      rw [List.length_append, List.map_append]
      exact hown'

theorem pre_rd {w : World} {ao : Option Addr} {cap n : Nat} {xs : List Int} (h : RdA w (.slice ao xs.length cap) xs) (hn : n ≤ xs.length) : RdA w (.slice ao n cap) (xs.take n) := by
  obtain ⟨⟨ao', cap', e, h1, h2, h3, h4⟩, hnil⟩ := h
  simp only [Value.slice.injEq, true_and] at e
  obtain ⟨rfl, rfl⟩ := e
  have hl : (xs.take n).length = n := by simp; omega
  refine ⟨⟨ao, cap, by rw [hl], by omega, h2, fun x hx => h3 x (List.mem_of_mem_take hx), fun hp => ?_⟩, fun n' c e => ?_⟩
  · obtain ⟨b, off, rfl, hc⟩ := h4 (by omega)
    refine ⟨b, off, rfl, fun i hi => ?_⟩
    rw [hc i (by omega)]
    have hi' : i < n := by omega
    simp [List.getD_eq_getElem?_getD, hi']
  · simp only [Value.slice.injEq] at e
    obtain ⟨rfl, rfl, rfl⟩ := e
    have := hnil _ _ rfl
    simp only [Value.slice.injEq, true_and] at this
    obtain ⟨h5, rfl⟩ := this
    obtain rfl : n = 0 := by omega
    rfl

/-- What of the writes is there behind k of them. -/
def partF (cs : List (List Int)) (K torn k : Nat) : List Int := (cs.take (min k K)).flatten ++ if K < k then (cs.getD K []).take torn else []
theorem part_below {cs : List (List Int)} {K torn k : Nat} (hk : k < cs.length) (h : k < K) : partF cs K torn (k + 1) = partF cs K torn k ++ cs.getD k [] := by
  unfold partF
  rw [if_neg (by omega), if_neg (by omega), Nat.min_eq_left (by omega), Nat.min_eq_left (by omega), flat_succ hk]
  simp
theorem part_at {cs : List (List Int)} {K torn : Nat} : partF cs K torn (K + 1) = partF cs K torn K ++ (cs.getD K []).take torn := by
  unfold partF
  rw [if_pos (by omega), if_neg (by omega), Nat.min_eq_right (by omega), Nat.min_eq_left (by omega)]
  simp
theorem part_above {cs : List (List Int)} {K torn k : Nat} (h : K < k) : partF cs K torn (k + 1) = partF cs K torn k := by
  unfold partF
  rw [if_pos (by omega), if_pos h, Nat.min_eq_right (by omega), Nat.min_eq_right (by omega)]
theorem part_end (xs : List Int) (cs : List (List Int)) (K torn : Nat) : xs ++ partF cs K torn cs.length = crashF xs cs K torn := by
  unfold partF crashF
  rw [List.append_assoc]
  congr 1
  by_cases h : K < cs.length
  · rw [if_pos h, Nat.min_eq_right (by omega)]
  · have e2 : cs.getD K [] = [] := by rw [List.getD_eq_getElem?_getD, List.getElem?_eq_none (by omega)]; rfl
    rw [if_neg h, Nat.min_eq_left (by omega), e2, List.take_of_length_le (Nat.le_refl _), List.take_of_length_le (by omega)]
    simp
theorem part_le (cs : List (List Int)) (K torn k : Nat) : (partF cs K torn k).length ≤ cs.flatten.length := by
  unfold partF
  rw [List.length_append]
  by_cases h : K < k
  · rw [if_pos h, Nat.min_eq_right (by omega), List.length_take]
    have := congrArg List.length (flat_split cs K)
    rw [List.length_append, List.length_append] at this
    omega
  · rw [if_neg h]
    have := sizeTo_le cs (min k K)
    unfold sizeTo at this
    simpa using this

/-- A disk that is left by a crash, in memory of its own. -/
def LeftAt (w : World) (F : List Int) (v : Value) (w' : World) : Prop := ∃ o c, v = .agg #[.slice o F.length c, .slice none 0 0] ∧ Own w' w.heap.size (.slice o F.length c) F ∧ Below w.heap.size w w'

set_option maxRecDepth 20000 in
set_option maxHeartbeats 2000000 in
theorem specLeft (w : World) (s p : Value) (xs : List Int) (us : List Value) (cs : List (List Int)) (h1 : RdA w s xs) (h2 : RdS w p us) (h3 : Texts w us cs) (hl : xs.length + cs.flatten.length ≤ 1099511627776) (K torn : Nat) (hK : K ≤ 9223372036854775807) (htn : torn ≤ 9223372036854775807) :
    Calls Try.prog 69 #[.agg #[s, p], .int .i64 K, .int .i64 torn] w fun e w' => ∃ v, e = .returned v ∧ LeftAt w (crashF xs cs K torn) v w' := by
  have HU : Hid (us.length = cs.length) := h3.1
  have HS : Hid (RdA w s xs ∧ RdS w p us ∧ Texts w us cs) := ⟨h1, h2, h3⟩
  obtain ⟨⟨a0, c0, rfl, _, _⟩, _⟩ := h1
  obtain ⟨a1, c1, rfl, ha1, ha2, ha3⟩ := h2
  unfold maxLen at ha2
  obtain ⟨T, hT⟩ : ∃ T, T = cs.flatten.length := ⟨_, rfl⟩
  have HTT : Hid (T = cs.flatten.length) := hT
  rw [← hT] at hl
  clear hT h3
  obtain ⟨W0, hW0⟩ : ∃ W0, W0 = ((w.alloc (.cells #[.slice a0 xs.length c0, .slice a1 us.length c1] 40)).alloc (.cells #[.slice none 0 0, .slice none 0 0] 40)).alloc (.cells #[] 5) := ⟨_, rfl⟩
  have sz0 : W0.heap.size = w.heap.size + 3 := by rw [hW0]; simp
  have b0 : Below w.heap.size w W0 := by rw [hW0]; exact (((Below.refl _ _).alloc (Nat.le_refl _) _).alloc (by simp) _).alloc (by simp; omega) _
  have k0 : W0.heap[w.heap.size]? = some (.cells #[.slice a0 xs.length c0, .slice a1 us.length c1] 40 (0, 0)) := by rw [hW0]; exact (three_blocks w _ _ _).1
  have k1 : W0.heap[w.heap.size + 1]? = some (.cells #[.slice none 0 0, .slice none 0 0] 40 (0, 0)) := by rw [hW0]; exact (three_blocks w _ _ _).2.1
  have HE0 : Hid (Own W0 (w.heap.size + 2) (.slice (some ⟨w.heap.size + 2, 0, none⟩) 0 0) []) := by rw [hW0]; exact own_lit _ (by simp) (by simp)
  have HAt : Hid (∀ wx, Below (w.heap.size + 2) W0 wx → wx.cell? ⟨w.heap.size, 1, none⟩ = some (.slice a1 us.length c1) ∧ wx.heap[w.heap.size + 1]? = some (.cells #[.slice none 0 0, .slice none 0 0] 40 (0, 0)) ∧ Below w.heap.size w wx) := fun wx hb =>
    ⟨cell_of ((hb.block _ (by omega)).trans k0) rfl, (hb.block _ (by omega)).trans k1, b0.trans (hb.mono (by omega))⟩
  have HRd : Hid (RdA W0 (.slice a0 xs.length c0) xs) := HS.out.1.below b0 (Nat.le_refl _)
  have HSz : Hid (w.heap.size + 2 ≤ W0.heap.size) := by unfold Hid; omega
  have HAp : Hid (∀ v1 w1, Own w1 (w.heap.size + 2) v1 ([] ++ xs) → W0.grownBy w1 (Value.slice (some ⟨w.heap.size + 2, 0, none⟩) 0 0).ownBlock → Hid (Own w1 (w.heap.size + 2) v1 xs ∧ Below (w.heap.size + 2) W0 w1)) := fun v1 w1 hO hg => hide ⟨by simpa using hO, (Below.refl _ _).grown hg (by omega) (fun k hk => (HE0.out.lt k hk).1)⟩
  clear k0 k1 b0
  rw [hW0] at HE0 HRd HSz HAp
  go_enter Try.func69, Try.ntmps69
  go_wp2_with (at_builtin; refine wpList_append_rd _ rfl _ _ 22 rfl Try.underlying22 info5 _ _ [] rfl HE0.out _ xs rfl HRd.out (by simp only [List.length_nil]; omega) HSz.out ?_; intro v1 w1 hO1 hg1; have H1 := HAp.out v1 w1 hO1 hg1; clear hO1 hg1)
  rw [← hW0] at H1
  clear HE0 HRd HSz HAp hW0
  go_loopw [7, 8] (fun v i wr => ∃ k : Nat, k ≤ us.length ∧ i = .int .i64 k ∧ wr.cell? ⟨w.heap.size, 1, none⟩ = some (.slice a1 us.length c1) ∧ Hid (Own wr (w.heap.size + 2) v (xs ++ partF cs K torn k) ∧ Below (w.heap.size + 2) W0 wr)) (fun _ i _ => us.length - (intOf i).toNat)
  case atStart => exact ⟨0, by omega, rfl, (HAt.out w1 H1.out.2).1, hide ⟨by simpa [partF] using H1.out.1, H1.out.2⟩⟩
  case round =>
    clear H1
    obtain ⟨k, hk, rfl, hbox, HR⟩ := hrel
    have hss := HR.out.2.size
    have BW := (HAt.out wr HR.out.2).2.2
    by_cases hlt : k < us.length
    · obtain ⟨ab, aoff, rfl, hca⟩ := ha3 (by omega)
      have hck := hca k hlt
      have hcl : wr.cell? ⟨ab, aoff + k, none⟩ = some (us.getD k (.slice none 0 0)) := (BW.cell (cell_lt hck)).trans hck
      have HCh : Hid (RdA wr (us.getD k (.slice none 0 0)) (cs.getD k [])) := (HS.out.2.2.below BW (Nat.le_refl _)).2 k hlt
      have hkc : k < cs.length := by rw [← HU.out]; exact hlt
      have hpl : (partF cs K torn k).length ≤ T := by rw [HTT.out]; exact part_le cs K torn k
      obtain ⟨⟨co, cc, hcv, hcc1, hcc2, _⟩, _⟩ := HCh.out
      have hchT : (cs.getD k []).length ≤ T := by rw [HTT.out]; exact flat_each (Nat.le_refl _)
      rw [hcv] at hcl HCh
      unfold maxLen at hcc2
      have HOwn : Hid (Own wr (w.heap.size + 2) u7 (xs ++ partF cs K torn k)) := HR.out.1
      have HSz : Hid (w.heap.size + 2 ≤ wr.heap.size) := by unfold Hid; omega
      have HNext : Hid (∀ ys v2 w2, partF cs K torn (k + 1) = partF cs K torn k ++ ys → Own w2 (w.heap.size + 2) v2 (xs ++ partF cs K torn k ++ ys) → wr.grownBy w2 u7.ownBlock → Hid (Own w2 (w.heap.size + 2) v2 (xs ++ partF cs K torn (k + 1)) ∧ Below (w.heap.size + 2) W0 w2) ∧ w2.cell? ⟨w.heap.size, 1, none⟩ = some (.slice (some ⟨ab, aoff, none⟩) us.length c1)) := fun ys v2 w2 he hO hg => by
        have hB : Below (w.heap.size + 2) W0 w2 := HR.out.2.grown hg (by omega) (fun j hj => (HOwn.out.lt j hj).1)
        refine ⟨hide ⟨by rw [he, ← List.append_assoc]; exact hO, hB⟩, (HAt.out w2 hB).1⟩
      clear hca hck ha3 BW hcv
      by_cases hb : k < K
      · have hbi : (k : Int) < K := by omega
        have hE := part_below (torn := torn) hkc hb
        have HE : Hid (partF cs K torn (k + 1) = partF cs K torn k ++ cs.getD k []) := hE
        clear hE hkc
        generalize cs.getD k [] = ch at HCh hcl hchT HE hcc1
        go_wp2_with (at_builtin; refine wpList_append_rd _ rfl _ _ 22 rfl Try.underlying22 info5 _ _ (xs ++ partF cs K torn k) rfl HOwn.out _ ch rfl HCh.out (by rw [List.length_append]; omega) HSz.out ?_; intro v2 w2 hO2 hg2; obtain ⟨H2, hb2⟩ := HNext.out ch v2 w2 HE.out (by first | exact hO2 | (rw [List.append_assoc]; exact hO2)) hg2; clear hO2 hg2)
        go_roundw
        case rel => exact ⟨k + 1, by omega, by go_num, hb2, H2⟩
        case measure => simp [intOf]; omega
      · have hbi : ¬ (k : Int) < K := by omega
        by_cases he : k = K
        · subst he
          have hq : ((k : Int) == (k : Int)) = true := by simp
          have hE : Hid (partF cs k torn (k + 1) = partF cs k torn k ++ (cs.getD k []).take torn) := part_at
          obtain ⟨L, hL, hL2, hLi⟩ : ∃ L, L ≤ (cs.getD k []).length ∧ (cs.getD k []).take torn = (cs.getD k []).take L ∧ ((torn ≤ (cs.getD k []).length ∧ L = torn) ∨ (¬ torn ≤ (cs.getD k []).length ∧ L = (cs.getD k []).length)) := by
            by_cases h : torn ≤ (cs.getD k []).length
            · exact ⟨torn, h, rfl, .inl ⟨h, rfl⟩⟩
            · exact ⟨_, Nat.le_refl _, by rw [List.take_length, List.take_of_length_le (by omega)], .inr ⟨h, rfl⟩⟩
          have HP : Hid (RdA wr (.slice co L cc) ((cs.getD k []).take torn)) := by rw [hL2]; exact pre_rd HCh.out hL
          have hPl : ((cs.getD k []).take torn).length ≤ T := by rw [List.length_take]; omega
          generalize (cs.getD k []).take torn = pc at hE HP hPl hL2
          clear hL2 hkc HCh
          generalize (cs.getD k []).length = M at hcl hL hLi hchT hcc1
          rcases hLi with ⟨hm, rfl⟩ | ⟨hm, rfl⟩
          · have hmi : (L : Int) ≤ M := by omega
            have hm3 : ¬ M < L := by omega
            have hm0 : (0 : Int) ≤ L := by omega
            have hm1 : (L : Int) ≤ cc := by omega
            go_wp2
            go_region_law (first | (refine step_append_rd _ rfl _ _ 22 rfl Try.underlying22 info5 (w.heap.size + 2) _ (xs ++ partF cs k L k) rfl (by exact HOwn.out) _ pc rfl (by exact HP.out) (by rw [List.length_append]; omega) (by exact HSz.out) ?_; intro v2 w2 hO2 hg2; obtain ⟨H2, hb2⟩ := HNext.out pc v2 w2 hE.out (by first | exact hO2 | (rw [List.append_assoc]; exact hO2)) ⟨hg2.os, hg2.tape, hg2.output, hg2.size, hg2.block⟩; clear hO2 hg2))
            all_goals
              go_wp2
              go_roundw
              case rel => exact ⟨k + 1, by omega, by go_num, hb2, H2⟩
              case measure => simp [intOf]; omega
          · have hmi : ¬ (torn : Int) ≤ L := by omega
            have hm3 : L < torn := by omega
            have hm2 : (L : Int) < torn := by omega
            have hm0 : (0 : Int) ≤ L := by omega
            have hm1 : (L : Int) ≤ cc := by omega
            go_wp2
            go_region_law (first | (refine step_append_rd _ rfl _ _ 22 rfl Try.underlying22 info5 (w.heap.size + 2) _ (xs ++ partF cs k torn k) rfl (by exact HOwn.out) _ pc rfl (by exact HP.out) (by rw [List.length_append]; omega) (by exact HSz.out) ?_; intro v2 w2 hO2 hg2; obtain ⟨H2, hb2⟩ := HNext.out pc v2 w2 hE.out (by first | exact hO2 | (rw [List.append_assoc]; exact hO2)) ⟨hg2.os, hg2.tape, hg2.output, hg2.size, hg2.block⟩; clear hO2 hg2))
            all_goals
              go_wp2
              go_roundw
              case rel => exact ⟨k + 1, by omega, by go_num, hb2, H2⟩
              case measure => simp [intOf]; omega
        · have hq : ((k : Int) == (K : Int)) = false := beq_eq_false_iff_ne.2 (by omega)
          have HE : Hid (partF cs K torn (k + 1) = partF cs K torn k) := part_above (by omega)
          have H2 : Hid (Own wr (w.heap.size + 2) u7 (xs ++ partF cs K torn (k + 1)) ∧ Below (w.heap.size + 2) W0 wr) := by rw [HE.out]; exact HR
          go_wp2
          go_roundw
          case rel => exact ⟨k + 1, by omega, by go_num, hbox, H2⟩
          case measure => simp [intOf]; omega
    · have hkl : k = cs.length := by rw [← HU.out]; omega
      have hO := HR.out.1
      rw [hkl, part_end] at hO
      obtain ⟨o9, c9, hv9, _⟩ := hO.rd
      subst hv9
      have kR := (HAt.out wr HR.out.2).2.1
      have d0 := cell_of kR (i := 0) rfl
      have d1 := cell_of kR (i := 1) rfl
      have e0 := frozen_of kR 0
      have e1 := frozen_of kR 1
      generalize hFE : crashF xs cs K torn = F at hO
      have HFE : Hid (crashF xs cs K torn = F) := hFE
      clear hFE
      have kf0 : (wr.setCell ⟨w.heap.size + 1, 0, none⟩ (.slice o9 F.length c9)).heap[w.heap.size + 1]? = some (.cells #[.slice o9 F.length c9, .slice none 0 0] 40 (0, 0)) := by
        have := heap_setCell_same wr (w.heap.size + 1) 0 _ 40 (.slice o9 F.length c9) kR
        simpa using this
      have kf : ((wr.setCell ⟨w.heap.size + 1, 0, none⟩ (.slice o9 F.length c9)).setCell ⟨w.heap.size + 1, 1, none⟩ (.slice none 0 0)).heap[w.heap.size + 1]? = some (.cells #[.slice o9 F.length c9, .slice none 0 0] 40 (0, 0)) := by
        have := heap_setCell_same _ (w.heap.size + 1) 1 _ 40 (.slice none 0 0) kf0
        simpa using this
      have g0 := cell_of kf (i := 0) rfl
      have g1 := cell_of kf (i := 1) rfl
      have HF : Hid (LeftAt w F (.agg #[.slice o9 F.length c9, .slice none 0 0]) ((wr.setCell ⟨w.heap.size + 1, 0, none⟩ (.slice o9 F.length c9)).setCell ⟨w.heap.size + 1, 1, none⟩ (.slice none 0 0))) := by
        have hne := own_other hO.2 kR (by decide)
        refine hide ⟨o9, c9, rfl, (own_setCell (own_setCell hO (a := ⟨w.heap.size + 1, 0, none⟩) hne _) (a := ⟨w.heap.size + 1, 1, none⟩) hne _).mono (by omega), (BW.setCell (p := ⟨w.heap.size + 1, 0, none⟩) (by simp) _).setCell (p := ⟨w.heap.size + 1, 1, none⟩) (by simp) _⟩
      clear hO kR kf kf0 HR BW
      go_wp2
      exact bodyPost_ret (v := .agg #[.slice o9 F.length c9, .slice none 0 0]) (by simp [results, Try.results69, go_sem, g0, g1]) rfl ⟨_, rfl, by rw [HFE.out]; exact HF.out⟩
end Go.Proofs.Ytipcdioolafkpaa.speccrash

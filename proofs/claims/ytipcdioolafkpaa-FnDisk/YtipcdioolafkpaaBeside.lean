/- The track's acts once more, beside a row of numbers that stays as it is. -/
import Derived.Test.YtipcdioolafkpaaDiskOf
namespace Go.Proofs.Ytipcdioolafkpaa.beside
open Go.ChangeShapes Go.WideShapes Go.ChangeAt Go.RowKit
open Go.Proofs.Ytipcdioolafkpaa.bytes Go.Proofs.Ytipcdioolafkpaa.pile Go.Proofs.Ytipcdioolafkpaa.reader Go.Proofs.Ytipcdioolafkpaa.lists Go.Proofs.Ytipcdioolafkpaa.sizes Go.Proofs.Ytipcdioolafkpaa.marked Go.Proofs.Ytipcdioolafkpaa.disks Go.Proofs.Ytipcdioolafkpaa.diskmarks Go.Proofs.Ytipcdioolafkpaa.specdisk Go.Proofs.Ytipcdioolafkpaa.tracks Go.Proofs.Ytipcdioolafkpaa.trackof Go.Proofs.Ytipcdioolafkpaa.crashes Go.Proofs.Ytipcdioolafkpaa.crashed Go.Proofs.Ytipcdioolafkpaa.acts Go.Proofs.Ytipcdioolafkpaa.diskof
set_option linter.unusedVariables false

/-- A row of numbers that is not the track's own. -/
def Side (w : World) (ev : Value) (rb : Nat) (rv : Value) (rn : Nat) (rus : List Value) : Prop := w.ownsRow rb 3 1 rv rn rus ∧ (rv.ownBlock = none ∨ rv.ownBlock ≠ ev.ownBlock)
theorem Side.below {w w' : World} {ev : Value} {rb : Nat} {rv : Value} {rn : Nat} {rus : List Value} (h : Side w ev rb rv rn rus) (hb : Below w.heap.size w w') : Side w' ev rb rv rn rus := ⟨ends_below h.1 hb (Nat.le_refl _), h.2⟩
theorem Side.set {w : World} {ev : Value} {rb : Nat} {rv : Value} {rn : Nat} {rus : List Value} (h : Side w ev rb rv rn rus) {d : Nat} {cur : Array Value} (k : w.heap[d]? = some (.cells cur 74 (0, 0))) (i : Nat) (u : Value) : Side (w.setCell ⟨d, i, none⟩ u) ev rb rv rn rus := ⟨ownsRow_setCell_other h.1 (a := ⟨d, i, none⟩) (own_other h.1 k (by decide)) _, h.2⟩
theorem Side.nil {w : World} {ev : Value} {rb : Nat} {rv : Value} {rn : Nat} {rus : List Value} (h : Side w ev rb rv rn rus) : Side w (.slice none 0 0) rb rv rn rus := ⟨h.1, by
  cases hv : rv.ownBlock with
  | none => exact .inl rfl
  | some k => exact .inr (by simp [Value.ownBlock])⟩
theorem Side.grown {w w' : World} {ev v : Value} {rb b2 : Nat} {rv : Value} {rn : Nat} {rus : List Value} {xs : List Int} (h : Side w ev rb rv rn rus) (hv : Own w b2 v xs) (hg : w.grownBy w' v.ownBlock) : Side w' ev rb rv rn rus := ⟨World.ownsRow.kept h.1 hg (rows_apart h.1 hv.2 (by decide)), h.2⟩

set_option maxHeartbeats 400000 in
theorem sync_side (w : World) (base d : Nat) (av : Value) (xs : List Int) (sy : Int) (ev : Value) (es : List Int) (h : TS w base d av xs sy ev es) (rb : Nat) (rv : Value) (rn : Nat) (rus : List Value) (hside : Side w ev rb rv rn rus) :
    Calls Try.prog 65 #[.pointer (some ⟨d, 0, none⟩)] w fun e w' => e = .returned (.tuple #[]) ∧ TS w' base d av xs xs.length (.slice none 0 0) [] ∧ Below base w w' ∧ Side w' (.slice none 0 0) rb rv rn rus := by
  have HT : Hid (TS w base d av xs sy ev es) := h
  obtain ⟨ao, ca, rfl, ha1, ha2, _⟩ := h.all.rd
  unfold maxLen at ha2
  have c0 := cell_of h.blk (i := 0) rfl
  have c1 := cell_of h.blk (i := 1) rfl
  have c2 := cell_of h.blk (i := 2) rfl
  have f1 := frozen_of h.blk 1
  have f2 := frozen_of h.blk 2
  have k1 : (w.setCell ⟨d, 1, none⟩ (.int .i64 xs.length)).heap[d]? = some (.cells #[.slice ao xs.length ca, .int .i64 xs.length, ev] 74 (0, 0)) := by
    have := heap_setCell_same w d 1 _ 74 (.int .i64 xs.length) h.blk
    simpa using this
  have c12 := cell_of k1 (i := 2) rfl
  have f12 := frozen_of k1 2
  have HF : Hid (TS ((w.setCell ⟨d, 1, none⟩ (.int .i64 xs.length)).setCell ⟨d, 2, none⟩ (.slice none 0 0)) base d (.slice ao xs.length ca) xs xs.length (.slice none 0 0) [] ∧ Below base w ((w.setCell ⟨d, 1, none⟩ (.int .i64 xs.length)).setCell ⟨d, 2, none⟩ (.slice none 0 0)) ∧ Side ((w.setCell ⟨d, 1, none⟩ (.int .i64 xs.length)).setCell ⟨d, 2, none⟩ (.slice none 0 0)) (.slice none 0 0) rb rv rn rus) := by
    have hn := own_other h.all.2 h.blk (by decide)
    refine hide ⟨⟨?_, own_setCell (own_setCell h.all hn _) (a := ⟨d, 2, none⟩) hn _, World.ownsRow_nil _ _ _ _, h.low⟩, ((Below.refl _ _).setCell (p := ⟨d, 1, none⟩) h.low _).setCell (p := ⟨d, 2, none⟩) h.low _, ((hside.set h.blk 1 _).set k1 2 _).nil⟩
    have := heap_setCell_same _ d 2 _ 74 (.slice none 0 0) k1
    simpa using this
  clear h k1 hside
  go_enter Try.func65, Try.ntmps65
  go_wp2
  go_end0
  exact ⟨rfl, HF.out⟩

set_option maxRecDepth 20000 in
set_option maxHeartbeats 1000000 in
theorem write_side (w : World) (base d : Nat) (av : Value) (xs : List Int) (sy : Int) (ev : Value) (es : List Int) (u : Value) (ys : List Int) (h : TS w base d av xs sy ev es) (hu : RdA w u ys) (hl : xs.length + ys.length ≤ 8192) (hes : es.length ≤ 1048576) (rb : Nat) (rv : Value) (rn : Nat) (rus : List Value) (hside : Side w ev rb rv rn rus) :
    Calls Try.prog 64 #[.pointer (some ⟨d, 0, none⟩), u] w fun e w' => e = .returned (.int .i64 0) ∧ ∃ av' ev', TS w' base d av' (xs ++ ys) sy ev' (es ++ [((xs.length + ys.length : Nat) : Int)]) ∧ Below base w w' ∧ Side w' ev' rb rv rn rus := by
  have HT : Hid (TS w base d av xs sy ev es ∧ RdA w u ys) := ⟨h, hu⟩
  have HSide : Hid (Side w ev rb rv rn rus) := hside
  clear hside
  obtain ⟨ao, ca, rfl, ha1, ha2, _⟩ := h.all.rd
  obtain ⟨⟨uo, uc, rfl, hu1, hu2, _⟩, _⟩ := hu
  unfold maxLen at ha2 hu2
  have hd := h.lt
  have hlow := h.low
  have c0 := cell_of h.blk (i := 0) rfl
  clear h
  have hm : ¬ (8192 : Int) < (xs.length : Int) + (ys.length : Int) := by omega
  obtain ⟨i0, hi, hz0, hz1, hz2⟩ := info_parts info3
  have HI : Hid (Try.prog.info? 3 = some i0 ∧ i0.zero = some (.int .i64 0) ∧ i0.size = 1 ∧ i0.bytes = 8) := ⟨hi, hz0, hz1, hz2⟩
  clear hi hz0 hz1 hz2
  go_enter Try.func64, Try.ntmps64
  go_wp2_with (at_builtin; refine wpList_append_rd _ rfl _ _ 22 rfl Try.underlying22 info5 base _ xs rfl HT.out.1.all _ ys rfl HT.out.2 (by omega) (by omega) ?_)
  intro v2 w2 hO2 hg2
  obtain ⟨o2, n2, hv2, _⟩ := hO2.rd
  rw [List.length_append] at hv2
  subst hv2
  have hdn : (Value.slice ao xs.length ca).ownBlock ≠ some d := own_other HT.out.1.all.2 HT.out.1.blk (by decide)
  have k2 : w2.heap[d]? = some (.cells #[.slice ao xs.length ca, .int .i64 sy, ev] 74 (0, 0)) := (hg2.block d hd (fun e => hdn e.symm)).trans HT.out.1.blk
  have c20 := cell_of k2 (i := 0) rfl
  have f20 := frozen_of k2 0
  have e2 := World.ownsRow.kept HT.out.1.ends hg2 (rows_apart HT.out.1.ends HT.out.1.all.2 (by decide))
  have B2 : Below base w w2 := (Below.refl _ _).grown hg2 (by omega) (fun k hk => (HT.out.1.all.lt k hk).1)
  have T3 : TS (w2.setCell ⟨d, 0, none⟩ (.slice o2 (xs.length + ys.length) n2)) base d (.slice o2 (xs.length + ys.length) n2) (xs ++ ys) sy ev es := by
    have hd2 : (Value.slice o2 (xs.length + ys.length) n2).ownBlock ≠ some d := own_other hO2.2 k2 (by decide)
    refine ⟨?_, own_setCell hO2 hd2 _, ownsRow_setCell_other e2 (own_other e2 k2 (by decide)) _, hlow⟩
    have := heap_setCell_same w2 d 0 _ 74 (.slice o2 (xs.length + ys.length) n2) k2
    simpa using this
  have B3 : Below base w (w2.setCell ⟨d, 0, none⟩ (.slice o2 (xs.length + ys.length) n2)) := B2.setCell (p := ⟨d, 0, none⟩) hlow _
  have S3 : Side (w2.setCell ⟨d, 0, none⟩ (.slice o2 (xs.length + ys.length) n2)) ev rb rv rn rus := (Side.grown HSide.out HT.out.1.all hg2).set k2 0 _
  clear hO2 hg2 hdn e2 B2
  go_wp2
  generalize w2.setCell ⟨d, 0, none⟩ (.slice o2 (xs.length + ys.length) n2) = w3 at T3 B3 S3 ⊢
  clear k2 c20 f20
  have hd3 := T3.lt
  have HT3 : Hid (TS w3 base d (.slice o2 (xs.length + ys.length) n2) (xs ++ ys) sy ev es) := T3
  have HB3 : Hid (Below base w w3) := B3
  have HS3 : Hid (Side w3 ev rb rv rn rus) := S3
  have c30 := cell_of T3.blk (i := 0) rfl
  have c32 := cell_of T3.blk (i := 2) rfl
  have f32 := frozen_of T3.blk 2
  have HDE : Hid (ev.ownBlock ≠ some d) := own_other T3.ends T3.blk (by decide)
  clear T3 B3 S3
  have HEnd : Hid (w3.ownsRow base 3 1 ev es.length (es.map (Value.int .i64))) := HT3.out.ends
  go_region_law (first | (refine step_append_lies _ rfl _ _ 38 rfl base 3 i0 (.int .i64 0) 1 8 Try.underlying38 HI.out.1 HI.out.2.1 HI.out.2.2.1 HI.out.2.2.2 rfl (by decide) ev es.length (es.map (Value.int .i64)) rfl (World.ownsRow.alloc (by exact HEnd.out) _) ⟨w3.heap.size, 0, none⟩ 1 1 [.int .i64 ((xs.length : Int) + (ys.length : Int))] rfl rfl (cell_one_new _ _ _) (by intro u hu; simp at hu; subst hu; rfl) (by decide) (by unfold maxLen; omega) (by omega) (by simp; omega) (w3.heap.size + 1) (by simp) ?_; intro g cap9 w9 hown hgrow hat hlt; have hb9 : w9.heap[d]? = w3.heap[d]? := (hgrow.block d (by simp; omega) (fun e => HDE.out e.symm)).trans (by exact Below.heap_alloc w3 _ d hd3); have hc9 : w9.cell? ⟨d, 2, none⟩ = some ev := (World.cell?_of_block hb9).trans c32; have hf9 : w9.frozen? ⟨d, 2, none⟩ = false := (World.frozen?_of_block hb9).trans f32))
  all_goals
    have HF : Hid (TS (w9.setCell ⟨d, 2, none⟩ (.slice (some ⟨g, 0, none⟩) (es.length + 1) cap9)) base d (.slice o2 (xs.length + ys.length) n2) (xs ++ ys) sy (.slice (some ⟨g, 0, none⟩) (es.length + 1) cap9) (es ++ [((xs.length + ys.length : Nat) : Int)]) ∧ Below base w (w9.setCell ⟨d, 2, none⟩ (.slice (some ⟨g, 0, none⟩) (es.length + 1) cap9)) ∧ Side (w9.setCell ⟨d, 2, none⟩ (.slice (some ⟨g, 0, none⟩) (es.length + 1) cap9)) (.slice (some ⟨g, 0, none⟩) (es.length + 1) cap9) rb rv rn rus) := by
      have hg : w3.grownBy w9 ev.ownBlock := grown_trans (World.grownBy_alloc w3 (.cells #[.int .i64 ((xs.length : Int) + (ys.length : Int))] 3) ev.ownBlock) ⟨hgrow.os, hgrow.tape, hgrow.output, hgrow.size, hgrow.block⟩
      have k9 : w9.heap[d]? = some (.cells #[.slice o2 (xs.length + ys.length) n2, .int .i64 sy, ev] 74 (0, 0)) := hb9.trans HT3.out.blk
      have hA : Own w9 base (.slice o2 (xs.length + ys.length) n2) (xs ++ ys) := own_kept HT3.out.all hg (rows_apart HT3.out.all.2 HEnd.out (by decide))
      refine hide ⟨⟨?_, own_setCell hA (own_other hA.2 k9 (by decide)) _, ?_, hlow⟩, (HB3.out.grown hg (by have := hd3; omega) (fun k hk => (World.ownsRow.lt HEnd.out k hk).1)).setCell (p := ⟨d, 2, none⟩) hlow _, ?_⟩
      · have := heap_setCell_same w9 d 2 _ 74 (.slice (some ⟨g, 0, none⟩) (es.length + 1) cap9) k9
        simpa using this
      · have e1 : (es ++ [((xs.length + ys.length : Nat) : Int)]).map (Value.int .i64) = es.map (Value.int .i64) ++ [Value.int .i64 ((xs.length : Int) + (ys.length : Int))] := by simp
        rw [e1, List.length_append]
        exact ownsRow_setCell_other hown (own_other hown k9 (by decide)) _
      · have hk9 := World.ownsRow.kept HS3.out.1 hg HS3.out.2
        refine ⟨ownsRow_setCell_other hk9 (a := ⟨d, 2, none⟩) (own_other hk9 k9 (by decide)) _, ?_⟩
        cases hv : rv.ownBlock with
        | none => exact .inl rfl
        | some k =>
          refine .inr fun e => ?_
          simp only [Value.ownBlock, Option.some.injEq] at e
          have hlt' := (World.ownsRow.lt HS3.out.1 k hv).2
          rcases hat with h1 | h1
          · rcases HS3.out.2 with h2 | h2
            · rw [h2] at hv; simp at hv
            · exact h2 (by rw [hv, h1, e])
          · omega
    clear hown hgrow hat hc9 hf9 hb9 HEnd HT3 HB3
    go_wp2
    go_ret
    exact ⟨rfl, _, _, HF.out⟩

set_option maxRecDepth 20000 in
set_option maxHeartbeats 1000000 in
theorem cut_side (w : World) (base d : Nat) (av : Value) (xs : List Int) (sy : Int) (ev : Value) (es : List Int) (h : TS w base d av xs sy ev es) (m : Nat) (hm : m ≤ xs.length) (hx : xs.length ≤ 8192) (rb : Nat) (rv : Value) (rn : Nat) (rus : List Value) (hside : Side w ev rb rv rn rus) :
    Calls Try.prog 66 #[.pointer (some ⟨d, 0, none⟩), .int .i64 m] w fun e w' => e = .returned (.int .i64 0) ∧ TS w' base d (.slice (some ⟨w.heap.size, 0, none⟩) m m) (xs.take m) m (.slice none 0 0) [] ∧ Below base w w' ∧ Side w' (.slice none 0 0) rb rv rn rus := by
  have HT : Hid (TS w base d av xs sy ev es) := h
  have HSide : Hid (Side w (.slice none 0 0) rb rv rn rus) := hside.nil
  clear hside
  obtain ⟨ao, ca, rfl, ha1, ha2, hxb, hcell⟩ := h.all.rd
  obtain ⟨eo, el, ec, rfl⟩ := row_slice h.ends
  unfold maxLen at ha2
  have HXb : Hid (∀ x ∈ xs, 0 ≤ x ∧ x ≤ 255) := hxb
  have HC : Hid (0 < xs.length → ∃ b off, ao = some ⟨b, off, none⟩ ∧ ∀ i, i < xs.length → w.cell? ⟨b, off + i, none⟩ = some (.int .u8 (xs.getD i 0))) := hcell
  have c0 := cell_of h.blk (i := 0) rfl
  have hd := h.lt
  have hlow := h.low
  clear h hxb hcell
  obtain ⟨i0, hi, hz0, hz1, hz2⟩ := info_parts info5
  have HI : Hid (Try.prog.info? 5 = some i0 ∧ i0.zero = some (.int .u8 0) ∧ i0.size = 1 ∧ i0.bytes = 1) := ⟨hi, hz0, hz1, hz2⟩
  clear hi hz0 hz1 hz2
  have hm1 : ¬ (m : Int) < 0 := by omega
  have hm2 : ¬ (xs.length : Int) < (m : Int) := by omega
  go_enter Try.func66, Try.ntmps66
  have c0' : w.cell? ⟨d, 0, none⟩ = some (.slice ao xs.length ca) := c0
  clear c0
  have HMade : Hid (∀ w1, w1.ownsRow w.heap.size 5 1 (.slice (some ⟨w.heap.size, 0, none⟩) m m) m (madeCells (Value.int .u8 0).cells (m * 1)).toList → w.grownBy w1 none → w1.cell? ⟨d, 0, none⟩ = some (.slice ao xs.length ca) ∧ Hid (Below w.heap.size w w1) ∧ Hid (w1.heap[w.heap.size]? = some (.cells ((List.replicate m (0 : Int)).map (Value.int .u8)).toArray 5 (0, 0))) ∧ Hid (0 < ((xs.take m).map (Value.int .u8)).length → ∃ ad, ao = some ad ∧ ∀ j v, ((xs.take m).map (Value.int .u8))[j]? = some v → w1.cell? (ad.add j) = some v)) := by
    intro w1 hown1 hgrow1
    rw [made_list] at hown1
    have b1 : Below w.heap.size w w1 := (Below.refl _ _).grown hgrow1 (Nat.le_refl _) (by simp)
    refine ⟨(b1.cell hd).trans c0', b1, made_of (cap := 0) hown1 (by simp), fun hp => ?_⟩
    rw [List.length_map, List.length_take] at hp
    obtain ⟨b, off, hao, hc⟩ := HC.out (by omega)
    refine ⟨⟨b, off, none⟩, hao, fun j v hv => ?_⟩
    simp only [List.getElem?_map, Option.map_eq_some_iff] at hv
    obtain ⟨z, hz, rfl⟩ := hv
    have hj := (List.getElem?_eq_some_iff.1 hz).1
    rw [List.length_take] at hj
    have hcj := hc j (by omega)
    rw [add_at, (b1.cell (cell_lt hcj)), hcj]
    rw [List.getElem?_take, if_pos (by omega)] at hz
    simp [List.getD_eq_getElem?_getD, hz]
  have HAtD : Hid (∀ wx, Below w.heap.size w wx → wx.cell? ⟨d, 0, none⟩ = some (.slice ao xs.length ca) ∧ wx.cell? ⟨d, 1, none⟩ = some (.int .i64 sy) ∧ wx.cell? ⟨d, 2, none⟩ = some (.slice eo el ec) ∧ wx.frozen? ⟨d, 0, none⟩ = false ∧ wx.frozen? ⟨d, 1, none⟩ = false ∧ wx.frozen? ⟨d, 2, none⟩ = false) := fun wx hb => by
    have k := (hb.block d hd).trans HT.out.blk
    exact ⟨cell_of k rfl, cell_of k rfl, cell_of k rfl, frozen_of k 0, frozen_of k 1, frozen_of k 2⟩
  have HFin : Hid (∀ w2, w2.heap[w.heap.size]? = some (.cells (splice ((List.replicate m (0 : Int)).map (Value.int .u8)) 0 ((xs.take m).map (Value.int .u8))).toArray 5 (0, 0)) → Below w.heap.size w w2 → TS (((w2.setCell ⟨d, 0, none⟩ (.slice (some ⟨w.heap.size, 0, none⟩) m m)).setCell ⟨d, 1, none⟩ (.int .i64 m)).setCell ⟨d, 2, none⟩ (.slice none 0 0)) base d (.slice (some ⟨w.heap.size, 0, none⟩) m m) (xs.take m) m (.slice none 0 0) [] ∧ Below base w (((w2.setCell ⟨d, 0, none⟩ (.slice (some ⟨w.heap.size, 0, none⟩) m m)).setCell ⟨d, 1, none⟩ (.int .i64 m)).setCell ⟨d, 2, none⟩ (.slice none 0 0)) ∧ Side (((w2.setCell ⟨d, 0, none⟩ (.slice (some ⟨w.heap.size, 0, none⟩) m m)).setCell ⟨d, 1, none⟩ (.int .i64 m)).setCell ⟨d, 2, none⟩ (.slice none 0 0)) (.slice none 0 0) rb rv rn rus) := fun w2 hk hb => by
    have k := (hb.block d hd).trans HT.out.blk
    have hlt : (xs.take m).length = m := by rw [List.length_take]; omega
    have hsp : splice ((List.replicate m (0 : Int)).map (Value.int .u8)) 0 ((xs.take m).map (Value.int .u8)) = (xs.take m).map (Value.int .u8) := by
      unfold splice
      simp only [List.take_zero, List.nil_append, Nat.zero_add]
      rw [List.drop_eq_nil_of_le (by rw [List.length_map, List.length_map, List.length_replicate, hlt]; omega), List.append_nil]
    rw [hsp] at hk
    have hO : Own w2 base (.slice (some ⟨w.heap.size, 0, none⟩) m m) (xs.take m) := by
      refine ⟨fun x hx => HXb.out x (List.mem_of_mem_take hx), ?_⟩
      rw [hlt]
      refine ⟨by rw [List.length_map, hlt]; omega, .inr ⟨w.heap.size, m, _, rfl, by omega, hk, Nat.le_refl _, by unfold maxLen; omega, by rw [List.size_toArray, List.length_map, hlt]; omega, ?_⟩⟩
      rw [Nat.mul_one]
      exact List.take_of_length_le (by simp only [List.length_map]; omega)
    refine ⟨⟨set3 k _ _ _, ⟨hO.1, row_set3 hO.2 k (by decide) _ _ _⟩, World.ownsRow_nil _ _ _ _, hlow⟩, below_set3 (hb.mono (by omega)) hlow _ _ _, row_set3 (HSide.out.below hb).1 k (by decide) _ _ _, HSide.out.2⟩
  have HOne : Hid (∀ v ∈ (xs.take m).map (Value.int .u8), v.oneCell' = true) := fun v hv => by
    obtain ⟨z, _, rfl⟩ := List.mem_map.1 hv
    rfl
  have HLen : Hid (((xs.take m).map (Value.int .u8)).length = Nat.min xs.length m) := by
    unfold Hid
    rw [List.length_map, List.length_take]
    show min m xs.length = min xs.length m
    omega
  have HFit : Hid (0 + ((xs.take m).map (Value.int .u8)).length ≤ ((List.replicate m (0 : Int)).map (Value.int .u8)).length) := by unfold Hid; simp; omega
  go_wp2_with (first | (at_make; refine wpList_make_full _ rfl _ _ 22 rfl w.heap.size 5 i0 (.int .u8 0) 1 Try.underlying22 HI.out.1 HI.out.2.1 HI.out.2.2.1 .i64 .i64 _ _ m rfl rfl rfl rfl (by rw [HI.out.2.2.2]; omega) (by unfold maxLen; omega) (Nat.le_refl _) ?_; intro w1 hown1 hgrow1; obtain ⟨c10, HB1, HK1, HSrc⟩ := HMade.out w1 hown1 hgrow1; clear hown1 hgrow1) | (refine wpList_copy_splice rfl _ _ 22 22 rfl 5 Try.underlying22 (by kernel_rfl) (some ⟨w.heap.size, 0, none⟩) ao m m xs.length ca rfl rfl w.heap.size 0 ((List.replicate m (0 : Int)).map (Value.int .u8)) 5 HK1.out ((xs.take m).map (Value.int .u8)) HLen.out (fun hp => ⟨rfl, HSrc.out hp⟩) HFit.out HOne.out w.heap.size w HB1.out (Nat.le_refl _) ?_; intro w2 hk2 b2; obtain ⟨q0, q1, q2, f0, f1, f2⟩ := HAtD.out w2 b2))
  go_ret
  exact ⟨rfl, HFin.out w2 hk2.out b2⟩

end Go.Proofs.Ytipcdioolafkpaa.beside

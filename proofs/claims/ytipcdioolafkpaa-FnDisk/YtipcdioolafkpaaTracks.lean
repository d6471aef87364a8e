/- Contracts of the program's track: what a write and a sync leave, and the track of a disk. -/
import Derived.Test.YtipcdioolafkpaaSpecDisk
import Derived.Deep.RegionLaw
import Derived.Deep.AppendLies
namespace Go.Proofs.Ytipcdioolafkpaa.tracks
open Go.ChangeShapes Go.WideShapes Go.ChangeAt Go.RowKit
open Go.Proofs.Ytipcdioolafkpaa.bytes Go.Proofs.Ytipcdioolafkpaa.pile Go.Proofs.Ytipcdioolafkpaa.reader Go.Proofs.Ytipcdioolafkpaa.lists Go.Proofs.Ytipcdioolafkpaa.sizes Go.Proofs.Ytipcdioolafkpaa.marked Go.Proofs.Ytipcdioolafkpaa.disks Go.Proofs.Ytipcdioolafkpaa.diskmarks Go.Proofs.Ytipcdioolafkpaa.specdisk
set_option linter.unusedVariables false

/-- The track at block d: its bytes, how many are synced, where the writes behind these end. -/
structure TS (w : World) (base d : Nat) (av : Value) (xs : List Int) (sy : Int) (ev : Value) (es : List Int) : Prop where
  blk : w.heap[d]? = some (.cells #[av, .int .i64 sy, ev] 74 (0, 0))
  all : Own w base av xs
  ends : w.ownsRow base 3 1 ev es.length (es.map (Value.int .i64))
  low : base ≤ d
theorem TS.lt {w : World} {base d : Nat} {av : Value} {xs : List Int} {sy : Int} {ev : Value} {es : List Int} (h : TS w base d av xs sy ev es) : d < w.heap.size := (Array.getElem?_eq_some_iff.1 h.blk).1
theorem ends_below {w w' : World} {base B e : Nat} {v : Value} {n : Nat} {us : List Value} (h : w.ownsRow base e 1 v n us) (hb : Below B w w') (hB : w.heap.size ≤ B) : w'.ownsRow base e 1 v n us := by
  obtain ⟨h1, h2 | ⟨g, c, cur, rfl, hbg, hg, r⟩⟩ := h
  · exact ⟨h1, .inl h2⟩
  · exact ⟨h1, .inr ⟨g, c, cur, rfl, hbg, (hb.block g (Nat.lt_of_lt_of_le (Array.getElem?_eq_some_iff.1 hg).1 hB)).trans hg, r⟩⟩
theorem TS.below {w w' : World} {base d : Nat} {av : Value} {xs : List Int} {sy : Int} {ev : Value} {es : List Int} (h : TS w base d av xs sy ev es) (hb : Below w.heap.size w w') : TS w' base d av xs sy ev es :=
  ⟨(hb.block d h.lt).trans h.blk, h.all.below hb (Nat.le_refl _), ends_below h.ends hb (Nat.le_refl _), h.low⟩
/-- Rows of two element types are two rows. -/
theorem rows_apart {w : World} {b1 b2 e1 e2 : Nat} {v1 v2 : Value} {n1 n2 : Nat} {us1 us2 : List Value} (h : w.ownsRow b1 e1 1 v1 n1 us1) (g : w.ownsRow b2 e2 1 v2 n2 us2) (hne : e1 ≠ e2) : v1.ownBlock = none ∨ v1.ownBlock ≠ v2.ownBlock := by
  cases hv : v1.ownBlock with
  | none => exact .inl rfl
  | some k =>
    refine .inr fun e => ?_
    obtain ⟨c1, k1⟩ := own_typed h hv
    exact own_other g k1 hne.symm e.symm
theorem info3 : (Try.prog.info? 3).map (fun i => (i.zero, i.size, i.bytes)) = some (some (.int .i64 0), 1, 8) := by kernel_rfl

set_option maxRecDepth 20000 in
set_option maxHeartbeats 1000000 in
theorem write_ok (w : World) (base d : Nat) (av : Value) (xs : List Int) (sy : Int) (ev : Value) (es : List Int) (u : Value) (ys : List Int) (h : TS w base d av xs sy ev es) (hu : RdA w u ys) (hl : xs.length + ys.length ≤ 8192) (hes : es.length ≤ 1048576) :
    Calls Try.prog 64 #[.pointer (some ⟨d, 0, none⟩), u] w fun e w' => e = .returned (.int .i64 0) ∧ ∃ av' ev', TS w' base d av' (xs ++ ys) sy ev' (es ++ [((xs.length + ys.length : Nat) : Int)]) ∧ Below base w w' := by
  have HT : Hid (TS w base d av xs sy ev es ∧ RdA w u ys) := ⟨h, hu⟩
  obtain ⟨ao, ca, rfl, ha1, ha2, _⟩ := h.all.rd
  obtain ⟨⟨uo, uc, rfl, hu1, hu2, _⟩, _⟩ := hu
  unfold maxLen at ha2 hu2
  have hd := h.lt
  have hlow := h.low
  have c0 := cell_of h.blk (i := 0) rfl
  clear h
  have hm : ¬ (8192 : Int) < (xs.length : Int) + (ys.length : Int) := by omega
  obtain ⟨i0, hi, hz0, hz1, hz2⟩ := info_parts info3
  have HI : Hid (Try.prog.info? 3 = some i0 ∧ i0.zero = some (.int .i64 0) ∧ i0.size = 1 ∧ i0.bytes = 8) := ⟨hi, hz0, hz1, hz2⟩
  clear hi hz0 hz1 hz2
  go_enter Try.func64, Try.ntmps64
  go_wp2_with (at_builtin; refine wpList_append_rd _ rfl _ _ 22 rfl Try.underlying22 info5 base _ xs rfl HT.out.1.all _ ys rfl HT.out.2 (by omega) (by omega) ?_)
  intro v2 w2 hO2 hg2
  obtain ⟨o2, n2, hv2, _⟩ := hO2.rd
  rw [List.length_append] at hv2
  subst hv2
  have hdn : (Value.slice ao xs.length ca).ownBlock ≠ some d := own_other HT.out.1.all.2 HT.out.1.blk (by decide)
  have k2 : w2.heap[d]? = some (.cells #[.slice ao xs.length ca, .int .i64 sy, ev] 74 (0, 0)) := (hg2.block d hd (fun e => hdn e.symm)).trans HT.out.1.blk
  have c20 := cell_of k2 (i := 0) rfl
  have f20 := frozen_of k2 0
  have e2 := World.ownsRow.kept HT.out.1.ends hg2 (rows_apart HT.out.1.ends HT.out.1.all.2 (by decide))
  have B2 : Below base w w2 := (Below.refl _ _).grown hg2 (by omega) (fun k hk => (HT.out.1.all.lt k hk).1)
  have T3 : TS (w2.setCell ⟨d, 0, none⟩ (.slice o2 (xs.length + ys.length) n2)) base d (.slice o2 (xs.length + ys.length) n2) (xs ++ ys) sy ev es := by
    have hd2 : (Value.slice o2 (xs.length + ys.length) n2).ownBlock ≠ some d := own_other hO2.2 k2 (by decide)
    refine ⟨?_, own_setCell hO2 hd2 _, ownsRow_setCell_other e2 (own_other e2 k2 (by decide)) _, hlow⟩
    have := heap_setCell_same w2 d 0 _ 74 (.slice o2 (xs.length + ys.length) n2) k2
    simpa using this
  have B3 : Below base w (w2.setCell ⟨d, 0, none⟩ (.slice o2 (xs.length + ys.length) n2)) := B2.setCell (p := ⟨d, 0, none⟩) hlow _
  clear hO2 hg2 hdn e2 B2
  go_wp2
  generalize w2.setCell ⟨d, 0, none⟩ (.slice o2 (xs.length + ys.length) n2) = w3 at T3 B3 ⊢
  clear k2 c20 f20
  have hd3 := T3.lt
  have HT3 : Hid (TS w3 base d (.slice o2 (xs.length + ys.length) n2) (xs ++ ys) sy ev es) := T3
  have HB3 : Hid (Below base w w3) := B3
  have c30 := cell_of T3.blk (i := 0) rfl
  have c32 := cell_of T3.blk (i := 2) rfl
  have f32 := frozen_of T3.blk 2
  have HDE : Hid (ev.ownBlock ≠ some d) := own_other T3.ends T3.blk (by decide)
  clear T3 B3
  have HEnd : Hid (w3.ownsRow base 3 1 ev es.length (es.map (Value.int .i64))) := HT3.out.ends
  go_region_law (first | (refine step_append_lies _ rfl _ _ 38 rfl base 3 i0 (.int .i64 0) 1 8 Try.underlying38 HI.out.1 HI.out.2.1 HI.out.2.2.1 HI.out.2.2.2 rfl (by decide) ev es.length (es.map (Value.int .i64)) rfl (World.ownsRow.alloc (by exact HEnd.out) _) ⟨w3.heap.size, 0, none⟩ 1 1 [.int .i64 ((xs.length : Int) + (ys.length : Int))] rfl rfl (cell_one_new _ _ _) (by intro u hu; simp at hu; subst hu; rfl) (by decide) (by unfold maxLen; omega) (by omega) (by simp; omega) (w3.heap.size + 1) (by simp) ?_; intro g cap9 w9 hown hgrow hat hlt; have hb9 : w9.heap[d]? = w3.heap[d]? := (hgrow.block d (by simp; omega) (fun e => HDE.out e.symm)).trans (by exact Below.heap_alloc w3 _ d hd3); have hc9 : w9.cell? ⟨d, 2, none⟩ = some ev := (World.cell?_of_block hb9).trans c32; have hf9 : w9.frozen? ⟨d, 2, none⟩ = false := (World.frozen?_of_block hb9).trans f32))
  all_goals
    have HF : Hid (TS (w9.setCell ⟨d, 2, none⟩ (.slice (some ⟨g, 0, none⟩) (es.length + 1) cap9)) base d (.slice o2 (xs.length + ys.length) n2) (xs ++ ys) sy (.slice (some ⟨g, 0, none⟩) (es.length + 1) cap9) (es ++ [((xs.length + ys.length : Nat) : Int)]) ∧ Below base w (w9.setCell ⟨d, 2, none⟩ (.slice (some ⟨g, 0, none⟩) (es.length + 1) cap9))) := by
      have hg : w3.grownBy w9 ev.ownBlock := grown_trans (World.grownBy_alloc w3 (.cells #[.int .i64 ((xs.length : Int) + (ys.length : Int))] 3) ev.ownBlock) ⟨hgrow.os, hgrow.tape, hgrow.output, hgrow.size, hgrow.block⟩
      have k9 : w9.heap[d]? = some (.cells #[.slice o2 (xs.length + ys.length) n2, .int .i64 sy, ev] 74 (0, 0)) := hb9.trans HT3.out.blk
      have hA : Own w9 base (.slice o2 (xs.length + ys.length) n2) (xs ++ ys) := own_kept HT3.out.all hg (rows_apart HT3.out.all.2 HEnd.out (by decide))
      refine hide ⟨⟨?_, own_setCell hA (own_other hA.2 k9 (by decide)) _, ?_, hlow⟩, (HB3.out.grown hg (by have := hd3; omega) (fun k hk => (World.ownsRow.lt HEnd.out k hk).1)).setCell (p := ⟨d, 2, none⟩) hlow _⟩
      · have := heap_setCell_same w9 d 2 _ 74 (.slice (some ⟨g, 0, none⟩) (es.length + 1) cap9) k9
        simpa using this
      · have e1 : (es ++ [((xs.length + ys.length : Nat) : Int)]).map (Value.int .i64) = es.map (Value.int .i64) ++ [Value.int .i64 ((xs.length : Int) + (ys.length : Int))] := by simp
        rw [e1, List.length_append]
        exact ownsRow_setCell_other hown (own_other hown k9 (by decide)) _
    clear hown hgrow hat hc9 hf9 hb9 HEnd HT3 HB3
    go_wp2
    go_ret
    exact ⟨rfl, _, _, HF.out⟩
end Go.Proofs.Ytipcdioolafkpaa.tracks

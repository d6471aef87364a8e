/- Contracts of the program's track of a disk, and of its bytes. -/
import Derived.Test.YtipcdioolafkpaaTracks
namespace Go.Proofs.Ytipcdioolafkpaa.trackof
open Go.ChangeShapes Go.WideShapes Go.ChangeAt Go.RowKit
open Go.Proofs.Ytipcdioolafkpaa.bytes Go.Proofs.Ytipcdioolafkpaa.pile Go.Proofs.Ytipcdioolafkpaa.reader Go.Proofs.Ytipcdioolafkpaa.lists Go.Proofs.Ytipcdioolafkpaa.sizes Go.Proofs.Ytipcdioolafkpaa.marked Go.Proofs.Ytipcdioolafkpaa.disks Go.Proofs.Ytipcdioolafkpaa.diskmarks Go.Proofs.Ytipcdioolafkpaa.specdisk Go.Proofs.Ytipcdioolafkpaa.tracks
set_option linter.unusedVariables false

set_option maxHeartbeats 400000 in
theorem write_many (w : World) (base d : Nat) (av : Value) (xs : List Int) (sy : Int) (ev : Value) (es : List Int) (u : Value) (ys : List Int) (h : TS w base d av xs sy ev es) (hu : RdA w u ys) (hl : 8192 < xs.length + ys.length) (hx : xs.length ≤ 8192) (hy : ys.length ≤ 1099511627776) :
    Calls Try.prog 64 #[.pointer (some ⟨d, 0, none⟩), u] w fun e w' => e = .returned (.int .i64 7) ∧ w' = w := by
  obtain ⟨ao, ca, rfl, ha1, ha2, _⟩ := h.all.rd
  obtain ⟨⟨uo, uc, rfl, hu1, hu2, _⟩, _⟩ := hu
  unfold maxLen at ha2 hu2
  have c0 := cell_of h.blk (i := 0) rfl
  clear h
  have hm : (8192 : Int) < (xs.length : Int) + (ys.length : Int) := by omega
  go_enter Try.func64, Try.ntmps64
  go_wp2
  go_ret
  exact ⟨rfl, rfl⟩

set_option maxHeartbeats 400000 in
theorem sync_any (w : World) (base d : Nat) (av : Value) (xs : List Int) (sy : Int) (ev : Value) (es : List Int) (h : TS w base d av xs sy ev es) :
    Calls Try.prog 65 #[.pointer (some ⟨d, 0, none⟩)] w fun e w' => e = .returned (.tuple #[]) ∧ TS w' base d av xs xs.length (.slice none 0 0) [] ∧ Below base w w' := by
  have HT : Hid (TS w base d av xs sy ev es) := h
  obtain ⟨ao, ca, rfl, ha1, ha2, _⟩ := h.all.rd
  unfold maxLen at ha2
  have c0 := cell_of h.blk (i := 0) rfl
  have c1 := cell_of h.blk (i := 1) rfl
  have c2 := cell_of h.blk (i := 2) rfl
  have f1 := frozen_of h.blk 1
  have f2 := frozen_of h.blk 2
  have k1 : (w.setCell ⟨d, 1, none⟩ (.int .i64 xs.length)).heap[d]? = some (.cells #[.slice ao xs.length ca, .int .i64 xs.length, ev] 74 (0, 0)) := by
    have := heap_setCell_same w d 1 _ 74 (.int .i64 xs.length) h.blk
    simpa using this
  have c12 := cell_of k1 (i := 2) rfl
  have f12 := frozen_of k1 2
  have HF : Hid (TS ((w.setCell ⟨d, 1, none⟩ (.int .i64 xs.length)).setCell ⟨d, 2, none⟩ (.slice none 0 0)) base d (.slice ao xs.length ca) xs xs.length (.slice none 0 0) [] ∧ Below base w ((w.setCell ⟨d, 1, none⟩ (.int .i64 xs.length)).setCell ⟨d, 2, none⟩ (.slice none 0 0))) := by
    have hn := own_other h.all.2 h.blk (by decide)
    refine hide ⟨⟨?_, own_setCell (own_setCell h.all hn _) (a := ⟨d, 2, none⟩) hn _, World.ownsRow_nil _ _ _ _, h.low⟩, ((Below.refl _ _).setCell (p := ⟨d, 1, none⟩) h.low _).setCell (p := ⟨d, 2, none⟩) h.low _⟩
    have := heap_setCell_same _ d 2 _ 74 (.slice none 0 0) k1
    simpa using this
  clear h k1
  go_enter Try.func65, Try.ntmps65
  go_wp2
  go_end0
  exact ⟨rfl, HF.out⟩

/-- Where the writes behind the first n bytes end. -/
def endsTo (n : Nat) (cs : List (List Int)) (k : Nat) : List Int := (List.range k).map fun i => ((n + sizeTo cs (i + 1) : Nat) : Int)
theorem endsTo_length (n : Nat) (cs : List (List Int)) (k : Nat) : (endsTo n cs k).length = k := by simp [endsTo]
theorem endsTo_succ (n : Nat) (cs : List (List Int)) (k : Nat) : endsTo n cs (k + 1) = endsTo n cs k ++ [((n + sizeTo cs (k + 1) : Nat) : Int)] := by simp [endsTo, List.range_succ]

/-- What the track of a disk is: the disk is right, and all its bytes lie on it; or it is not. -/
def TrackE (w : World) (xs : List Int) (cs : List (List Int)) (e : Ending) (w' : World) : Prop :=
  (Right xs cs ∧ ∃ ao ca ev, e = .returned (.tuple #[.agg #[.slice ao (xs ++ cs.flatten).length ca, .int .i64 xs.length, ev], .bool true]) ∧ Own w' w.heap.size (.slice ao (xs ++ cs.flatten).length ca) (xs ++ cs.flatten) ∧ w'.ownsRow w.heap.size 3 1 ev cs.length ((endsTo xs.length cs cs.length).map (Value.int .i64))) ∨
  (¬ Right xs cs ∧ e = .returned (.tuple #[.agg #[.slice none 0 0, .int .i64 0, .slice none 0 0], .bool false]))

theorem set3 {W : World} {b t : Nat} {a0 a1 a2 : Value} (k : W.heap[b]? = some (.cells #[a0, a1, a2] t (0, 0))) (v0 v1 v2 : Value) :
    (((W.setCell ⟨b, 0, none⟩ v0).setCell ⟨b, 1, none⟩ v1).setCell ⟨b, 2, none⟩ v2).heap[b]? = some (.cells #[v0, v1, v2] t (0, 0)) := by
  have k1 : (W.setCell ⟨b, 0, none⟩ v0).heap[b]? = some (.cells #[v0, a1, a2] t (0, 0)) := by
    have := heap_setCell_same W b 0 _ t v0 k
    simpa using this
  have k2 : ((W.setCell ⟨b, 0, none⟩ v0).setCell ⟨b, 1, none⟩ v1).heap[b]? = some (.cells #[v0, v1, a2] t (0, 0)) := by
    have := heap_setCell_same _ b 1 _ t v1 k1
    simpa using this
  have := heap_setCell_same _ b 2 _ t v2 k2
  simpa using this
theorem below_set3 {w W : World} {B b : Nat} (h : Below B w W) (hb : B ≤ b) (v0 v1 v2 : Value) : Below B w (((W.setCell ⟨b, 0, none⟩ v0).setCell ⟨b, 1, none⟩ v1).setCell ⟨b, 2, none⟩ v2) :=
  ((h.setCell (p := ⟨b, 0, none⟩) hb _).setCell (p := ⟨b, 1, none⟩) hb _).setCell (p := ⟨b, 2, none⟩) hb _
theorem row_slice {w : World} {base e : Nat} {v : Value} {n : Nat} {us : List Value} (h : w.ownsRow base e 1 v n us) : ∃ o l c, v = .slice o l c := by
  obtain ⟨_, ⟨rfl, _⟩ | ⟨g, c, cur, rfl, _⟩⟩ := h
  · exact ⟨_, _, _, rfl⟩
  · exact ⟨_, _, _, rfl⟩
theorem row_set3 {W : World} {b t base e : Nat} {cur : Array Value} {v : Value} {n : Nat} {us : List Value} (h : W.ownsRow base e 1 v n us) (k : W.heap[b]? = some (.cells cur t (0, 0))) (hne : e ≠ t) (v0 v1 v2 : Value) :
    (((W.setCell ⟨b, 0, none⟩ v0).setCell ⟨b, 1, none⟩ v1).setCell ⟨b, 2, none⟩ v2).ownsRow base e 1 v n us := by
  have hd := own_other h k hne
  exact ownsRow_setCell_other (ownsRow_setCell_other (ownsRow_setCell_other h (a := ⟨b, 0, none⟩) hd _) (a := ⟨b, 1, none⟩) hd _) (a := ⟨b, 2, none⟩) hd _

set_option maxRecDepth 20000 in
set_option maxHeartbeats 2000000 in
theorem trackOf_any (w : World) (s p : Value) (xs : List Int) (us : List Value) (cs : List (List Int)) (h1 : RdA w s xs) (h2 : RdS w p us) (h3 : Texts w us cs) (hl : xs.length + cs.flatten.length ≤ 1099511627776) :
    Calls Try.prog 50 #[.agg #[s, p]] w fun e w' => TrackE w xs cs e w' ∧ Below w.heap.size w w' := by
  have HU : Hid (us.length = cs.length) := h3.1
  have HS : Hid (RdA w s xs ∧ RdS w p us ∧ Texts w us cs) := ⟨h1, h2, h3⟩
  obtain ⟨⟨a0, c0, rfl, hc1, hc2, _⟩, _⟩ := h1
  obtain ⟨a1, c1, rfl, ha1, ha2, ha3⟩ := h2
  unfold maxLen at ha2 hc2
  clear h3
  obtain ⟨T, hT⟩ : ∃ T, T = cs.flatten.length := ⟨_, rfl⟩
  have HTT : Hid (T = cs.flatten.length) := hT
  rw [← hT] at hl
  clear hT
  obtain ⟨W0, hW0⟩ : ∃ W0, W0 = ((w.alloc (.cells #[.slice a0 xs.length c0, .slice a1 us.length c1] 40)).alloc (.cells #[.slice none 0 0, .int .i64 0, .slice none 0 0] 74)).alloc (.cells #[.slice none 0 0, .int .i64 0, .slice none 0 0] 74) := ⟨_, rfl⟩
  have sz0 : W0.heap.size = w.heap.size + 3 := by rw [hW0]; simp
  have b0 : Below w.heap.size w W0 := by rw [hW0]; exact (((Below.refl _ _).alloc (Nat.le_refl _) _).alloc (by simp) _).alloc (by simp; omega) _
  have k0 : W0.heap[w.heap.size]? = some (.cells #[.slice a0 xs.length c0, .slice a1 us.length c1] 40 (0, 0)) := by rw [hW0]; exact (three_blocks w _ _ _).1
  have k1 : W0.heap[w.heap.size + 1]? = some (.cells #[.slice none 0 0, .int .i64 0, .slice none 0 0] 74 (0, 0)) := by rw [hW0]; exact (three_blocks w _ _ _).2.1
  have k2 : W0.heap[w.heap.size + 2]? = some (.cells #[.slice none 0 0, .int .i64 0, .slice none 0 0] 74 (0, 0)) := by rw [hW0]; exact (three_blocks w _ _ _).2.2
  have HW0 : Hid (W0.heap.size = w.heap.size + 3 ∧ Below w.heap.size w W0 ∧ W0.heap[w.heap.size]? = some (.cells #[.slice a0 xs.length c0, .slice a1 us.length c1] 40 (0, 0)) ∧ W0.heap[w.heap.size + 1]? = some (.cells #[.slice none 0 0, .int .i64 0, .slice none 0 0] 74 (0, 0))) := ⟨sz0, b0, k0, k1⟩
  have HNo : Hid (∀ wr, Below (w.heap.size + 2) W0 wr → ¬ Right xs cs → TrackE w xs cs (.returned (.tuple #[.agg #[.slice none 0 0, .int .i64 0, .slice none 0 0], .bool false])) (((wr.setCell ⟨w.heap.size + 1, 0, none⟩ (.slice none 0 0)).setCell ⟨w.heap.size + 1, 1, none⟩ (.int .i64 0)).setCell ⟨w.heap.size + 1, 2, none⟩ (.slice none 0 0)) ∧ Below w.heap.size w (((wr.setCell ⟨w.heap.size + 1, 0, none⟩ (.slice none 0 0)).setCell ⟨w.heap.size + 1, 1, none⟩ (.int .i64 0)).setCell ⟨w.heap.size + 1, 2, none⟩ (.slice none 0 0))) := fun wr hb hn =>
    ⟨.inr ⟨hn, rfl⟩, below_set3 (b0.trans (hb.mono (by omega))) (by omega) _ _ _⟩
  have HCells : Hid (∀ wr, Below (w.heap.size + 2) W0 wr → wr.heap[w.heap.size + 1]? = some (.cells #[.slice none 0 0, .int .i64 0, .slice none 0 0] 74 (0, 0))) := fun wr hb => (hb.block _ (by omega)).trans k1
  by_cases hmany : (200 : Int) < us.length
  · have hn : ¬ Right xs cs := fun h => by have := h.1; rw [← HU.out] at this; omega
    have HB0 : Hid (Below w.heap.size w W0) := b0
    rw [hW0] at HB0
    have HN : Hid (¬ Right xs cs) := hn
    clear hn
    go_enter Try.func50, Try.ntmps50
    go_wp2
    exact bodyPost_ret (v := .tuple #[.agg #[.slice none 0 0, .int .i64 0, .slice none 0 0], .bool false]) (by simp [results, Try.results50, go_sem]) rfl ⟨.inr ⟨HN.out, rfl⟩, HB0.out⟩
  have T0 : TS W0 (w.heap.size + 2) (w.heap.size + 2) (.slice none 0 0) [] 0 (.slice none 0 0) [] := ⟨k2, ⟨by simp, World.ownsRow_nil _ _ _ _⟩, World.ownsRow_nil _ _ _ _, Nat.le_refl _⟩
  have hRd0 := HS.out.1.below b0 (Nat.le_refl _)
  by_cases hbig : 8192 < xs.length
  · have HN : Hid (¬ Right xs cs) := fun h => by have := h.2; omega
    have hC := write_many W0 _ _ _ [] 0 _ [] _ xs T0 hRd0 (by simp; omega) (by simp) (by omega)
    have HB0 : Hid (Below w.heap.size w W0) := b0
    rw [hW0] at hC
    go_enter Try.func50, Try.ntmps50
    go_wp2_with fail
    refine hC.mono ?_
    rw [← hW0]
    rintro e w1 ⟨rfl, hw1⟩
    have hw1' := hw1.symm
    subst hw1'
    have d0 := cell_of k1 (i := 0) rfl
    have d1 := cell_of k1 (i := 1) rfl
    have d2 := cell_of k1 (i := 2) rfl
    have e0 := frozen_of k1 0
    have e1 := frozen_of k1 1
    have e2 := frozen_of k1 2
    have kf := set3 k1 (.slice none 0 0) (.int .i64 0) (.slice none 0 0)
    have g0 := cell_of kf (i := 0) rfl
    have g1 := cell_of kf (i := 1) rfl
    have g2 := cell_of kf (i := 2) rfl
    have HE := HNo.out W0 (Below.refl _ _) HN.out
    clear hC T0 k0 k1 k2 kf hRd0
    clear hW0
    go_wp2
    exact bodyPost_ret (v := .tuple #[.agg #[.slice none 0 0, .int .i64 0, .slice none 0 0], .bool false]) (by simp [results, Try.results50, go_sem, g0, g1, g2]) rfl HE
  have hC := write_ok W0 _ _ _ [] 0 _ [] _ xs T0 hRd0 (by simp; omega) (by simp)
  rw [hW0] at hC
  go_enter Try.func50, Try.ntmps50
  go_wp2_with fail
  refine hC.mono ?_
  rw [← hW0]
  rintro e w1 ⟨rfl, av1, ev1, T1, b1⟩
  have s1 := b1.size
  clear hC hRd0 T0 hW0
  rw [List.nil_append] at T1
  have k10 : w1.heap[w.heap.size]? = some (.cells #[.slice a0 xs.length c0, .slice a1 us.length c1] 40 (0, 0)) := (b1.block _ (by omega)).trans k0
  go_wp2_with fail
  refine (sync_any w1 _ _ av1 xs 0 ev1 _ T1).mono ?_
  rintro e w2 ⟨rfl, T2, b2⟩
  have s2 := b2.size
  have B2 : Below (w.heap.size + 2) W0 w2 := b1.trans b2
  have k20 : w2.heap[w.heap.size]? = some (.cells #[.slice a0 xs.length c0, .slice a1 us.length c1] 40 (0, 0)) := (b2.block _ (by omega)).trans k10
  have c201 := cell_of k20 (i := 1) rfl
  have H2 : Hid (TS w2 (w.heap.size + 2) (w.heap.size + 2) av1 xs xs.length (.slice none 0 0) [] ∧ Below (w.heap.size + 2) W0 w2) := ⟨T2, B2⟩
  clear T1 T2 b1 b2 B2 k0 k1 k2 k10 k20 b0
  go_wp2
  go_loopw [22] (fun i wr => ∃ (k : Nat) (av ev : Value), k ≤ us.length ∧ i = .int .i64 k ∧ xs.length + sizeTo cs k ≤ 8192 ∧ Hid (TS wr (w.heap.size + 2) (w.heap.size + 2) av (xs ++ (cs.take k).flatten) xs.length ev (endsTo xs.length cs k) ∧ Below (w.heap.size + 2) W0 wr)) (fun i _ => us.length - (intOf i).toNat)
  case atStart => exact ⟨0, av1, .slice none 0 0, by omega, rfl, by simp [sizeTo]; omega, hide ⟨by simpa [endsTo] using H2.out.1, H2.out.2⟩⟩
  case round =>
    clear H2
    obtain ⟨k, av, ev, hk, rfl, hsz, HR⟩ := hrel
    have BW : Below w.heap.size w wr := HW0.out.2.1.trans (HR.out.2.mono (by omega))
    have hss := HR.out.2.size
    have kR := HCells.out wr HR.out.2
    by_cases hlt : k < us.length
    · obtain ⟨ab, aoff, rfl, hca⟩ := ha3 (by omega)
      have hck := hca k hlt
      have hcl : wr.cell? ⟨ab, aoff + k, none⟩ = some (us.getD k (.slice none 0 0)) := (BW.cell (cell_lt hck)).trans hck
      have HCh : Hid (RdA wr (us.getD k (.slice none 0 0)) (cs.getD k [])) := (HS.out.2.2.below BW (Nat.le_refl _)).2 k hlt
      have HSu : Hid (sizeTo cs (k + 1) = sizeTo cs k + (cs.getD k []).length) := sizeTo_succ (xss := cs) (k := k) (by rw [← HU.out]; exact hlt)
      have hsT : sizeTo cs (k + 1) ≤ T := by rw [HTT.out]; exact sizeTo_le cs (k + 1)
      have HF : Hid ((cs.take (k + 1)).flatten = (cs.take k).flatten ++ cs.getD k []) := flat_succ (by rw [← HU.out]; exact hlt)
      have hlen : (xs ++ (cs.take k).flatten).length = xs.length + sizeTo cs k := by rw [List.length_append]; rfl
      have hchT : (cs.getD k []).length ≤ 1099511627776 := by have := HSu.out; omega
      generalize us.getD k (.slice none 0 0) = u at hcl HCh
      clear hca hck ha3 BW
      by_cases hover : 8192 < xs.length + sizeTo cs (k + 1)
      · have HN : Hid (¬ Right xs cs) := fun h => by have h1 := h.2; rw [← HTT.out] at h1; omega
        have hC := write_many wr _ _ av _ _ ev _ u (cs.getD k []) HR.out.1 HCh.out (by rw [hlen]; have := HSu.out; omega) (by rw [hlen]; exact hsz) hchT
        go_wp2_with fail
        refine hC.mono ?_
        rintro e w3 ⟨rfl, hw3⟩
        have hw3' := hw3.symm
        subst hw3'
        have d0 := cell_of kR (i := 0) rfl
        have d1 := cell_of kR (i := 1) rfl
        have d2 := cell_of kR (i := 2) rfl
        have e0 := frozen_of kR 0
        have e1 := frozen_of kR 1
        have e2 := frozen_of kR 2
        have kf := set3 kR (.slice none 0 0) (.int .i64 0) (.slice none 0 0)
        have g0 := cell_of kf (i := 0) rfl
        have g1 := cell_of kf (i := 1) rfl
        have g2 := cell_of kf (i := 2) rfl
        have HE := HNo.out wr HR.out.2 HN.out
        clear hC kf hlen
        go_wp2
        exact bodyPost_ret (v := .tuple #[.agg #[.slice none 0 0, .int .i64 0, .slice none 0 0], .bool false]) (by simp [results, Try.results50, go_sem, g0, g1, g2]) rfl HE
      · have hC := write_ok wr _ _ av _ _ ev _ u (cs.getD k []) HR.out.1 HCh.out (by rw [hlen]; have := HSu.out; omega) (by rw [endsTo_length]; omega)
        rw [hlen] at hC
        go_wp2_with fail
        refine hC.mono ?_
        rintro e w3 ⟨rfl, av3, ev3, T3, b3⟩
        have H3 : Hid (TS w3 (w.heap.size + 2) (w.heap.size + 2) av3 (xs ++ (cs.take (k + 1)).flatten) xs.length ev3 (endsTo xs.length cs (k + 1)) ∧ Below (w.heap.size + 2) W0 w3) := by
          refine hide ⟨?_, HR.out.2.trans b3⟩
          rw [HF.out, endsTo_succ, HSu.out, ← List.append_assoc]
          rw [Nat.add_assoc] at T3
          exact T3
        clear T3 b3 hC kR hlen HR HCh
        go_wp2
        go_roundw
        case rel => exact ⟨k + 1, av3, ev3, by omega, by go_num, by omega, H3⟩
        case measure => simp [intOf]; omega
    · have hkT : sizeTo cs k = T := by
        rw [HTT.out]
        unfold sizeTo
        rw [List.take_of_length_le (by rw [← HU.out]; omega)]
      have HRight : Hid (Right xs cs) := ⟨by rw [← HU.out]; omega, by rw [← HTT.out]; omega⟩
      have hkl : k = cs.length := by rw [← HU.out]; omega
      have TT := HR.out.1
      rw [List.take_of_length_le (by omega), hkl] at TT
      obtain ⟨ao9, ca9, hav, _⟩ := TT.all.rd
      subst hav
      obtain ⟨eo, el, ec, hev⟩ := row_slice TT.ends
      subst hev
      have t0 := cell_of TT.blk (i := 0) rfl
      have t1 := cell_of TT.blk (i := 1) rfl
      have t2 := cell_of TT.blk (i := 2) rfl
      have d0 := cell_of kR (i := 0) rfl
      have d1 := cell_of kR (i := 1) rfl
      have d2 := cell_of kR (i := 2) rfl
      have e0 := frozen_of kR 0
      have e1 := frozen_of kR 1
      have e2 := frozen_of kR 2
      have kf := set3 kR (.slice ao9 (xs ++ cs.flatten).length ca9) (.int .i64 xs.length) (.slice eo el ec)
      have g0 := cell_of kf (i := 0) rfl
      have g1 := cell_of kf (i := 1) rfl
      have g2 := cell_of kf (i := 2) rfl
      have HE : Hid (TrackE w xs cs (.returned (.tuple #[.agg #[.slice ao9 (xs ++ cs.flatten).length ca9, .int .i64 xs.length, .slice eo el ec], .bool true])) (((wr.setCell ⟨w.heap.size + 1, 0, none⟩ (.slice ao9 (xs ++ cs.flatten).length ca9)).setCell ⟨w.heap.size + 1, 1, none⟩ (.int .i64 xs.length)).setCell ⟨w.heap.size + 1, 2, none⟩ (.slice eo el ec)) ∧ Below w.heap.size w (((wr.setCell ⟨w.heap.size + 1, 0, none⟩ (.slice ao9 (xs ++ cs.flatten).length ca9)).setCell ⟨w.heap.size + 1, 1, none⟩ (.int .i64 xs.length)).setCell ⟨w.heap.size + 1, 2, none⟩ (.slice eo el ec))) := by
        refine hide ⟨.inl ⟨HRight.out, ao9, ca9, .slice eo el ec, rfl, ⟨TT.all.1, row_set3 (e := 5) (TT.all.mono (by omega)).2 kR (by decide) _ _ _⟩, ?_⟩, below_set3 BW (by omega) _ _ _⟩
        have h5 := row_set3 (e := 3) TT.ends kR (by decide) (.slice ao9 (xs ++ cs.flatten).length ca9) (.int .i64 xs.length) (.slice eo el ec)
        rw [endsTo_length] at h5
        obtain ⟨h6, h7 | ⟨g, c, cur, hv, hbg, r⟩⟩ := h5
        · exact ⟨h6, .inl h7⟩
        · exact ⟨h6, .inr ⟨g, c, cur, hv, by omega, r⟩⟩
      clear TT kf kR hkT hkl HR
      generalize hLL : (xs ++ cs.flatten).length = L at t0 g0 g1 g2 HE
      have HLL : Hid ((xs ++ cs.flatten).length = L) := hLL
      clear hLL
      go_wp2
      exact bodyPost_ret (v := .tuple #[.agg #[.slice ao9 L ca9, .int .i64 xs.length, .slice eo el ec], .bool true]) (by simp [results, Try.results50, go_sem, g0, g1, g2]) rfl HE.out
end Go.Proofs.Ytipcdioolafkpaa.trackof

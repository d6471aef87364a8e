/- The job that a line tells: the specification's walk. -/
import Derived.Test.YtolmngfjdcoapaaDoorSljb
import Derived.Deep.AppendLies
namespace Go.Proofs.YtolmngfjdcoapaaDoor.sljob
open Go.ChangeShapes Go.WideShapes Go.ChangeAt Go.RowKit
open Go.Proofs.YtolmngfjdcoapaaDoor.bytes Go.Proofs.YtolmngfjdcoapaaDoor.pile Go.Proofs.YtolmngfjdcoapaaDoor.jhelp Go.Proofs.YtolmngfjdcoapaaDoor.num Go.Proofs.YtolmngfjdcoapaaDoor.phr Go.Proofs.YtolmngfjdcoapaaDoor.swords Go.Proofs.YtolmngfjdcoapaaDoor.jok Go.Proofs.YtolmngfjdcoapaaDoor.sjobs
set_option linter.unusedVariables false
theorem ix_cell {w1 wr : World} {gw : Nat} {ws : List ByteArray} {g j cap : Nat} {ns : List Int} (h : LJ w1 gw ws g j cap ns wr) {k : Nat} (hk : k < 4) : wr.cell? ⟨w1.heap.size + 1, k, none⟩ = some (.int .i64 (ixN k : Nat)) := by
  have c : k = 0 ∨ k = 1 ∨ k = 2 ∨ k = 3 := by omega
  rcases c with rfl | rfl | rfl | rfl <;> exact cell_of h.ix rfl
theorem ix_lt (k : Nat) (hk : k < 4) : ixN k < 6 := by unfold ixN; split <;> omega
theorem gr_same (w : World) (d : Nat) : w.grownBy w (some d) := ⟨rfl, rfl, rfl, Nat.le_refl _, fun _ _ _ => rfl⟩
theorem gr_drew (w : World) (d : Nat) : w.grownBy w.drew (some d) := grown_of (Below.refl _ _).drew
theorem gr_sets {w w' : World} {d : Nat} {a b c : Value} (h : Below w.heap.size w w') : w.grownBy (((w'.setCell ⟨d, 0, none⟩ a).setCell ⟨d, 1, none⟩ b).setCell ⟨d, 2, none⟩ c) (some d) :=
  ⟨h.os, h.tape, h.output, by simpa using h.size, fun k hk hn => by
    have hne : k ≠ d := fun e => hn (by rw [e])
    rw [Below.heap_setCell _ _ _ _ hne, Below.heap_setCell _ _ _ _ hne, Below.heap_setCell _ _ _ _ hne]
    exact h.block k hk⟩
set_option maxHeartbeats 3200000 in
theorem ljob_long (w : World) (s : ByteArray) (hs : s.size < 4294967281) (h : (wd 6 s).2.2 = true) :
    Calls Tryd.prog 10 #[.string s] w fun e w' => SjE w.heap.size s e w' ∧ Below w.heap.size w w' := by
  obtain ⟨a0, a1, a2, a3, F, a5, R, hwd, hj, ha, hR⟩ := long_words h hs
  obtain ⟨i0, hi, hz0, hz1, hz2⟩ := info_parts info3
  have HI : Hid (Tryd.prog.info? 3 = some i0 ∧ i0.zero = some (.int .i64 0) ∧ i0.size = 1 ∧ i0.bytes = 8) := ⟨hi, hz0, hz1, hz2⟩
  clear hi hz0 hz1 hz2
  obtain ⟨W0, hW0⟩ : ∃ W0, w.alloc (.cells #[.int .i64 0, .int .i64 0, .slice none 0 0] 24) = W0 := ⟨_, rfl⟩
  have b0 : Below w.heap.size w W0 := by rw [← hW0]; exact more (Below.refl _ _) _
  have s0 : W0.heap.size = w.heap.size + 1 := by rw [← hW0]; exact World.size_alloc ..
  have x0 : W0.heap[w.heap.size]? = some (.cells #[.int .i64 0, .int .i64 0, .slice none 0 0] 24 (0, 0)) := by rw [← hW0]; exact heap_alloc_new w _
  have HE : Hid (Calls Tryd.prog 9 #[.string s, .int .i64 6] W0 fun e w1 => ∃ gw cw, e = .returned (.tuple #[.slice (some ⟨gw, 0, none⟩) 6 cw, .string R, .bool true]) ∧ gw < w1.heap.size ∧ w.heap.size < w1.heap.size ∧ Hid ((∀ k, k < 6 → w1.cell? ⟨gw, k, none⟩ = some (.string ([a0, a1, a2, a3, F, a5].getD k emp))) ∧ w1.heap[w.heap.size]? = some (.cells #[.int .i64 0, .int .i64 0, .slice none 0 0] 24 (0, 0)) ∧ Below w.heap.size w w1)) := by
    refine (words_any W0 s 6 (by omega) hs).mono ?_
    rintro e w1 ⟨v, rfl, ho, b1⟩
    rw [hwd] at ho ⊢
    obtain ⟨gw, cw, rfl, _, hlt⟩ := ho.form (show 0 < 6 by omega)
    have z1 := b1.size
    refine ⟨gw, cw, rfl, hlt, by omega, ?_, (b1.block w.heap.size (by omega)).trans x0, b0.trans (b1.mono (by omega))⟩
    intro k hk
    rw [ho.cellAt k (by simpa using hk)]
    have c : k = 0 ∨ k = 1 ∨ k = 2 ∨ k = 3 ∨ k = 4 ∨ k = 5 := by omega
    rcases c with rfl | rfl | rfl | rfl | rfl | rfl <;> rfl
  have HJ : Hid (jobS s = jobQ a1 a2 a3 F a5 R ∧ (∀ a ∈ [a0, a1, a2, a3, F, a5], a.size < 4294967281) ∧ R.size < 4294967281) := ⟨hj, ha, hR⟩
  clear h b0 s0 x0 hwd hj ha hR hs
  go_enter Tryd.func10, Tryd.ntmps10
  go_wp2_with fail
  (try rw [hW0])
  refine HE.out.mono ?_
  rintro e w1 ⟨gw, cw, rfl, hgw, hd1, HC⟩
  clear HE hW0
  have HB0 : Hid (LJ w1 gw [a0, a1, a2, a3, F, a5] w1.heap.size 0 0 [] ((w1.alloc (.cells #[] 3)).alloc (.cells #[.int .i64 1, .int .i64 2, .int .i64 3, .int .i64 5] 3))) := by
    have o1 : (w1.alloc (.cells #[] 3)).ownsRow w1.heap.size 3 1 (.slice (some ⟨w1.heap.size, 0, none⟩) 0 0) 0 [] := World.ownsRow_lit w1 #[] 0 (Nat.le_refl _) (by simp [maxLen]) (by simp)
    refine ⟨rfl, fun i hi => absurd hi (by omega), o1.alloc _, by omega, by simp [World.size_alloc], ((Below.refl _ _).alloc (Nat.le_refl _) _).alloc (by simp [World.size_alloc]) _, ?_⟩
    have e : (w1.alloc (.cells #[] 3)).heap.size = w1.heap.size + 1 := World.size_alloc ..
    rw [← e]
    exact heap_alloc_new _ _
  go_wp2
  go_loopw [7, 25] (fun v i wr => ∃ (j g cap : Nat) (ns : List Int), j ≤ 4 ∧ v = .slice (some ⟨g, 0, none⟩) j cap ∧ i = .int .i64 j ∧ Hid (LJ w1 gw [a0, a1, a2, a3, F, a5] g j cap ns wr)) (fun _ i _ => 4 - (intOf i).toNat)
  case atStart => exact ⟨0, w1.heap.size, 0, [], by omega, rfl, rfl, HB0⟩
  case round =>
    obtain ⟨j, g, cap, ns, hj4, rfl, rfl, HL⟩ := hrel
    clear HB0
    by_cases hlt : j < 4
    · have hc1 := ix_cell HL.out hlt
      obtain ⟨ix, hix⟩ : ∃ ix, ixN j = ix := ⟨_, rfl⟩
      have hix6 : ix < 6 := by rw [← hix]; exact ix_lt j hlt
      obtain ⟨a, haa⟩ : ∃ a, [a0, a1, a2, a3, F, a5].getD ix emp = a := ⟨_, rfl⟩
      have hc2 : wr.cell? ⟨gw, ix, none⟩ = some (.string a) := by rw [← haa]; exact (HL.out.bel.cell (by exact hgw)).trans (HC.out.1 ix hix6)
      have has : a.size < 4294967281 := by
        rw [← haa]
        refine HJ.out.2.1 _ ?_
        rw [List.getD_eq_getElem?_getD, List.getElem?_eq_getElem (by exact hix6)]
        exact List.getElem_mem _
      have HN := Go.Proofs.YtolmngfjdcoapaaDoor.snum.number_any wr a has
      rw [hix] at hc1
      cases hn : numS a.data.toList with
      | none =>
        rw [hn] at HN
        have HNN : Hid (Calls Tryd.prog 12 #[.string a] wr fun e w' => e = .returned (.tuple #[.int .i64 0, .bool false]) ∧ w' = wr) := HN
        obtain ⟨⟨d0, d1, d2⟩, ⟨f0, f1, f2⟩, WF, hWF, ⟨k0, k1, k2⟩, HF⟩ := fin_no (w := w) (wr := wr) (s := s) ((HL.out.bel.block _ hd1).trans HC.out.2.1) (HC.out.2.2.trans (HL.out.bel.mono (by omega))) (by rw [HJ.out.1]; exact Q_no hlt (a0 := a0) (by rw [hix, haa, hn]))
        clear HN HL HC HJ HI hn haa hix hgw has
        go_wp2_with (go_at_call 12; refine HNN.out.mono ?_; rintro e w' ⟨rfl, hw⟩; have hw := hw.symm; subst hw)
        rw [hWF.out]
        refine bodyPost_ret (v := .tuple #[.agg #[.int .i64 0, .int .i64 0, .slice none 0 0], .bool false]) ?_ rfl HF.out
        simp [results, Tryd.results10, go_sem, k0, k1, k2]
      | some n =>
        rw [hn] at HN
        have HNN : Hid (Calls Tryd.prog 12 #[.string a] wr fun e w' => e = .returned (.tuple #[.int .i64 n, .bool true]) ∧ w' = wr) := HN
        have Hn : Hid (numS ([a0, a1, a2, a3, F, a5].getD (ixN j) emp).data.toList = some n) := by rw [hix, haa]; exact hn
        clear HN hn haa hix HJ
        go_wp2_with (first
          | (go_at_call 12; refine HNN.out.mono ?_; rintro e w' ⟨rfl, hw⟩; have hw := hw.symm; subst hw)
          | (at_builtin; refine wpList_append_lies _ rfl _ _ 48 rfl w1.heap.size 3 i0 (.int .i64 0) 1 8 Tryd.underlying48 HI.out.1 HI.out.2.1 HI.out.2.2.1 HI.out.2.2.2 rfl (by decide) _ _ _ rfl (HL.out.own.alloc _) ⟨wr.heap.size, 0, none⟩ 1 1 [.int .i64 n] rfl rfl (cell_one_new _ _ _) ?c2 (by decide) ?c3 ?c4 ?c5 (wr.heap.size + 1) (World.size_alloc ..) ?_
             case c2 => first | (intro u hu; simp at hu; subst hu; rfl) | rfl
             case c3 => (unfold maxLen; omega)
             case c4 => omega
             case c5 => (have := HL.out.big; first | omega | (simp; omega))
             intro g' cap' w2 O2 G2 L2 _
             have HL2 : Hid (LJ w1 gw [a0, a1, a2, a3, F, a5] g' (j + 1) cap' (ns ++ [n]) w2) := HL.out.step Hn.out O2 G2 L2
             clear O2 G2 L2))
        clear HL HI HNN Hn hc1 hc2 HC
        go_roundw
        case rel => exact ⟨j + 1, _, _, _, by omega, rfl, by go_num, HL2⟩
        case measure => simp [intOf]; omega
    · have hj' : j = 4 := by omega
      subst hj'
      obtain ⟨n, c, q, v, rfl, ⟨p0, p1, p2, p3⟩, HK⟩ := behind HL.out HJ.out.1 HC.out.2.1 HC.out.2.2 hd1 (HJ.out.2.1 F (by simp)) HJ.out.2.2
      have hc4 : wr.cell? ⟨gw, 4, none⟩ = some (.string F) := (HL.out.bel.cell (by exact hgw)).trans (HC.out.1 4 (by omega))
      have pa1 : ∀ ob, (wr.alloc ob).cell? ⟨g, 1, none⟩ = some (.int .i64 c) := fun ob => cell_at (more (Below.refl _ _) ob) p1 (Nat.le_refl _)
      have pa2 : ∀ ob, (wr.alloc ob).cell? ⟨g, 2, none⟩ = some (.int .i64 q) := fun ob => cell_at (more (Below.refl _ _) ob) p2 (Nat.le_refl _)
      have pa3 : ∀ ob, (wr.alloc ob).cell? ⟨g, 3, none⟩ = some (.int .i64 v) := fun ob => cell_at (more (Below.refl _ _) ob) p3 (Nat.le_refl _)
      have pa4 : ∀ ob, (wr.alloc ob).cell? ⟨gw, 4, none⟩ = some (.string F) := fun ob => cell_at (more (Below.refl _ _) ob) hc4 (Nat.le_refl _)
      have HK2 := hide HK
      have hgd : w.heap.size < g := by have := (World.ownsRow.lt HL.out.own g rfl).1; omega
      have hwd : w.heap.size < wr.heap.size := by have := HL.out.big; omega
      clear HK HC HL HI HJ
      have hbz : ∀ b : Bool, ((v : Int) == 0) = b → (tx v) = if b then txt else emp := by
        intro b hb
        unfold tx
        cases b with
        | true => rw [if_pos (by simpa using hb)]; rfl
        | false => rw [if_neg (by simpa using hb)]; rfl
      cases hv0 : ((v : Int) == 0) with
      | true =>
        have ht : tx v = ⟨#[111, 110, 101, 10, 116, 119, 111, 10, 116, 104, 114, 101, 101, 10]⟩ := hbz true hv0
        clear hbz
        rw [ht] at HK2
        clear ht
        go_wp2
        go_region
        obtain ⟨WJ, hWJ⟩ : ∃ WJ, (wr.alloc (.cells #[.int .i64 c, .int .i64 q, .string F, .int .i64 v, .string R, .string ⟨#[111, 110, 101, 10, 116, 119, 111, 10, 116, 104, 114, 101, 101, 10]⟩, .bool false, .bool false] 50)).drew = WJ := ⟨_, rfl⟩
        have hWJ2 := hide hWJ
        clear hWJ
        have HH := HK2.out WJ hWJ2.out
        clear HK2
        go_wp2_with fail
        rw [hWJ2.out]
        refine HH.out.mono ?_
        clear HH hWJ2 p0 p1 p2 p3 hc4 pa1 pa2 pa3 pa4
        rintro e w3 (⟨rfl, ⟨d0, d1, d2⟩, ⟨f0, f1, f2⟩, WF, hWF, ⟨k0, k1, k2⟩, HF⟩ | ⟨rfl, q0, y3, HB⟩)
        · go_wp2
          rw [hWF.out]
          refine bodyPost_ret (v := .tuple #[.agg #[.int .i64 0, .int .i64 0, .slice none 0 0], .bool false]) ?_ rfl HF.out
          simp [results, Tryd.results10, go_sem, k0, k1, k2]
        · have hJ3 : wr.heap.size < w3.heap.size := (Array.getElem?_eq_some_iff.1 y3).1
          have HS : Hid (∀ wx, w3.grownBy wx (some w.heap.size) → wx.cell? ⟨g, 0, none⟩ = some (.int .i64 n) ∧ (wx.cell? ⟨wr.heap.size, 0, none⟩ = some (.int .i64 c) ∧ wx.cell? ⟨wr.heap.size, 1, none⟩ = some (.int .i64 q) ∧ wx.cell? ⟨wr.heap.size, 2, none⟩ = some (.string F) ∧ wx.cell? ⟨wr.heap.size, 3, none⟩ = some (.int .i64 v) ∧ wx.cell? ⟨wr.heap.size, 4, none⟩ = some (.string R) ∧ wx.cell? ⟨wr.heap.size, 5, none⟩ = some (.string ⟨#[111, 110, 101, 10, 116, 119, 111, 10, 116, 104, 114, 101, 101, 10]⟩) ∧ wx.cell? ⟨wr.heap.size, 6, none⟩ = some (.bool false) ∧ wx.cell? ⟨wr.heap.size, 7, none⟩ = some (.bool false))) := fun wx h => ⟨(h.cell_far _ (cell_lt q0) (by simp; omega)).trans q0, (h.cell_far _ hJ3 (by simp; omega)).trans (cell_of y3 rfl), (h.cell_far _ hJ3 (by simp; omega)).trans (cell_of y3 rfl), (h.cell_far _ hJ3 (by simp; omega)).trans (cell_of y3 rfl), (h.cell_far _ hJ3 (by simp; omega)).trans (cell_of y3 rfl), (h.cell_far _ hJ3 (by simp; omega)).trans (cell_of y3 rfl), (h.cell_far _ hJ3 (by simp; omega)).trans (cell_of y3 rfl), (h.cell_far _ hJ3 (by simp; omega)).trans (cell_of y3 rfl), (h.cell_far _ hJ3 (by simp; omega)).trans (cell_of y3 rfl)⟩
          clear q0 y3
          go_wp2
          go_region_held_law (fun wx => wx.cell? ⟨g, 0, none⟩ = some (.int .i64 n) ∧ (wx.cell? ⟨wr.heap.size, 0, none⟩ = some (.int .i64 c) ∧ wx.cell? ⟨wr.heap.size, 1, none⟩ = some (.int .i64 q) ∧ wx.cell? ⟨wr.heap.size, 2, none⟩ = some (.string F) ∧ wx.cell? ⟨wr.heap.size, 3, none⟩ = some (.int .i64 v) ∧ wx.cell? ⟨wr.heap.size, 4, none⟩ = some (.string R) ∧ wx.cell? ⟨wr.heap.size, 5, none⟩ = some (.string ⟨#[111, 110, 101, 10, 116, 119, 111, 10, 116, 104, 114, 101, 101, 10]⟩) ∧ wx.cell? ⟨wr.heap.size, 6, none⟩ = some (.bool false) ∧ wx.cell? ⟨wr.heap.size, 7, none⟩ = some (.bool false)))
            ((refine HS.out _ ?_; first | assumption | exact gr_same w3 _ | exact gr_drew w3 _ | exact grown_of D4 | exact gr_sets D4))
            (first | (go_at_call 19; refine (HB.out w3.drew ((Below.refl _ _).drew)).mono ?_; rintro e w4 ⟨o, l, k, rfl, D4, ⟨d0, d1, d2⟩, ⟨f0, f1, f2⟩, WF, hWF, ⟨k0, k1, k2⟩, HF⟩))
          all_goals
            go_wp2
            rw [hWF.out]
            refine bodyPost_ret (v := .tuple #[.agg #[.int .i64 7, .int .i64 n, .slice o l k], .bool true]) ?_ rfl HF.out
            simp [results, Tryd.results10, go_sem, k0, k1, k2]
      | false =>
        have ht : tx v = ⟨#[]⟩ := hbz false hv0
        clear hbz
        rw [ht] at HK2
        clear ht
        go_wp2
        go_region
        obtain ⟨WJ, hWJ⟩ : ∃ WJ, (wr.alloc (.cells #[.int .i64 c, .int .i64 q, .string F, .int .i64 v, .string R, .string ⟨#[]⟩, .bool false, .bool false] 50)).drew = WJ := ⟨_, rfl⟩
        have hWJ2 := hide hWJ
        clear hWJ
        have HH := HK2.out WJ hWJ2.out
        clear HK2
        go_wp2_with fail
        rw [hWJ2.out]
        refine HH.out.mono ?_
        clear HH hWJ2 p0 p1 p2 p3 hc4 pa1 pa2 pa3 pa4
        rintro e w3 (⟨rfl, ⟨d0, d1, d2⟩, ⟨f0, f1, f2⟩, WF, hWF, ⟨k0, k1, k2⟩, HF⟩ | ⟨rfl, q0, y3, HB⟩)
        · go_wp2
          rw [hWF.out]
          refine bodyPost_ret (v := .tuple #[.agg #[.int .i64 0, .int .i64 0, .slice none 0 0], .bool false]) ?_ rfl HF.out
          simp [results, Tryd.results10, go_sem, k0, k1, k2]
        · have hJ3 : wr.heap.size < w3.heap.size := (Array.getElem?_eq_some_iff.1 y3).1
          have HS : Hid (∀ wx, w3.grownBy wx (some w.heap.size) → wx.cell? ⟨g, 0, none⟩ = some (.int .i64 n) ∧ (wx.cell? ⟨wr.heap.size, 0, none⟩ = some (.int .i64 c) ∧ wx.cell? ⟨wr.heap.size, 1, none⟩ = some (.int .i64 q) ∧ wx.cell? ⟨wr.heap.size, 2, none⟩ = some (.string F) ∧ wx.cell? ⟨wr.heap.size, 3, none⟩ = some (.int .i64 v) ∧ wx.cell? ⟨wr.heap.size, 4, none⟩ = some (.string R) ∧ wx.cell? ⟨wr.heap.size, 5, none⟩ = some (.string ⟨#[]⟩) ∧ wx.cell? ⟨wr.heap.size, 6, none⟩ = some (.bool false) ∧ wx.cell? ⟨wr.heap.size, 7, none⟩ = some (.bool false))) := fun wx h => ⟨(h.cell_far _ (cell_lt q0) (by simp; omega)).trans q0, (h.cell_far _ hJ3 (by simp; omega)).trans (cell_of y3 rfl), (h.cell_far _ hJ3 (by simp; omega)).trans (cell_of y3 rfl), (h.cell_far _ hJ3 (by simp; omega)).trans (cell_of y3 rfl), (h.cell_far _ hJ3 (by simp; omega)).trans (cell_of y3 rfl), (h.cell_far _ hJ3 (by simp; omega)).trans (cell_of y3 rfl), (h.cell_far _ hJ3 (by simp; omega)).trans (cell_of y3 rfl), (h.cell_far _ hJ3 (by simp; omega)).trans (cell_of y3 rfl), (h.cell_far _ hJ3 (by simp; omega)).trans (cell_of y3 rfl)⟩
          clear q0 y3
          go_wp2
          go_region_held_law (fun wx => wx.cell? ⟨g, 0, none⟩ = some (.int .i64 n) ∧ (wx.cell? ⟨wr.heap.size, 0, none⟩ = some (.int .i64 c) ∧ wx.cell? ⟨wr.heap.size, 1, none⟩ = some (.int .i64 q) ∧ wx.cell? ⟨wr.heap.size, 2, none⟩ = some (.string F) ∧ wx.cell? ⟨wr.heap.size, 3, none⟩ = some (.int .i64 v) ∧ wx.cell? ⟨wr.heap.size, 4, none⟩ = some (.string R) ∧ wx.cell? ⟨wr.heap.size, 5, none⟩ = some (.string ⟨#[]⟩) ∧ wx.cell? ⟨wr.heap.size, 6, none⟩ = some (.bool false) ∧ wx.cell? ⟨wr.heap.size, 7, none⟩ = some (.bool false)))
            ((refine HS.out _ ?_; first | assumption | exact gr_same w3 _ | exact gr_drew w3 _ | exact grown_of D4 | exact gr_sets D4))
            (first | (go_at_call 19; refine (HB.out w3.drew ((Below.refl _ _).drew)).mono ?_; rintro e w4 ⟨o, l, k, rfl, D4, ⟨d0, d1, d2⟩, ⟨f0, f1, f2⟩, WF, hWF, ⟨k0, k1, k2⟩, HF⟩))
          all_goals
            go_wp2
            rw [hWF.out]
            refine bodyPost_ret (v := .tuple #[.agg #[.int .i64 7, .int .i64 n, .slice o l k], .bool true]) ?_ rfl HF.out
            simp [results, Tryd.results10, go_sem, k0, k1, k2]
theorem ljob_any (w : World) (s : ByteArray) (hs : s.size < 4294967281) :
    Calls Tryd.prog 10 #[.string s] w fun e w' => SjE w.heap.size s e w' ∧ Below w.heap.size w w' := by
  cases h : (wd 6 s).2.2 with
  | false => exact ljob_short w s hs h
  | true => exact ljob_long w s hs h
end Go.Proofs.YtolmngfjdcoapaaDoor.sljob

/- Contract of the disk that a track hands out. -/
import Derived.Test.YtipcdioolafkpaaActs
import Derived.BigRegion
namespace Go.Proofs.Ytipcdioolafkpaa.diskof
open Go.ChangeShapes Go.WideShapes Go.ChangeAt Go.RowKit
open Go.Proofs.Ytipcdioolafkpaa.bytes Go.Proofs.Ytipcdioolafkpaa.pile Go.Proofs.Ytipcdioolafkpaa.reader Go.Proofs.Ytipcdioolafkpaa.lists Go.Proofs.Ytipcdioolafkpaa.sizes Go.Proofs.Ytipcdioolafkpaa.marked Go.Proofs.Ytipcdioolafkpaa.disks Go.Proofs.Ytipcdioolafkpaa.diskmarks Go.Proofs.Ytipcdioolafkpaa.specdisk Go.Proofs.Ytipcdioolafkpaa.tracks Go.Proofs.Ytipcdioolafkpaa.trackof Go.Proofs.Ytipcdioolafkpaa.crashes Go.Proofs.Ytipcdioolafkpaa.crashed Go.Proofs.Ytipcdioolafkpaa.acts
set_option linter.unusedVariables false

/-- The piece of a track from b to e. -/
def pieceV (ao : Option Addr) (b e : Nat) : Value := .slice (if e = b then ao else ao.map fun x => x.add b) (e - b) (e - b)
/-- The pieces of a track, one for each write. -/
def piecesV (ao : Option Addr) (n : Nat) (cs : List (List Int)) (k : Nat) : List Value := (List.range k).map fun i => pieceV ao (n + sizeTo cs i) (n + sizeTo cs (i + 1))
theorem piecesV_length (ao : Option Addr) (n : Nat) (cs : List (List Int)) (k : Nat) : (piecesV ao n cs k).length = k := by simp [piecesV]
theorem piecesV_succ (ao : Option Addr) (n : Nat) (cs : List (List Int)) (k : Nat) : piecesV ao n cs (k + 1) = piecesV ao n cs k ++ [pieceV ao (n + sizeTo cs k) (n + sizeTo cs (k + 1))] := by simp [piecesV, List.range_succ]
theorem info22d : (Try.prog.info? 22).map (fun i => (i.zero, i.size, i.bytes)) = some (some (.slice none 0 0), 1, 24) := by kernel_rfl

set_option maxRecDepth 20000 in
set_option maxHeartbeats 4000000 in
theorem disk_any (w : World) (base d : Nat) (ao : Option Addr) (ca : Nat) (xs : List Int) (cs : List (List Int)) (ev : Value) (h : TS w base d (.slice ao (xs ++ cs.flatten).length ca) (xs ++ cs.flatten) xs.length ev (endsTo xs.length cs cs.length)) (hb : xs.length + cs.flatten.length ≤ 8192) (hc : cs.length ≤ 200) :
    Calls Try.prog 47 #[.pointer (some ⟨d, 0, none⟩)] w fun e w' => ∃ pv, e = .returned (.agg #[.slice ao xs.length xs.length, pv]) ∧ w'.ownsRow w.heap.size 22 1 pv cs.length (piecesV ao xs.length cs cs.length) ∧ Below w.heap.size w w' := by
  have HT : Hid (TS w base d (.slice ao (xs ++ cs.flatten).length ca) (xs ++ cs.flatten) xs.length ev (endsTo xs.length cs cs.length)) := h
  obtain ⟨_, hca1, hca2⟩ : (xs ++ cs.flatten).length = (xs ++ cs.flatten).length ∧ (xs ++ cs.flatten).length ≤ ca ∧ ca ≤ maxLen := by
    obtain ⟨ao', ca', e, h1, h2, _⟩ := h.all.rd
    simp only [Value.slice.injEq] at e
    obtain ⟨rfl, _, rfl⟩ := e
    exact ⟨rfl, h1, h2⟩
  unfold maxLen at hca2
  obtain ⟨T, hTe⟩ : ∃ T, T = cs.flatten.length := ⟨_, rfl⟩
  have HTT : Hid (T = cs.flatten.length) := hTe
  have hL : (xs ++ cs.flatten).length = xs.length + T := by rw [List.length_append, hTe]
  rw [← hTe] at hb
  have c0 := cell_of h.blk (i := 0) rfl
  have c1 := cell_of h.blk (i := 1) rfl
  have c2 := cell_of h.blk (i := 2) rfl
  have hd := h.lt
  rw [hL] at hca1
  have c0' : w.cell? ⟨d, 0, none⟩ = some (.slice ao (xs.length + T) ca) := by rw [c0, ← hL]; rfl
  clear h hTe hL c0
  have h0 : (0 : Int) ≤ xs.length := by omega
  have h1 : (xs.length : Int) ≤ ca := by omega
  have h2 : (xs.length : Int) ≤ xs.length := by omega
  obtain ⟨N, hN⟩ : ∃ N, N = cs.length := ⟨_, rfl⟩
  have HN : Hid (N = cs.length) := hN
  rw [← hN] at hc
  have HEnds : Hid (∀ k, k < N → ∀ x, ev.ownBlock = some x → w.cell? ⟨x, k, none⟩ = some (.int .i64 ((xs.length + sizeTo cs (k + 1) : Nat) : Int))) := by
    intro k hk x hx
    have := HT.out.ends
    obtain ⟨_, ⟨rfl, _⟩ | ⟨g, c, cur, rfl, _⟩⟩ := HT.out.ends
    · simp [Value.ownBlock] at hx
    · simp only [Value.ownBlock, Option.some.injEq] at hx
      subst hx
      rw [World.ownsRow.cellAt this k (by rw [endsTo_length]; omega)]
      have hk' : k < cs.length := by omega
      simp [endsTo, hk']
  have hform : ∃ eo ec, ev = .slice eo N ec ∧ N ≤ ec ∧ (0 < N → ∃ x, eo = some ⟨x, 0, none⟩ ∧ x < w.heap.size) := by
    obtain ⟨h1, ⟨rfl, h2⟩ | ⟨g, c, cur, rfl, hbg, hg, hnc, _⟩⟩ := HT.out.ends
    · rw [endsTo_length] at h2
      exact ⟨none, 0, by rw [hN, h2], by omega, fun hp => by omega⟩
    · rw [endsTo_length] at hnc ⊢
      exact ⟨_, c, by rw [hN], by omega, fun _ => ⟨g, rfl, (Array.getElem?_eq_some_iff.1 hg).1⟩⟩
  obtain ⟨eo, ec, rfl, hec, hex⟩ := hform
  have hec2 : ec ≤ 9223372036854775807 := by
    have := HT.out.ends
    obtain ⟨h1, ⟨e, h2⟩ | ⟨g, c, cur, e, hbg, hg, hnc, hcm, _⟩⟩ := this
    · simp at e; omega
    · simp only [Value.slice.injEq] at e
      unfold maxLen at hcm
      omega
  clear hN
  obtain ⟨i0, hi, hz0, hz1, hz2⟩ := info_parts info22d
  have HI : Hid (Try.prog.info? 22 = some i0 ∧ i0.zero = some (.slice none 0 0) ∧ i0.size = 1 ∧ i0.bytes = 24) := ⟨hi, hz0, hz1, hz2⟩
  clear hi hz0 hz1 hz2
  obtain ⟨W2, hW2⟩ : ∃ W2, W2 = ((w.alloc (.cells #[.slice none 0 0, .slice none 0 0] 40)).alloc (.cells #[.slice ao xs.length xs.length, .slice none 0 0] 40)).drew := ⟨_, rfl⟩
  have b2 : Below w.heap.size w W2 := by
    rw [hW2]
    exact ⟨rfl, rfl, rfl, by simp; omega, fun k hk => by
      show ((w.alloc _).alloc _).heap[k]? = _
      rw [Below.heap_alloc _ _ _ (by simp; omega), Below.heap_alloc _ _ _ hk]⟩
  have kR : W2.heap[w.heap.size]? = some (.cells #[.slice none 0 0, .slice none 0 0] 40 (0, 0)) := by
    rw [hW2]
    show ((w.alloc _).alloc _).heap[w.heap.size]? = _
    rw [Below.heap_alloc _ _ _ (by simp)]
    exact heap_alloc_new w _
  have kD : W2.heap[w.heap.size + 1]? = some (.cells #[.slice ao xs.length xs.length, .slice none 0 0] 40 (0, 0)) := by
    rw [hW2]
    have := heap_alloc_new (w.alloc (.cells #[.slice none 0 0, .slice none 0 0] 40)) (.cells #[.slice ao xs.length xs.length, .slice none 0 0] 40)
    rw [show (w.alloc (.cells #[.slice none 0 0, .slice none 0 0] 40)).heap.size = w.heap.size + 1 by simp] at this
    exact this
  have HIn : Hid (W2.ownsRow w.heap.size 22 1 (.slice none 0 0) 0 (piecesV ao xs.length cs 0) ∧ W2.heap[w.heap.size + 1]? = some (.cells #[.slice ao xs.length xs.length, .slice none 0 0] 40 (0, 0)) ∧ W2.heap[w.heap.size]? = some (.cells #[.slice none 0 0, .slice none 0 0] 40 (0, 0)) ∧ Below w.heap.size w W2) := ⟨World.ownsRow_nil _ _ _ _, kD, kR, b2⟩
  have c2' : w.cell? ⟨d, 2, none⟩ = some (.slice eo N ec) := c2
  clear c2 kD kR
  go_enter Try.func47, Try.ntmps47
  go_wp2
  go_region
  go_wp2
  rw [hW2] at HIn b2
  go_loopw [4, 30] (fun p i wr => ∃ (k b : Nat) (pv : Value), k ≤ N ∧ b = xs.length + sizeTo cs k ∧ i = .int .i64 k ∧ p = .int .i64 b ∧ Hid (wr.ownsRow w.heap.size 22 1 pv k (piecesV ao xs.length cs k) ∧ wr.heap[w.heap.size + 1]? = some (.cells #[.slice ao xs.length xs.length, pv] 40 (0, 0)) ∧ wr.heap[w.heap.size]? = some (.cells #[.slice none 0 0, .slice none 0 0] 40 (0, 0)) ∧ Below w.heap.size w wr)) (fun _ i _ => N - (intOf i).toNat)
  case atStart => exact ⟨0, xs.length, .slice none 0 0, by omega, by simp [sizeTo], rfl, rfl, HIn⟩
  case round =>
    clear HIn b2 hW2
    obtain ⟨k, b, pv, hk, hbk, rfl, rfl, HR⟩ := hrel
    have HBk : Hid (b = xs.length + sizeTo cs k) := hbk
    have hsz : sizeTo cs k ≤ T := by rw [HTT.out]; exact sizeTo_le cs k
    have hs2 : sizeTo cs (k + 1) ≤ T := by rw [HTT.out]; exact sizeTo_le cs (k + 1)
    have BW := HR.out.2.2.2
    have hsw := BW.size
    have hDl : w.heap.size + 1 < wr.heap.size := (Array.getElem?_eq_some_iff.1 HR.out.2.1).1
    by_cases hlt : k < N
    · obtain ⟨x, hxe, hxl⟩ := hex (by omega)
      subst hxe
      have hcl := (BW.cell (p := ⟨x, k, none⟩) hxl).trans (HEnds.out k hlt x rfl)
      have HSu : Hid (sizeTo cs (k + 1) = sizeTo cs k + (cs.getD k []).length) := sizeTo_succ (xss := cs) (k := k) (by rw [← HN.out]; exact hlt)
      obtain ⟨e, he⟩ : ∃ e, e = xs.length + sizeTo cs (k + 1) := ⟨_, rfl⟩
      have HEe : Hid (e = xs.length + sizeTo cs (k + 1)) := he
      have hbe : b ≤ e := by have := HSu.out; omega
      have hel : e ≤ xs.length + T := by omega
      rw [← he] at hcl
      have a0 : wr.cell? ⟨d, 0, none⟩ = some (.slice ao (xs.length + T) ca) := (BW.cell (p := ⟨d, 0, none⟩) hd).trans c0'
      have p1 := cell_of HR.out.2.1 (i := 1) rfl
      have f1 := frozen_of HR.out.2.1 1
      have HRow : Hid (wr.ownsRow w.heap.size 22 1 pv k (piecesV ao xs.length cs k)) := HR.out.1
      have HDP : Hid (pv.ownBlock ≠ some (w.heap.size + 1)) := own_other HRow.out HR.out.2.1 (by decide)
      clear he hbk hsz hs2 BW
      have i1 : (b : Int) ≤ e := by omega
      have i2 : (e : Int) ≤ e := by omega
      have i3 : (e : Int) ≤ ca := by omega
      have i4 : (0 : Int) ≤ b := by omega
      go_wp2
      go_region_law (first | (refine step_append_lies _ rfl _ _ 29 rfl w.heap.size 22 i0 (.slice none 0 0) 1 24 Try.underlying29 HI.out.1 HI.out.2.1 HI.out.2.2.1 HI.out.2.2.2 rfl (by decide) pv k (piecesV ao xs.length cs k) rfl (World.ownsRow.alloc (by exact HRow.out) _) ⟨wr.heap.size, 0, none⟩ 1 1 [.slice (if e = b then ao else ao.map fun x => x.add b) (e - b) (e - b)] rfl rfl (cell_one_new _ _ _) (by intro u hu; simp at hu; subst hu; rfl) (by decide) (by unfold maxLen; omega) (by omega) (by simp; omega) (wr.heap.size + 1) (by simp) ?_; intro g cap9 w9 hown hgrow hat hlt9; have hb9 : w9.heap[w.heap.size + 1]? = wr.heap[w.heap.size + 1]? := (hgrow.block (w.heap.size + 1) (by simp; omega) (fun e => HDP.out e.symm)).trans (by exact Below.heap_alloc wr _ (w.heap.size + 1) hDl); have hc9 : w9.cell? ⟨w.heap.size + 1, 1, none⟩ = some pv := (World.cell?_of_block hb9).trans p1; have hf9 : w9.frozen? ⟨w.heap.size + 1, 1, none⟩ = false := (World.frozen?_of_block hb9).trans f1))
      all_goals
        have HF : Hid ((w9.setCell ⟨w.heap.size + 1, 1, none⟩ (.slice (some ⟨g, 0, none⟩) (k + 1) cap9)).ownsRow w.heap.size 22 1 (.slice (some ⟨g, 0, none⟩) (k + 1) cap9) (k + 1) (piecesV ao xs.length cs (k + 1)) ∧ (w9.setCell ⟨w.heap.size + 1, 1, none⟩ (.slice (some ⟨g, 0, none⟩) (k + 1) cap9)).heap[w.heap.size + 1]? = some (.cells #[.slice ao xs.length xs.length, .slice (some ⟨g, 0, none⟩) (k + 1) cap9] 40 (0, 0)) ∧ (w9.setCell ⟨w.heap.size + 1, 1, none⟩ (.slice (some ⟨g, 0, none⟩) (k + 1) cap9)).heap[w.heap.size]? = some (.cells #[.slice none 0 0, .slice none 0 0] 40 (0, 0)) ∧ Below w.heap.size w (w9.setCell ⟨w.heap.size + 1, 1, none⟩ (.slice (some ⟨g, 0, none⟩) (k + 1) cap9))) := by
          have hg : wr.grownBy w9 pv.ownBlock := grown_trans (World.grownBy_alloc wr (.cells #[.slice (if e = b then ao else ao.map fun x => x.add b) (e - b) (e - b)] 22) pv.ownBlock) ⟨hgrow.os, hgrow.tape, hgrow.output, hgrow.size, hgrow.block⟩
          have k9 := hb9.trans HR.out.2.1
          have hR0 : pv.ownBlock ≠ some w.heap.size := own_other HRow.out HR.out.2.2.1 (by decide)
          have k9R : w9.heap[w.heap.size]? = some (.cells #[.slice none 0 0, .slice none 0 0] 40 (0, 0)) := (hg.block _ (by omega) (fun e => hR0 e.symm)).trans HR.out.2.2.1
          refine hide ⟨?_, ?_, ?_, (HR.out.2.2.2.grown hg (by omega) (fun j hj => (World.ownsRow.lt HRow.out j hj).1)).setCell (p := ⟨w.heap.size + 1, 1, none⟩) (by simp) _⟩
          · rw [piecesV_succ, ← HBk.out, ← HEe.out]
            exact ownsRow_setCell_other hown (own_other hown k9 (by decide)) _
          · have := heap_setCell_same w9 (w.heap.size + 1) 1 _ 40 (.slice (some ⟨g, 0, none⟩) (k + 1) cap9) k9
            simpa using this
          · rw [Below.heap_setCell _ _ _ _ (by simp)]
            exact k9R
        clear hown hgrow hat hlt9 hb9 hc9 hf9
        generalize (if e = b then ao else ao.map fun x => x.add b) = dead
        go_wp2
        go_roundw
        case rel => exact ⟨k + 1, e, _, by omega, HEe.out, by go_num, rfl, HF⟩
        case measure => simp [intOf]; omega
    · have hkN : k = cs.length := by rw [← HN.out]; omega
      obtain ⟨po, pl, pc, hpv⟩ := row_slice HR.out.1
      subst hpv
      have kR := HR.out.2.2.1
      have d0 := cell_of HR.out.2.1 (i := 0) rfl
      have d1 := cell_of HR.out.2.1 (i := 1) rfl
      have r0 := cell_of kR (i := 0) rfl
      have r1 := cell_of kR (i := 1) rfl
      have e0 := frozen_of kR 0
      have e1 := frozen_of kR 1
      have kf0 : (wr.setCell ⟨w.heap.size, 0, none⟩ (.slice ao xs.length xs.length)).heap[w.heap.size]? = some (.cells #[.slice ao xs.length xs.length, .slice none 0 0] 40 (0, 0)) := by
        have := heap_setCell_same wr w.heap.size 0 _ 40 (.slice ao xs.length xs.length) kR
        simpa using this
      have kf : ((wr.setCell ⟨w.heap.size, 0, none⟩ (.slice ao xs.length xs.length)).setCell ⟨w.heap.size, 1, none⟩ (.slice po pl pc)).heap[w.heap.size]? = some (.cells #[.slice ao xs.length xs.length, .slice po pl pc] 40 (0, 0)) := by
        have := heap_setCell_same _ w.heap.size 1 _ 40 (.slice po pl pc) kf0
        simpa using this
      have g0 := cell_of kf (i := 0) rfl
      have g1 := cell_of kf (i := 1) rfl
      have HF : Hid (((wr.setCell ⟨w.heap.size, 0, none⟩ (.slice ao xs.length xs.length)).setCell ⟨w.heap.size, 1, none⟩ (.slice po pl pc)).ownsRow w.heap.size 22 1 (.slice po pl pc) cs.length (piecesV ao xs.length cs cs.length) ∧ Below w.heap.size w ((wr.setCell ⟨w.heap.size, 0, none⟩ (.slice ao xs.length xs.length)).setCell ⟨w.heap.size, 1, none⟩ (.slice po pl pc))) := by
        have h1 := HR.out.1
        rw [hkN] at h1
        have hne := own_other h1 kR (by decide)
        exact hide ⟨ownsRow_setCell_other (ownsRow_setCell_other h1 (a := ⟨w.heap.size, 0, none⟩) hne _) (a := ⟨w.heap.size, 1, none⟩) hne _, (BW.setCell (p := ⟨w.heap.size, 0, none⟩) (Nat.le_refl _) _).setCell (p := ⟨w.heap.size, 1, none⟩) (Nat.le_refl _) _⟩
      clear kR kf kf0 HR BW hkN
      go_wp2
      exact bodyPost_ret (v := .agg #[.slice ao xs.length xs.length, .slice po pl pc]) (by simp [results, Try.results47, go_sem, g0, g1]) rfl ⟨_, rfl, HF.out⟩
end Go.Proofs.Ytipcdioolafkpaa.diskof

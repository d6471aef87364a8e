/- The look at what a peer has committed: the walk. -/
import Derived.Test.YtklkglbimjajnaaLookb
namespace Go.Proofs.Ytklkglbimjajnaa.lookc
open Go.ChangeShapes Go.WideShapes Go.ChangeAt Go.RowKit
open Go.Proofs.Ytklkglbimjajnaa.Raft Go.Proofs.Ytklkglbimjajnaa.mem Go.Proofs.Ytklkglbimjajnaa.grp Go.Proofs.Ytklkglbimjajnaa.look Go.Proofs.Ytklkglbimjajnaa.ndw Go.Proofs.Ytklkglbimjajnaa.grant Go.Proofs.Ytklkglbimjajnaa.post Go.Proofs.Ytklkglbimjajnaa.postb Go.Proofs.Ytklkglbimjajnaa.note Go.Proofs.Ytklkglbimjajnaa.same Go.Proofs.Ytklkglbimjajnaa.clone Go.Proofs.Ytklkglbimjajnaa.lookb
set_option linter.unusedVariables false

def cn (c : Cl) (l : List Rc) (i : Nat) : Cl := { c with chosen := (noteN l i (c.chosen, c.conflict)).1, conflict := (noteN l i (c.chosen, c.conflict)).2 }
theorem cn_zero (c : Cl) (l : List Rc) : cn c l 0 = c := rfl
theorem at_of {w w' : World} {a : Addr} {v : Value} (h : Below w.heap.size w w') (hc : w.cell? a = some v) : w'.cell? a = some v := by
  rw [World.cell?_of_block (h.block _ (World.block_lt_of_cell? w a hc))]
  exact hc
/-- A record of the log, also behind what wrote none of its peer's blocks. -/
theorem log_far {w : World} {M : Fz} {O : Lb} {b k : Nat} {p : Peer} {us : List RV} {lo : Option Addr} {lc : Nat} {vv nv mv : Value} (st : Sta M O w) (h : Nd w M O b k p us (.slice lo p.log.length lc) vv nv mv) {i : Nat} {r : Rc} (hi : p.log[i]? = some r) :
    ∃ g o n c, lo = some ⟨g, 0, none⟩ ∧ ∀ wr M' O', Aft (fun l => l < 3) M O w M' O' wr → (wr.cell? ⟨g, i * 3, none⟩ = some (.int .i64 r.term) ∧ wr.cell? ⟨g, i * 3 + 1, none⟩ = some (.int .i64 r.index) ∧ wr.cell? ⟨g, i * 3 + 2, none⟩ = some (.slice o n c)) ∧ BytesM M' (.slice o n c) r.data ∧ r.data.length ≤ 1000 := by
  obtain ⟨g, cap, o, n, c, e, _, _, q0, q1, q2, q3, q4⟩ := Nd.logc h hi
  simp only [Value.slice.injEq] at e
  refine ⟨g, o, n, c, e.1, fun wr M' O' a => ?_⟩
  have hg : O g = some (3 + k) := h.lab (.slice lo p.log.length lc) (by simp) g (by rw [e.1]; rfl)
  have hk := keep_of st a (by omega) g hg
  refine ⟨⟨?_, ?_, ?_⟩, q3.le a.le, q4⟩
  · rw [World.cell?_of_block (a := ⟨g, i * 3, none⟩) hk]; exact q0
  · rw [World.cell?_of_block (a := ⟨g, i * 3 + 1, none⟩) hk]; exact q1
  · rw [World.cell?_of_block (a := ⟨g, i * 3 + 2, none⟩) hk]; exact q2

set_option maxRecDepth 20000 in
set_option maxHeartbeats 8000000 in
theorem look_any (w : World) (M : Fz) (O : Lb) (d : Nat) (nb : List Nat) (c : Cl) (h : G w M O d nb c) (k b : Nat) (hb : nb[k]? = some b) (hcm : (c.at k).commit ≤ (c.at k).log.length) (hl : (c.at k).log.length ≤ 1000) (hch : c.chosen.length ≤ 1000) :
    Calls Try.prog 147 #[.pointer (some ⟨d, 0, none⟩), .pointer (some ⟨b, 0, none⟩)] w fun r w' => r = .returned (.tuple #[]) ∧ LDid M O w d nb (c.note k) w' := by
  have st := h.sta
  obtain ⟨us, lv, vv, nv, mv, hn⟩ := h.at hb
  obtain ⟨lo, lc, vo, vc, no, nc, mo, mc, rfl, rfl, rfl, rfl, hlc1, hlc2⟩ := Nd.sl hn
  obtain ⟨⟨_, _, c2, _, _, c5, _⟩, _⟩ := Nd.cs hn
  obtain ⟨C, hC⟩ : ∃ C, C = (c.at k).commit := ⟨_, rfl⟩
  obtain ⟨L, hL⟩ : ∃ L, L = (c.at k).log.length := ⟨_, rfl⟩
  obtain ⟨l, hll⟩ : ∃ l, l = (c.at k).log.take C := ⟨_, rfl⟩
  have hlC : l.length = C := by rw [hll, List.length_take]; omega
  have HNt : Hid (c.note k = cn c l C) := by
    unfold Hid
    rw [note_eq, ← hC, ← hll, hlC]
    rfl
  have HCell : Hid (∀ i, i < C → ∃ g r o n c', lo = some ⟨g, 0, none⟩ ∧ l[i]? = some r ∧ ∀ wr M' O', Aft (fun l => l < 3) M O w M' O' wr → (wr.cell? ⟨g, i * 3, none⟩ = some (.int .i64 r.term) ∧ wr.cell? ⟨g, i * 3 + 1, none⟩ = some (.int .i64 r.index) ∧ wr.cell? ⟨g, i * 3 + 2, none⟩ = some (.slice o n c')) ∧ BytesM M' (.slice o n c') r.data ∧ r.data.length ≤ 1000) := fun i hi => by
    obtain ⟨r, hr⟩ : ∃ r, (c.at k).log[i]? = some r := ⟨_, List.getElem?_eq_getElem (by omega)⟩
    obtain ⟨g, o, n, c', e, hf⟩ := log_far st hn hr
    exact ⟨g, r, o, n, c', e, by rw [hll, List.getElem?_take_of_lt hi]; exact hr, hf⟩
  have H0 : Hid (LDid M O w d nb (cn c l 0) w) := ⟨M, O, Aft.refl _ st, h⟩
  have hCI : (C : Int) ≤ L := by omega
  have hL1 : L ≤ 1000 := by omega
  have HCh : Hid (l.length = C ∧ c.chosen.length ≤ 1000) := ⟨hlC, hch⟩
  rw [HNt.out]
  rw [← hC] at c5
  rw [← hL] at c2
  have hlcI : L ≤ lc := by omega
  clear hn h st hcm hl hlC hll hL hC hlc1 HNt
  go_enter Try.func147, Try.ntmps147
  go_wp2
  go_quiet (fail)
  go_wp2
  have H0' : Hid (LDid M O w d nb (cn c l 0) (w.drewN nq)) := by
    obtain ⟨M', O', a, g⟩ := H0.out
    exact ⟨M', O', a.below (drewN_below w nq), g.below (drewN_below w nq)⟩
  clear H0
  go_loopw [17] (fun iv wr => ∃ i : Nat, i ≤ C ∧ iv = .int .i64 i ∧ Hid (LDid M O w d nb (cn c l i) wr)) (fun iv _ => C - (intOf iv).toNat)
  case atStart => exact ⟨0, Nat.zero_le _, rfl, H0'⟩
  case round =>
    obtain ⟨i, hi, rfl, HI⟩ := hrel
    by_cases hlt : i < C
    · have hltI : (i : Int) < C := by omega
      obtain ⟨g, r, ro, rn, rc, rfl, hr, hfar⟩ := HCell.out i hlt
      obtain ⟨M1, O1, a1, hd1, pv, cv, bs, us1, cs1, h1⟩ := HI.out
      obtain ⟨⟨q0, q1, q2⟩, qb, qd⟩ := hfar wr M1 O1 a1
      obtain ⟨co, cc, ecv⟩ := own_slice h1.chos.row
      subst ecv
      obtain ⟨W1, hW1⟩ : ∃ W1, wr.alloc (.cells #[.int .i64 r.term, .int .i64 r.index, .slice ro rn rc] 38) = W1 := ⟨_, rfl⟩
      have b1 : Below wr.heap.size wr W1 := by rw [← hW1]; exact more (Below.refl _ _) _
      have hbox : W1.heap[wr.heap.size]? = some (.cells #[.int .i64 r.term, .int .i64 r.index, .slice ro rn rc] 38 (0, 0)) := by rw [← hW1]; exact heap_alloc_new wr _
      have hG1 : Gr W1 M1 O1 d hd1 nb (cn c l i) pv (.slice co cs1.length cc) bs us1 cs1 := h1.keep ((Aft.refl _ h1.st).below b1)
      obtain ⟨⟨_, _, _, d3, d4⟩, ⟨_, _, _, f3, f4⟩⟩ := Gr.ca hG1
      have hlen1 : cs1.length = (noteN l i (c.chosen, c.conflict)).1.length := by
        have := congrArg List.length h1.chosen
        simpa [cn] using this
      have hnl := (noteN_len l (c.chosen, c.conflict) i (by have := HCh.out.1; omega)).2
      have hcsb : cs1.length ≤ 3000 := by
        have e9 := noteN_eq l c.chosen c.conflict i (by have := HCh.out.1; omega)
        rw [hlen1, e9]
        have := HCh.out
        simp
        omega
      have hcap := (own_cap h1.chos.row).2.2
      unfold maxLen at hcap
      have hdlt := Gr.lt h1
      have hdne : ¬ (d = wr.heap.size) := by omega
      have hdne2 : ¬ (wr.heap.size = d) := by omega
      by_cases hq : i = cs1.length
      · obtain ⟨i0, hii, hz0, hz1, hz2⟩ := info_parts info35
        have HI3 : Hid (Try.prog.info? 38 = some i0 ∧ i0.zero = some (.agg #[.int .i64 0, .int .i64 0, .slice none 0 0]) ∧ i0.size = 3 ∧ i0.bytes = 40) := ⟨hii, hz0, hz1, hz2⟩
        have s0 := cell_of (i := 0) hbox (v := .int .i64 r.term) rfl
        have s1 := cell_of (i := 1) hbox (v := .int .i64 r.index) rfl
        have s2 := cell_of (i := 2) hbox (v := .slice ro rn rc) rfl
        have s0a : ∀ ob, (W1.alloc ob).cell? ⟨wr.heap.size, 0, none⟩ = some (.int .i64 r.term) := fun ob => at_of (more (Below.refl _ _) ob) s0
        have s1a : ∀ ob, (W1.alloc ob).cell? ⟨wr.heap.size, 1, none⟩ = some (.int .i64 r.index) := fun ob => at_of (more (Below.refl _ _) ob) s1
        have s2a : ∀ ob, (W1.alloc ob).cell? ⟨wr.heap.size, 2, none⟩ = some (.slice ro rn rc) := fun ob => at_of (more (Below.refl _ _) ob) s2
        have d3a : ∀ ob, (W1.alloc ob).cell? ⟨d, 3, none⟩ = some (.slice co cs1.length cc) := fun ob => at_of (more (Below.refl _ _) ob) d3
        have HRow : Hid (((W1.alloc (.cells #[.int .i64 r.term, .int .i64 r.index, .slice ro rn rc] 38)).drew).ownsRow 0 38 3 (.slice co cs1.length cc) cs1.length (cs1.flatMap recCells)) := row_kept hG1.chos.row fun g' hg' => (more (Below.refl _ _) (.cells #[.int .i64 r.term, .int .i64 r.index, .slice ro rn rc] 38)).block g' (row_lt hG1.chos.row hg').2
        have HNw : Hid (∀ (j : Nat) (u : Value), ([.int .i64 r.term, .int .i64 r.index, .slice ro rn rc] : List Value)[j]? = some u → ((W1.alloc (.cells #[.int .i64 r.term, .int .i64 r.index, .slice ro rn rc] 38)).drew).cell? ((⟨W1.heap.size, 0, none⟩ : Addr).add j) = some u) := fun j u hu => by
          rw [addr_add, Nat.zero_add]
          have h7 : (W1.alloc (.cells #[.int .i64 r.term, .int .i64 r.index, .slice ro rn rc] 38)).cell? ⟨W1.heap.size, j, none⟩ = some u := cell_of (heap_alloc_new W1 _) (by simpa using hu)
          exact h7
        have HD : Hid (∀ (w2 : World), ((W1.alloc (.cells #[.int .i64 r.term, .int .i64 r.index, .slice ro rn rc] 38)).drew).grownBy w2 (Value.slice co cs1.length cc).ownBlock → w2.heap[d]? = W1.heap[d]?) := fun w2 hg => (hg.block d (by have := b1.size; have := (more (Below.refl _ W1) (.cells #[.int .i64 r.term, .int .i64 r.index, .slice ro rn rc] 38)).size; have e7 : ((W1.alloc (.cells #[.int .i64 r.term, .int .i64 r.index, .slice ro rn rc] 38)).drew).heap.size = (W1.alloc (.cells #[.int .i64 r.term, .int .i64 r.index, .slice ro rn rc] 38)).heap.size := rfl; omega) (fun e => by have := h1.chos.lab d e.symm; rw [h1.own] at this; cases this)).trans ((more (Below.refl _ _) (.cells #[.int .i64 r.term, .int .i64 r.index, .slice ro rn rc] 38)).block d (by have := b1.size; omega))
        have HDb := hide hG1.blk
        have HFin : Hid (∀ (w2 : World) (g2 n2 cap2 : Nat), ((W1.alloc (.cells #[.int .i64 r.term, .int .i64 r.index, .slice ro rn rc] 38)).drew).grownBy w2 (Value.slice co cs1.length cc).ownBlock → w2.ownsRow 0 38 3 (.slice (some ⟨g2, 0, none⟩) n2 cap2) (cs1.length + 1) (cs1.flatMap recCells ++ [.int .i64 r.term, .int .i64 r.index, .slice ro rn rc]) → ((Value.slice co cs1.length cc).ownBlock = some g2 ∨ g2 = ((W1.alloc (.cells #[.int .i64 r.term, .int .i64 r.index, .slice ro rn rc] 38)).drew).heap.size) → LDid M O w d nb (cn c l (i + 1)) (w2.setCell ⟨d, 3, none⟩ (.slice (some ⟨g2, 0, none⟩) n2 cap2))) := fun w2 g2 n2 cap2 p1 p2 p3 => by
          have hB : Below wr.heap.size wr ((W1.alloc (.cells #[.int .i64 r.term, .int .i64 r.index, .slice ro rn rc] 38)).drew) := (b1.alloc b1.size _).drew
          obtain ⟨O', a5, h5⟩ := Gr.choose h1 hB (y := ⟨r, .slice ro rn rc⟩) ⟨qb, qd⟩ p2 p1 p3
          refine ⟨M1, O', a1.trans a5, hd1, pv, .slice (some ⟨g2, 0, none⟩) n2 cap2, bs, us1, cs1 ++ [⟨r, .slice ro rn rc⟩], ?_⟩
          have e9 : cn c l (i + 1) = { cn c l i with chosen := (cn c l i).chosen ++ [r] } := by
            unfold cn
            rw [noteN_new hr (by rw [← hlen1]; exact hq)]
          rw [e9]
          exact h5
        have hqI : ((i : Int) == (cs1.length : Int)) = true := by simp; omega
        have hN : cs1.length ≤ 3000 := hcsb
        clear hii hz0 hz1 hz2 h1 hG1 a1 HI hfar hlen1 hnl hcsb hr qb b1 HCell HCh
        clear hq
        generalize cs1.length = N at *
        go_wp2
        go_region_law (first
          | (refine step_append_lies _ rfl _ _ 28 rfl 0 38 i0 (.agg #[.int .i64 0, .int .i64 0, .slice none 0 0]) 3 40 Try.underlying28 HI3.out.1 HI3.out.2.1 HI3.out.2.2.1 HI3.out.2.2.2 rfl (by decide) _ N (cs1.flatMap recCells) rfl HRow.out ⟨W1.heap.size, 0, none⟩ 1 1 [.int .i64 r.term, .int .i64 r.index, .slice ro rn rc] rfl rfl HNw.out (fun u' hu' => by simp only [List.mem_cons, List.not_mem_nil, or_false] at hu'; rcases hu' with rfl | rfl | rfl <;> rfl) (by decide) (by unfold maxLen; omega) (by omega) (Nat.zero_le _) _ rfl ?_
             intro g2 cap2 w2 O2 G2 hg2 hgl2
             have HN2 := hide (HFin.out w2 g2 _ cap2 G2 O2 hg2)
             have k2 := (HD.out w2 G2).trans HDb.out
             have t0 := cell_of (i := 3) k2 (v := .slice co N cc) rfl
             have t1 := frozen_of k2 3
             clear O2 G2 hg2 hgl2 k2))
        all_goals
          go_wp2
          go_roundw
          case rel => exact ⟨i + 1, by omega, by go_num, HN2⟩
          case measure => simp [intOf]; omega
      · have hqI : ((i : Int) == (cs1.length : Int)) = false := by simp; omega
        have hil : i < cs1.length := by omega
        have hilI : (i : Int) < cs1.length := by omega
        obtain ⟨y, hy⟩ : ∃ y, cs1[i]? = some y := ⟨_, List.getElem?_eq_getElem hil⟩
        obtain ⟨g2, cap2, yo, yn, yc, ecv, _, _, p0, p1, p2, hyb⟩ := Gr.chosenCell hG1 hy
        simp only [Value.slice.injEq, true_and] at ecv
        obtain ⟨rfl, rfl⟩ := ecv
        have e7 := noteN_old (s := (c.chosen, c.conflict)) (z := y.r) hr (by omega) (by
          have e9 := h1.chosen
          simp only [cn] at e9
          rw [← e9, List.getElem?_map, hy]; rfl)
        have HS7 : Hid (∀ wx, Below W1.heap.size W1 wx → ((wx.cell? ⟨d, 3, none⟩ = some (.slice (some ⟨g2, 0, none⟩) cs1.length cc) ∧ (wx.cell? ⟨wr.heap.size, 0, none⟩ = some (.int .i64 r.term) ∧ wx.cell? ⟨wr.heap.size, 1, none⟩ = some (.int .i64 r.index) ∧ wx.cell? ⟨wr.heap.size, 2, none⟩ = some (.slice ro rn rc)) ∧ (wx.cell? ⟨g2, i * 3, none⟩ = some (.int .i64 y.r.term) ∧ wx.cell? ⟨g2, i * 3 + 1, none⟩ = some (.int .i64 y.r.index) ∧ wx.cell? ⟨g2, i * 3 + 2, none⟩ = some (.slice yo yn yc))) ∧ Below W1.heap.size W1 wx)) := fun wx hb => by
          have hk := kept hb hbox (Nat.le_refl _)
          exact ⟨⟨at_of hb d3, ⟨cell_of hk rfl, cell_of hk rfl, cell_of hk rfl⟩, at_of hb p0, at_of hb p1, at_of hb p2⟩, hb⟩
        by_cases hyr : y.r = r
        · skip
          have HNx : Hid (∀ w4, Below W1.heap.size W1 w4 → LDid M O w d nb (cn c l (i + 1)) w4) := fun w4 hb4 => by
            have e9 : cn c l (i + 1) = cn c l i := by
              unfold cn
              rw [e7, hyr]
              simp
            rw [e9]
            exact ⟨M1, O1, (a1.below b1).below hb4, hd1, pv, _, bs, us1, cs1, hG1.keep ((Aft.refl _ hG1.st).below hb4)⟩
          have HSm : Hid (∀ wx, Below W1.heap.size W1 wx → Calls Try.prog 119 #[.agg #[.int .i64 r.term, .int .i64 r.index, .slice ro rn rc], .agg #[.int .i64 y.r.term, .int .i64 y.r.index, .slice yo yn yc]] wx fun e w' => e = .returned (.bool true) ∧ Below W1.heap.size W1 w') := fun wx hb => by
            refine (same_any wx M1 (hG1.st.inn.below hb) r y.r ro yo rn rc yn yc qb hyb).mono ?_
            rintro e w' ⟨rfl, hb'⟩
            exact ⟨by simp [hyr], hb.trans (hb'.mono hb.size)⟩
          clear h1 hG1 a1 HI hfar hlen1 hnl hcsb hr qb b1 HCell HCh hyb e7 hyr hy hbox
          generalize cs1.length = N at *
          go_wp2
          go_region_held_law (fun wx => (wx.cell? ⟨d, 3, none⟩ = some (.slice (some ⟨g2, 0, none⟩) N cc) ∧ (wx.cell? ⟨wr.heap.size, 0, none⟩ = some (.int .i64 r.term) ∧ wx.cell? ⟨wr.heap.size, 1, none⟩ = some (.int .i64 r.index) ∧ wx.cell? ⟨wr.heap.size, 2, none⟩ = some (.slice ro rn rc)) ∧ (wx.cell? ⟨g2, i * 3, none⟩ = some (.int .i64 y.r.term) ∧ wx.cell? ⟨g2, i * 3 + 1, none⟩ = some (.int .i64 y.r.index) ∧ wx.cell? ⟨g2, i * 3 + 2, none⟩ = some (.slice yo yn yc))) ∧ Below W1.heap.size W1 wx)
            ((refine HS7.out _ ?_; first | assumption | exact Below.refl _ _ | exact (Below.refl _ _).drew))
            (first | (go_at_call 119; refine (HSm.out _ (by first | exact Below.refl _ _ | exact (Below.refl _ _).drew)).mono ?_; rintro rr w4 ⟨rfl, hb4⟩))
          all_goals
            have HN4 := hide (HNx.out w4 hb4)
            go_wp2
            go_roundw
            case rel => exact ⟨i + 1, by omega, by go_num, HN4⟩
            case measure => simp [intOf]; omega
        · skip
          have HNx : Hid (∀ w4, Below W1.heap.size W1 w4 → LDid M O w d nb (cn c l (i + 1)) (w4.setCell ⟨d, 4, none⟩ (.bool true)) ∧ w4.cell? ⟨d, 4, none⟩ = some (.bool (cn c l i).conflict) ∧ w4.frozen? ⟨d, 4, none⟩ = false) := fun w4 hb4 => by
            have e9 : cn c l (i + 1) = { cn c l i with conflict := true } := by
              unfold cn
              rw [e7]
              simp [hyr]
            have h4 : Gr w4 M1 O1 d hd1 nb (cn c l i) pv (.slice (some ⟨g2, 0, none⟩) cs1.length cc) bs us1 cs1 := hG1.keep ((Aft.refl _ hG1.st).below hb4)
            rw [e9]
            obtain ⟨h5, a5⟩ := Gr.clash h4
            exact ⟨⟨M1, O1, ((a1.below b1).below hb4).trans a5, hd1, pv, _, bs, us1, cs1, h5⟩, (Gr.ca h4).1.2.2.2.2, (Gr.ca h4).2.2.2.2.2⟩
          have HSm : Hid (∀ wx, Below W1.heap.size W1 wx → Calls Try.prog 119 #[.agg #[.int .i64 r.term, .int .i64 r.index, .slice ro rn rc], .agg #[.int .i64 y.r.term, .int .i64 y.r.index, .slice yo yn yc]] wx fun e w' => e = .returned (.bool false) ∧ Below W1.heap.size W1 w') := fun wx hb => by
            refine (same_any wx M1 (hG1.st.inn.below hb) r y.r ro yo rn rc yn yc qb hyb).mono ?_
            rintro e w' ⟨rfl, hb'⟩
            exact ⟨by have h8 : ¬ (r = y.r) := fun e => hyr e.symm; simp [h8], hb.trans (hb'.mono hb.size)⟩
          clear h1 hG1 a1 HI hfar hlen1 hnl hcsb hr qb b1 HCell HCh hyb e7 hyr hy hbox
          generalize cs1.length = N at *
          go_wp2
          go_region_held_law (fun wx => (wx.cell? ⟨d, 3, none⟩ = some (.slice (some ⟨g2, 0, none⟩) N cc) ∧ (wx.cell? ⟨wr.heap.size, 0, none⟩ = some (.int .i64 r.term) ∧ wx.cell? ⟨wr.heap.size, 1, none⟩ = some (.int .i64 r.index) ∧ wx.cell? ⟨wr.heap.size, 2, none⟩ = some (.slice ro rn rc)) ∧ (wx.cell? ⟨g2, i * 3, none⟩ = some (.int .i64 y.r.term) ∧ wx.cell? ⟨g2, i * 3 + 1, none⟩ = some (.int .i64 y.r.index) ∧ wx.cell? ⟨g2, i * 3 + 2, none⟩ = some (.slice yo yn yc))) ∧ Below W1.heap.size W1 wx)
            ((refine HS7.out _ ?_; first | assumption | exact Below.refl _ _ | exact (Below.refl _ _).drew))
            (first | (go_at_call 119; refine (HSm.out _ (by first | exact Below.refl _ _ | exact (Below.refl _ _).drew)).mono ?_; rintro rr w4 ⟨rfl, hb4⟩))
          all_goals
            obtain ⟨hn4, k3, k4⟩ := HNx.out w4 hb4
            have HN4 := hide hn4
            clear hn4
            go_wp2
            go_roundw
            case rel => exact ⟨i + 1, by omega, by go_num, HN4⟩
            case measure => simp [intOf]; omega
    · have hltI : ¬ (i : Int) < C := by omega
      obtain rfl : i = C := by omega
      go_wp2
      go_end0
      exact ⟨rfl, HI.out⟩
end Go.Proofs.Ytklkglbimjajnaa.lookc

/- A peer in memory of its own. -/
import Derived.Test.YtklkglbimjajnaaFp
import Derived.Test.YtklkglbimjajnaaPostb
import Derived.Laws.EntriesVeiled
import Derived.Deep.RegionHeldLaw
namespace Go.Proofs.Ytklkglbimjajnaa.ntold
open Go.ChangeShapes Go.WideShapes Go.ChangeAt Go.RowKit
open Go.Proofs.Ytklkglbimjajnaa.Raft Go.Proofs.Ytklkglbimjajnaa.mem Go.Proofs.Ytklkglbimjajnaa.grp Go.Proofs.Ytklkglbimjajnaa.look Go.Proofs.Ytklkglbimjajnaa.ndw Go.Proofs.Ytklkglbimjajnaa.grant Go.Proofs.Ytklkglbimjajnaa.stand Go.Proofs.Ytklkglbimjajnaa.rows2 Go.Proofs.Ytklkglbimjajnaa.clone Go.Proofs.Ytklkglbimjajnaa.behind Go.Proofs.Ytklkglbimjajnaa.post Go.Proofs.Ytklkglbimjajnaa.copy Go.Proofs.Ytklkglbimjajnaa.msgs Go.Proofs.Ytklkglbimjajnaa.postb
set_option linter.unusedVariables false

theorem below_set {w W : World} (h : Below w.heap.size w W) (i : Nat) (u : Value) : Below w.heap.size w (W.setCell ⟨w.heap.size, i, none⟩ u) := h.setCell (Nat.le_refl _) u
set_option maxRecDepth 20000 in
set_option maxHeartbeats 2000000 in
theorem ntold_any (w : World) (M : Fz) (O : Lb) (b k : Nat) (p : Peer) (st : Sta M O w) (h : Nod w M O b k p) (hl : p.log.length ≤ 1000) (hv : p.votes.length ≤ 1000) (hn9 : p.next.length ≤ 1000) (hm9 : p.mat.length ≤ 1000) :
    Calls Try.prog 48 #[.pointer (some ⟨b, 0, none⟩)] w fun r w' => ToldE w M p r w' := by
  obtain ⟨us, lv, vv, nv, mv, hn⟩ := h
  obtain ⟨lo, lc, rfl⟩ := own_slice hn.log
  obtain ⟨vo, vc, rfl⟩ := own_slice hn.votes
  obtain ⟨no, nc, rfl⟩ := own_slice hn.next
  obtain ⟨mo, mc, rfl⟩ := own_slice hn.mat
  have hbl := (st.ok b _ hn.own).2
  obtain ⟨W, hW⟩ : ∃ W, w.alloc (.cells #[.bool false, .int .i64 0, .int .i64 0, .int .i64 0, .int .i64 0, .slice none 0 0, .slice none 0 0, .slice none 0 0, .slice none 0 0] 36) = W := ⟨_, rfl⟩
  have bW : Below w.heap.size w W := by rw [← hW]; exact more (Below.refl _ _) _
  have sW : W.heap.size = w.heap.size + 1 := by rw [← hW]; exact World.size_alloc ..
  have hbx : W.heap[w.heap.size]? = some (.cells #[.bool false, .int .i64 0, .int .i64 0, .int .i64 0, .int .i64 0, .slice none 0 0, .slice none 0 0, .slice none 0 0, .slice none 0 0] 36 (0, 0)) := by rw [← hW]; exact heap_alloc_new w _
  obtain ⟨ln, eln⟩ : ∃ ln, ln = us.length := ⟨_, rfl⟩
  obtain ⟨vn, evn⟩ : ∃ vn, vn = p.votes.length := ⟨_, rfl⟩
  obtain ⟨nn, enn⟩ : ∃ nn, nn = p.next.length := ⟨_, rfl⟩
  obtain ⟨mn, emn⟩ : ∃ mn, mn = p.mat.length := ⟨_, rfl⟩
  have hF0 : FP W M W M := FP.refl (st.inn.below bW)
  have kp : ∀ wx, Below W.heap.size W wx → Below w.heap.size w wx := fun wx hx => bW.trans (hx.mono bW.size)
  have HC : Hid (∀ wx, Below W.heap.size W wx → (wx.cell? ⟨b, 0, none⟩ = some (.int .i64 p.term) ∧ wx.cell? ⟨b, 1, none⟩ = some (.int .i64 p.vote) ∧ wx.cell? ⟨b, 2, none⟩ = some (.slice lo ln lc) ∧ wx.cell? ⟨b, 3, none⟩ = some (.int .i64 k) ∧ wx.cell? ⟨b, 4, none⟩ = some (.bool p.up) ∧ wx.cell? ⟨b, 5, none⟩ = some (.int .i64 p.commit) ∧ wx.cell? ⟨b, 6, none⟩ = some (.int .i64 p.role) ∧ wx.cell? ⟨b, 7, none⟩ = some (.slice vo vn vc) ∧ wx.cell? ⟨b, 8, none⟩ = some (.slice no nn nc) ∧ wx.cell? ⟨b, 9, none⟩ = some (.slice mo mn mc))) := fun wx hx => by
    have hb2 : wx.heap[b]? = some (.cells #[.int .i64 p.term, .int .i64 p.vote, .slice lo ln lc, .int .i64 k, .bool p.up, .int .i64 p.commit, .int .i64 p.role, .slice vo vn vc, .slice no nn nc, .slice mo mn mc] 110 (0, 0)) := by
      rw [eln, evn, enn, emn]
      exact ((kp wx hx).block b hbl).trans hn.blk
    exact ⟨cell_of hb2 rfl, cell_of hb2 rfl, cell_of hb2 rfl, cell_of hb2 rfl, cell_of hb2 rfl, cell_of hb2 rfl, cell_of hb2 rfl, cell_of hb2 rfl, cell_of hb2 rfl, cell_of hb2 rfl⟩
  have HZ : Hid (∀ wx, Below W.heap.size W wx → wx.heap[w.heap.size]? = some (.cells #[.bool false, .int .i64 0, .int .i64 0, .int .i64 0, .int .i64 0, .slice none 0 0, .slice none 0 0, .slice none 0 0, .slice none 0 0] 36 (0, 0))) := fun wx hx => (hx.block _ (by omega)).trans hbx
  have HLg : Hid (∀ wx, FP W M wx M → Calls Try.prog 47 #[.slice lo ln lc] wx fun r w' => ∃ (a1 : Option Addr) (a2 a3 : Nat), r = .returned (.slice a1 a2 a3) ∧ Hid (∃ M', FP W M w' M' ∧ RecsM M' (.slice a1 a2 a3) p.log)) := fun wx hx => by
    rw [eln]
    refine (copyRecs_any wx M _ us hx.inn (RecsR.own (row_kept hn.log (fun g hg => (kp wx hx.below).block g (row_lt hn.log hg).2))) hn.data (by have := congrArg List.length hn.recs; rw [List.length_map] at this; omega)).mono ?_
    rintro r w' ⟨M', o, n, lc, rfl, q1, q2, q3, q4, q5⟩
    rw [hn.recs] at q3
    exact ⟨o, n, lc, rfl, M', hx.trans ⟨q1, q2, q4, q5⟩, q3⟩
  have HVt : Hid (∀ wx M1, FP W M wx M1 → Calls Try.prog 98 #[.slice vo vn vc] wx fun r w' => ∃ (b1 : Option Addr) (b2 b3 : Nat), r = .returned (.slice b1 b2 b3) ∧ Hid (∃ M', FP W M w' M' ∧ Le M1 M' ∧ RowM M' (.slice b1 b2 b3) p.votes.length 1 (p.votes.map Value.bool))) := fun wx M1 hx => by
    rw [evn]
    refine (cloneB wx _ p.votes (row_kept hn.votes (fun g hg => (kp wx hx.below).block g (row_lt hn.votes hg).2)) hv).mono ?_
    intro r w' hc
    obtain ⟨o, n, c, rfl, M2, q1, q2, q3⟩ := hx.clone hc
    exact ⟨o, n, c, rfl, M2, q1, q2, q3⟩
  have HNx : Hid (∀ wx M1, FP W M wx M1 → Calls Try.prog 99 #[.slice no nn nc] wx fun r w' => ∃ (c1 : Option Addr) (c2 c3 : Nat), r = .returned (.slice c1 c2 c3) ∧ Hid (∃ M', FP W M w' M' ∧ Le M1 M' ∧ RowM M' (.slice c1 c2 c3) p.next.length 1 (p.next.map (fun (n : Nat) => Value.int .i64 (n : Int))))) := fun wx M1 hx => by
    rw [enn]
    refine (cloneI wx _ p.next (row_kept hn.next (fun g hg => (kp wx hx.below).block g (row_lt hn.next hg).2)) hn9).mono ?_
    intro r w' hc
    obtain ⟨o, n, c, rfl, M2, q1, q2, q3⟩ := hx.clone hc
    exact ⟨o, n, c, rfl, M2, q1, q2, q3⟩
  have HMt : Hid (∀ wx M1, FP W M wx M1 → Calls Try.prog 99 #[.slice mo mn mc] wx fun r w' => ∃ (d1 : Option Addr) (d2 d3 : Nat), r = .returned (.slice d1 d2 d3) ∧ Hid (∃ M', FP W M w' M' ∧ Le M1 M' ∧ RowM M' (.slice d1 d2 d3) p.mat.length 1 (p.mat.map (fun (n : Nat) => Value.int .i64 (n : Int))))) := fun wx M1 hx => by
    rw [emn]
    refine (cloneI wx _ p.mat (row_kept hn.mat (fun g hg => (kp wx hx.below).block g (row_lt hn.mat hg).2)) hm9).mono ?_
    intro r w' hc
    obtain ⟨o, n, c, rfl, M2, q1, q2, q3⟩ := hx.clone hc
    exact ⟨o, n, c, rfl, M2, q1, q2, q3⟩
  have HF : Hid (∀ wx M' (a1 : Option Addr) (a2 a3 : Nat) (b1 : Option Addr) (b2 b3 : Nat) (c1 : Option Addr) (c2 c3 : Nat) (d1 : Option Addr) (d2 d3 : Nat), FP W M wx M' → PeerM M' p (.slice a1 a2 a3) (.slice b1 b2 b3) (.slice c1 c2 c3) (.slice d1 d2 d3) → ToldE w M p (.returned (.agg #[.bool p.up, .int .i64 p.term, .int .i64 p.vote, .int .i64 p.commit, .int .i64 p.role, .slice a1 a2 a3, .slice b1 b2 b3, .slice c1 c2 c3, .slice d1 d2 d3])) (sets wx w.heap.size [(0, .bool p.up), (1, .int .i64 p.term), (2, .int .i64 p.vote), (3, .int .i64 p.commit), (4, .int .i64 p.role), (5, .slice a1 a2 a3), (6, .slice b1 b2 b3), (7, .slice c1 c2 c3), (8, .slice d1 d2 d3)])) := fun wx M' a1 a2 a3 b1 b2 b3 c1 c2 c3 d1 d2 d3 hf hp => by
    refine ⟨a1, a2, a3, b1, b2, b3, c1, c2, c3, d1, d2, d3, rfl, M', ⟨hf.le, ?_, ?_, fun b hb => ?_⟩, hp⟩
    · intro x o hx
      refine (sets_ne _ wx ?_).trans (hf.inn x o hx)
      rintro rfl
      rcases hf.new _ (by rw [hx]; simp) with g | g
      · exact g (st.inn.fresh (Nat.le_refl _))
      · omega
    · exact sets_below w wx (kp wx hf.below) _ _ (kp wx hf.below)
    · rcases hf.new b hb with g | g
      · exact .inl g
      · exact .inr (by omega)
  have HF0 := hide hF0
  have HKp := hide kp
  have HS7 : Hid (∀ wx, Below w.heap.size w wx → (wx.cell? ⟨b, 0, none⟩ = some (.int .i64 p.term) ∧ wx.cell? ⟨b, 1, none⟩ = some (.int .i64 p.vote) ∧ wx.cell? ⟨b, 2, none⟩ = some (.slice lo ln lc) ∧ wx.cell? ⟨b, 3, none⟩ = some (.int .i64 k) ∧ wx.cell? ⟨b, 4, none⟩ = some (.bool p.up) ∧ wx.cell? ⟨b, 5, none⟩ = some (.int .i64 p.commit) ∧ wx.cell? ⟨b, 6, none⟩ = some (.int .i64 p.role) ∧ wx.cell? ⟨b, 7, none⟩ = some (.slice vo vn vc) ∧ wx.cell? ⟨b, 8, none⟩ = some (.slice no nn nc) ∧ wx.cell? ⟨b, 9, none⟩ = some (.slice mo mn mc)) ∧ Below w.heap.size w wx) := fun wx hx => by
    have hb2 : wx.heap[b]? = some (.cells #[.int .i64 p.term, .int .i64 p.vote, .slice lo ln lc, .int .i64 k, .bool p.up, .int .i64 p.commit, .int .i64 p.role, .slice vo vn vc, .slice no nn nc, .slice mo mn mc] 110 (0, 0)) := by
      rw [eln, evn, enn, emn]
      exact (hx.block b hbl).trans hn.blk
    exact ⟨⟨cell_of hb2 rfl, cell_of hb2 rfl, cell_of hb2 rfl, cell_of hb2 rfl, cell_of hb2 rfl, cell_of hb2 rfl, cell_of hb2 rfl, cell_of hb2 rfl, cell_of hb2 rfl, cell_of hb2 rfl⟩, hx⟩
  have hbW := hide bW
  clear hn st hbx bW kp hF0 eln evn enn emn hl hv hn9 hm9 HC sW hbl
  go_enter Try.func48, Try.ntmps48
  go_wp2
  go_region_held_law (fun wx => (wx.cell? ⟨b, 0, none⟩ = some (.int .i64 p.term) ∧ wx.cell? ⟨b, 1, none⟩ = some (.int .i64 p.vote) ∧ wx.cell? ⟨b, 2, none⟩ = some (.slice lo ln lc) ∧ wx.cell? ⟨b, 3, none⟩ = some (.int .i64 k) ∧ wx.cell? ⟨b, 4, none⟩ = some (.bool p.up) ∧ wx.cell? ⟨b, 5, none⟩ = some (.int .i64 p.commit) ∧ wx.cell? ⟨b, 6, none⟩ = some (.int .i64 p.role) ∧ wx.cell? ⟨b, 7, none⟩ = some (.slice vo vn vc) ∧ wx.cell? ⟨b, 8, none⟩ = some (.slice no nn nc) ∧ wx.cell? ⟨b, 9, none⟩ = some (.slice mo mn mc)) ∧ Below w.heap.size w wx)
    ((refine HS7.out _ ?_; first | (with_reducible assumption) | (with_reducible exact hbW.out) | (with_reducible exact hbW.out.drew) | (refine (below_set (below_set (below_set (below_set (below_set (below_set (below_set (below_set (below_set ?_ _ _) _ _) _ _) _ _) _ _) _ _) _ _) _ _) _ _); with_reducible assumption)))
    (first
    | (go_at_call 47; refine (HLg.out _ (HF0.out.more (by first | exact (Below.refl _ _).drew | exact Below.refl _ _))).mono ?_; rintro rr w1 ⟨a1, a2, a3, rfl, H1⟩; have hb1 : Below w.heap.size w w1 := (by obtain ⟨_, q, _⟩ := H1.out; exact HKp.out _ q.below))
    | (go_at_call 98; obtain ⟨M1, f1, g1⟩ := H1.out; refine (HVt.out _ M1 f1).mono ?_; rintro rr w2 ⟨b1, b2, b3, rfl, H2⟩; have hb2 : Below w.heap.size w w2 := (by obtain ⟨_, q, _⟩ := H2.out; exact HKp.out _ q.below); have G1 := hide g1; clear f1 g1)
    | (go_at_call 99; obtain ⟨M2, f2, l2, g2⟩ := H2.out; refine (HNx.out _ M2 f2).mono ?_; rintro rr w3 ⟨c1, c2, c3, rfl, H3⟩; have hb3 : Below w.heap.size w w3 := (by obtain ⟨_, q, _⟩ := H3.out; exact HKp.out _ q.below); have G2 := hide (And.intro l2 g2); clear f2 l2 g2)
    | (go_at_call 99; obtain ⟨M3, f3, l3, g3⟩ := H3.out; refine (HMt.out _ M3 f3).mono ?_; rintro rr w4 ⟨d1, d2, d3, rfl, H4⟩; obtain ⟨M4, f4, l4, g4⟩ := H4.out; have hb4 : Below w.heap.size w w4 := HKp.out _ f4.below; have HT := hide (HF.out w4 M4 a1 a2 a3 b1 b2 b3 c1 c2 c3 d1 d2 d3 f4 ⟨(G1.out.le G2.out.1).le (l3.trans l4), (G2.out.2.le (l3.trans l4)), g3.le l4, g4⟩); have hz := HZ.out w4 f4.below; clear f4 l3 l4 g3 g4 f3; have HBX := hide hz; have zz0 := cell_of (i := 0) hz (v := .bool false) rfl; have zf0 := frozen_of hz 0; have zz1 := cell_of (i := 1) hz (v := .int .i64 0) rfl; have zf1 := frozen_of hz 1; have zz2 := cell_of (i := 2) hz (v := .int .i64 0) rfl; have zf2 := frozen_of hz 2; have zz3 := cell_of (i := 3) hz (v := .int .i64 0) rfl; have zf3 := frozen_of hz 3; have zz4 := cell_of (i := 4) hz (v := .int .i64 0) rfl; have zf4 := frozen_of hz 4; have zz5 := cell_of (i := 5) hz (v := .slice none 0 0) rfl; have zf5 := frozen_of hz 5; have zz6 := cell_of (i := 6) hz (v := .slice none 0 0) rfl; have zf6 := frozen_of hz 6; have zz7 := cell_of (i := 7) hz (v := .slice none 0 0) rfl; have zf7 := frozen_of hz 7; have zz8 := cell_of (i := 8) hz (v := .slice none 0 0) rfl; have zf8 := frozen_of hz 8; clear hz))
  all_goals
    go_wp2
    obtain ⟨WF, hWF⟩ : ∃ WF, sets w4 w.heap.size [(0, .bool p.up), (1, .int .i64 p.term), (2, .int .i64 p.vote), (3, .int .i64 p.commit), (4, .int .i64 p.role), (5, .slice a1 a2 a3), (6, .slice b1 b2 b3), (7, .slice c1 c2 c3), (8, .slice d1 d2 d3)] = WF := ⟨_, rfl⟩
    have hblk : WF.heap[w.heap.size]? = some (.cells #[.bool p.up, .int .i64 p.term, .int .i64 p.vote, .int .i64 p.commit, .int .i64 p.role, .slice a1 a2 a3, .slice b1 b2 b3, .slice c1 c2 c3, .slice d1 d2 d3] 36 (0, 0)) := by
      rw [← hWF]
      have q2 := sets_at [(0, .bool p.up), (1, .int .i64 p.term), (2, .int .i64 p.vote), (3, .int .i64 p.commit), (4, .int .i64 p.role), (5, .slice a1 a2 a3), (6, .slice b1 b2 b3), (7, .slice c1 c2 c3), (8, .slice d1 d2 d3)] HBX.out
      have e : setsA #[.bool false, .int .i64 0, .int .i64 0, .int .i64 0, .int .i64 0, .slice none 0 0, .slice none 0 0, .slice none 0 0, .slice none 0 0] [(0, .bool p.up), (1, .int .i64 p.term), (2, .int .i64 p.vote), (3, .int .i64 p.commit), (4, .int .i64 p.role), (5, .slice a1 a2 a3), (6, .slice b1 b2 b3), (7, .slice c1 c2 c3), (8, .slice d1 d2 d3)] = #[.bool p.up, .int .i64 p.term, .int .i64 p.vote, .int .i64 p.commit, .int .i64 p.role, .slice a1 a2 a3, .slice b1 b2 b3, .slice c1 c2 c3, .slice d1 d2 d3] := by simp [setsA]
      rw [e] at q2
      exact q2
    have g0 := cell_of (i := 0) hblk (v := .bool p.up) rfl
    have g1 := cell_of (i := 1) hblk (v := .int .i64 p.term) rfl
    have g2 := cell_of (i := 2) hblk (v := .int .i64 p.vote) rfl
    have g3 := cell_of (i := 3) hblk (v := .int .i64 p.commit) rfl
    have g4 := cell_of (i := 4) hblk (v := .int .i64 p.role) rfl
    have g5 := cell_of (i := 5) hblk (v := .slice a1 a2 a3) rfl
    have g6 := cell_of (i := 6) hblk (v := .slice b1 b2 b3) rfl
    have g7 := cell_of (i := 7) hblk (v := .slice c1 c2 c3) rfl
    have g8 := cell_of (i := 8) hblk (v := .slice d1 d2 d3) rfl
    have HT2 := HT.out
    rw [hWF] at HT2
    simp only [sets] at hWF
    rw [hWF]
    refine bodyPost_ret (v := .agg #[.bool p.up, .int .i64 p.term, .int .i64 p.vote, .int .i64 p.commit, .int .i64 p.role, .slice a1 a2 a3, .slice b1 b2 b3, .slice c1 c2 c3, .slice d1 d2 d3]) ?_ rfl HT2
    simp [results, Try.results48, go_sem, g0, g1, g2, g3, g4, g5, g6, g7, g8]
end Go.Proofs.Ytklkglbimjajnaa.ntold

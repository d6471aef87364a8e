import Derived.Test.YtklkglbimjajnaaQ03
import Derived.Laws.EntriesVeiled
import Derived.Deep.RegionHeldLaw
import Derived.Test.YtklkglbimjajnaaQ01
set_option linter.unusedVariables false
namespace Go.Proofs.Ytklkglbimjajnaa.ntold
open Go.ChangeShapes Go.WideShapes Go.ChangeAt Go.RowKit
open Raft mem grp Ytklkglbimjajnaa.look ndw grant stand rows2 clone behind post copy msgs postb
theorem below_set {w W : World} (h : Below w.heap.size w W) (i : Nat) (u : Value) : Below w.heap.size w (W.setCell ⟨w.heap.size, i, none⟩ u) := h.setCell (Nat.le_refl _) u
set_option maxRecDepth 20000 in
set_option maxHeartbeats 2000000 in
theorem ntold_any (w : World) (M : Fz) (O : Lb) (b k : Nat) (p : Peer) (st : Sta M O w) (h : Nod w M O b k p) (hl : p.log.length ≤ 1000) (hv : p.votes.length ≤ 1000) (hn9 : p.next.length ≤ 1000) (hm9 : p.mat.length ≤ 1000) :
    Calls Try.prog 48 #[.pointer (some ⟨b, 0, none⟩)] w fun r w' => ToldE w M p r w' := by
  obtain ⟨us, lv, vv, nv, mv, hn⟩ := h
  obtain ⟨lo, lc, rfl⟩ := own_slice hn.log
  obtain ⟨vo, vc, rfl⟩ := own_slice hn.votes
  obtain ⟨no, nc, rfl⟩ := own_slice hn.next
  obtain ⟨mo, mc, rfl⟩ := own_slice hn.mat
  have hbl := (st.ok b _ hn.own).2
  obtain ⟨W, hW⟩ : ∃ W, w.alloc (.cells #[.bool false, .int .i64 0, .int .i64 0, .int .i64 0, .int .i64 0, .slice none 0 0, .slice none 0 0, .slice none 0 0, .slice none 0 0] 36) = W := ⟨_, rfl⟩
  have bW : Below w.heap.size w W := by rw [← hW]; exact more (Below.refl _ _) _
  have sW : W.heap.size = w.heap.size + 1 := by rw [← hW]; exact World.size_alloc ..
  have hbx : W.heap[w.heap.size]? = some (.cells #[.bool false, .int .i64 0, .int .i64 0, .int .i64 0, .int .i64 0, .slice none 0 0, .slice none 0 0, .slice none 0 0, .slice none 0 0] 36 (0, 0)) := by rw [← hW]; exact heap_alloc_new w _
  obtain ⟨ln, eln⟩ : ∃ ln, ln = us.length := ⟨_, rfl⟩
  obtain ⟨vn, evn⟩ : ∃ vn, vn = p.votes.length := ⟨_, rfl⟩
  obtain ⟨nn, enn⟩ : ∃ nn, nn = p.next.length := ⟨_, rfl⟩
  obtain ⟨mn, emn⟩ : ∃ mn, mn = p.mat.length := ⟨_, rfl⟩
  have hF0 : FP W M W M := FP.refl (st.inn.below bW)
  have kp : ∀ wx, Below W.heap.size W wx → Below w.heap.size w wx := fun wx hx => bW.trans (hx.mono bW.size)
  have HC : Hid (∀ wx, Below W.heap.size W wx → (wx.cell? ⟨b, 0, none⟩ = some (.int .i64 p.term) ∧ wx.cell? ⟨b, 1, none⟩ = some (.int .i64 p.vote) ∧ wx.cell? ⟨b, 2, none⟩ = some (.slice lo ln lc) ∧ wx.cell? ⟨b, 3, none⟩ = some (.int .i64 k) ∧ wx.cell? ⟨b, 4, none⟩ = some (.bool p.up) ∧ wx.cell? ⟨b, 5, none⟩ = some (.int .i64 p.commit) ∧ wx.cell? ⟨b, 6, none⟩ = some (.int .i64 p.role) ∧ wx.cell? ⟨b, 7, none⟩ = some (.slice vo vn vc) ∧ wx.cell? ⟨b, 8, none⟩ = some (.slice no nn nc) ∧ wx.cell? ⟨b, 9, none⟩ = some (.slice mo mn mc))) := fun wx hx => by
    have hb2 : wx.heap[b]? = some (.cells #[.int .i64 p.term, .int .i64 p.vote, .slice lo ln lc, .int .i64 k, .bool p.up, .int .i64 p.commit, .int .i64 p.role, .slice vo vn vc, .slice no nn nc, .slice mo mn mc] 110 (0, 0)) := by
      rw [eln, evn, enn, emn]
      exact ((kp wx hx).block b hbl).trans hn.blk
    exact ⟨cell_of hb2 rfl, cell_of hb2 rfl, cell_of hb2 rfl, cell_of hb2 rfl, cell_of hb2 rfl, cell_of hb2 rfl, cell_of hb2 rfl, cell_of hb2 rfl, cell_of hb2 rfl, cell_of hb2 rfl⟩
  have HZ : Hid (∀ wx, Below W.heap.size W wx → wx.heap[w.heap.size]? = some (.cells #[.bool false, .int .i64 0, .int .i64 0, .int .i64 0, .int .i64 0, .slice none 0 0, .slice none 0 0, .slice none 0 0, .slice none 0 0] 36 (0, 0))) := fun wx hx => (hx.block _ (by omega)).trans hbx
  have HLg : Hid (∀ wx, FP W M wx M → Calls Try.prog 47 #[.slice lo ln lc] wx fun r w' => ∃ (a1 : Option Addr) (a2 a3 : Nat), r = .returned (.slice a1 a2 a3) ∧ Hid (∃ M', FP W M w' M' ∧ RecsM M' (.slice a1 a2 a3) p.log)) := fun wx hx => by
    rw [eln]
    refine (copyRecs_any wx M _ us hx.inn (RecsR.own (row_kept hn.log (fun g hg => (kp wx hx.below).block g (row_lt hn.log hg).2))) hn.data (by have := congrArg List.length hn.recs; rw [List.length_map] at this; omega)).mono ?_
    rintro r w' ⟨M', o, n, lc, rfl, q1, q2, q3, q4, q5⟩
    rw [hn.recs] at q3
    exact ⟨o, n, lc, rfl, M', hx.trans ⟨q1, q2, q4, q5⟩, q3⟩
  have HVt : Hid (∀ wx M1, FP W M wx M1 → Calls Try.prog 98 #[.slice vo vn vc] wx fun r w' => ∃ (b1 : Option Addr) (b2 b3 : Nat), r = .returned (.slice b1 b2 b3) ∧ Hid (∃ M', FP W M w' M' ∧ Le M1 M' ∧ RowM M' (.slice b1 b2 b3) p.votes.length 1 (p.votes.map Value.bool))) := fun wx M1 hx => by
    rw [evn]
    refine (cloneB wx _ p.votes (row_kept hn.votes (fun g hg => (kp wx hx.below).block g (row_lt hn.votes hg).2)) hv).mono ?_
    intro r w' hc
    obtain ⟨o, n, c, rfl, M2, q1, q2, q3⟩ := hx.clone hc
    exact ⟨o, n, c, rfl, M2, q1, q2, q3⟩
  have HNx : Hid (∀ wx M1, FP W M wx M1 → Calls Try.prog 99 #[.slice no nn nc] wx fun r w' => ∃ (c1 : Option Addr) (c2 c3 : Nat), r = .returned (.slice c1 c2 c3) ∧ Hid (∃ M', FP W M w' M' ∧ Le M1 M' ∧ RowM M' (.slice c1 c2 c3) p.next.length 1 (p.next.map (fun (n : Nat) => Value.int .i64 (n : Int))))) := fun wx M1 hx => by
    rw [enn]
    refine (cloneI wx _ p.next (row_kept hn.next (fun g hg => (kp wx hx.below).block g (row_lt hn.next hg).2)) hn9).mono ?_
    intro r w' hc
    obtain ⟨o, n, c, rfl, M2, q1, q2, q3⟩ := hx.clone hc
    exact ⟨o, n, c, rfl, M2, q1, q2, q3⟩
  have HMt : Hid (∀ wx M1, FP W M wx M1 → Calls Try.prog 99 #[.slice mo mn mc] wx fun r w' => ∃ (d1 : Option Addr) (d2 d3 : Nat), r = .returned (.slice d1 d2 d3) ∧ Hid (∃ M', FP W M w' M' ∧ Le M1 M' ∧ RowM M' (.slice d1 d2 d3) p.mat.length 1 (p.mat.map (fun (n : Nat) => Value.int .i64 (n : Int))))) := fun wx M1 hx => by
    rw [emn]
    refine (cloneI wx _ p.mat (row_kept hn.mat (fun g hg => (kp wx hx.below).block g (row_lt hn.mat hg).2)) hm9).mono ?_
    intro r w' hc
    obtain ⟨o, n, c, rfl, M2, q1, q2, q3⟩ := hx.clone hc
    exact ⟨o, n, c, rfl, M2, q1, q2, q3⟩
  have HF : Hid (∀ wx M' (a1 : Option Addr) (a2 a3 : Nat) (b1 : Option Addr) (b2 b3 : Nat) (c1 : Option Addr) (c2 c3 : Nat) (d1 : Option Addr) (d2 d3 : Nat), FP W M wx M' → PeerM M' p (.slice a1 a2 a3) (.slice b1 b2 b3) (.slice c1 c2 c3) (.slice d1 d2 d3) → ToldE w M p (.returned (.agg #[.bool p.up, .int .i64 p.term, .int .i64 p.vote, .int .i64 p.commit, .int .i64 p.role, .slice a1 a2 a3, .slice b1 b2 b3, .slice c1 c2 c3, .slice d1 d2 d3])) (sets wx w.heap.size [(0, .bool p.up), (1, .int .i64 p.term), (2, .int .i64 p.vote), (3, .int .i64 p.commit), (4, .int .i64 p.role), (5, .slice a1 a2 a3), (6, .slice b1 b2 b3), (7, .slice c1 c2 c3), (8, .slice d1 d2 d3)])) := fun wx M' a1 a2 a3 b1 b2 b3 c1 c2 c3 d1 d2 d3 hf hp => by
    refine ⟨a1, a2, a3, b1, b2, b3, c1, c2, c3, d1, d2, d3, rfl, M', ⟨hf.le, ?_, ?_, fun b hb => ?_⟩, hp⟩
    · intro x o hx
      refine (sets_ne _ wx ?_).trans (hf.inn x o hx)
      rintro rfl
      rcases hf.new _ (by rw [hx]; simp) with g | g
      · exact g (st.inn.fresh (Nat.le_refl _))
      · omega
    · exact sets_below w wx (kp wx hf.below) _ _ (kp wx hf.below)
    · rcases hf.new b hb with g | g
      · exact .inl g
      · exact .inr (by omega)
  have HF0 := hide hF0
  have HKp := hide kp
  have HS7 : Hid (∀ wx, Below w.heap.size w wx → (wx.cell? ⟨b, 0, none⟩ = some (.int .i64 p.term) ∧ wx.cell? ⟨b, 1, none⟩ = some (.int .i64 p.vote) ∧ wx.cell? ⟨b, 2, none⟩ = some (.slice lo ln lc) ∧ wx.cell? ⟨b, 3, none⟩ = some (.int .i64 k) ∧ wx.cell? ⟨b, 4, none⟩ = some (.bool p.up) ∧ wx.cell? ⟨b, 5, none⟩ = some (.int .i64 p.commit) ∧ wx.cell? ⟨b, 6, none⟩ = some (.int .i64 p.role) ∧ wx.cell? ⟨b, 7, none⟩ = some (.slice vo vn vc) ∧ wx.cell? ⟨b, 8, none⟩ = some (.slice no nn nc) ∧ wx.cell? ⟨b, 9, none⟩ = some (.slice mo mn mc)) ∧ Below w.heap.size w wx) := fun wx hx => by
    have hb2 : wx.heap[b]? = some (.cells #[.int .i64 p.term, .int .i64 p.vote, .slice lo ln lc, .int .i64 k, .bool p.up, .int .i64 p.commit, .int .i64 p.role, .slice vo vn vc, .slice no nn nc, .slice mo mn mc] 110 (0, 0)) := by
      rw [eln, evn, enn, emn]
      exact (hx.block b hbl).trans hn.blk
    exact ⟨⟨cell_of hb2 rfl, cell_of hb2 rfl, cell_of hb2 rfl, cell_of hb2 rfl, cell_of hb2 rfl, cell_of hb2 rfl, cell_of hb2 rfl, cell_of hb2 rfl, cell_of hb2 rfl, cell_of hb2 rfl⟩, hx⟩
  have hbW := hide bW
  clear hn st hbx bW kp hF0 eln evn enn emn hl hv hn9 hm9 HC sW hbl
  go_enter Try.func48, Try.ntmps48
  go_wp2
  go_region_held_law (fun wx => (wx.cell? ⟨b, 0, none⟩ = some (.int .i64 p.term) ∧ wx.cell? ⟨b, 1, none⟩ = some (.int .i64 p.vote) ∧ wx.cell? ⟨b, 2, none⟩ = some (.slice lo ln lc) ∧ wx.cell? ⟨b, 3, none⟩ = some (.int .i64 k) ∧ wx.cell? ⟨b, 4, none⟩ = some (.bool p.up) ∧ wx.cell? ⟨b, 5, none⟩ = some (.int .i64 p.commit) ∧ wx.cell? ⟨b, 6, none⟩ = some (.int .i64 p.role) ∧ wx.cell? ⟨b, 7, none⟩ = some (.slice vo vn vc) ∧ wx.cell? ⟨b, 8, none⟩ = some (.slice no nn nc) ∧ wx.cell? ⟨b, 9, none⟩ = some (.slice mo mn mc)) ∧ Below w.heap.size w wx)
    ((refine HS7.out _ ?_; first | (with_reducible assumption) | (with_reducible exact hbW.out) | (with_reducible exact hbW.out.drew) | (refine (below_set (below_set (below_set (below_set (below_set (below_set (below_set (below_set (below_set ?_ _ _) _ _) _ _) _ _) _ _) _ _) _ _) _ _) _ _); with_reducible assumption)))
    (first
    | (go_at_call 47; refine (HLg.out _ (HF0.out.more (by first | exact (Below.refl _ _).drew | exact Below.refl _ _))).mono ?_; rintro rr w1 ⟨a1, a2, a3, rfl, H1⟩; have hb1 : Below w.heap.size w w1 := (by obtain ⟨_, q, _⟩ := H1.out; exact HKp.out _ q.below))
    | (go_at_call 98; obtain ⟨M1, f1, g1⟩ := H1.out; refine (HVt.out _ M1 f1).mono ?_; rintro rr w2 ⟨b1, b2, b3, rfl, H2⟩; have hb2 : Below w.heap.size w w2 := (by obtain ⟨_, q, _⟩ := H2.out; exact HKp.out _ q.below); have G1 := hide g1; clear f1 g1)
    | (go_at_call 99; obtain ⟨M2, f2, l2, g2⟩ := H2.out; refine (HNx.out _ M2 f2).mono ?_; rintro rr w3 ⟨c1, c2, c3, rfl, H3⟩; have hb3 : Below w.heap.size w w3 := (by obtain ⟨_, q, _⟩ := H3.out; exact HKp.out _ q.below); have G2 := hide (And.intro l2 g2); clear f2 l2 g2)
    | (go_at_call 99; obtain ⟨M3, f3, l3, g3⟩ := H3.out; refine (HMt.out _ M3 f3).mono ?_; rintro rr w4 ⟨d1, d2, d3, rfl, H4⟩; obtain ⟨M4, f4, l4, g4⟩ := H4.out; have hb4 : Below w.heap.size w w4 := HKp.out _ f4.below; have HT := hide (HF.out w4 M4 a1 a2 a3 b1 b2 b3 c1 c2 c3 d1 d2 d3 f4 ⟨(G1.out.le G2.out.1).le (l3.trans l4), (G2.out.2.le (l3.trans l4)), g3.le l4, g4⟩); have hz := HZ.out w4 f4.below; clear f4 l3 l4 g3 g4 f3; have HBX := hide hz; have zz0 := cell_of (i := 0) hz (v := .bool false) rfl; have zf0 := frozen_of hz 0; have zz1 := cell_of (i := 1) hz (v := .int .i64 0) rfl; have zf1 := frozen_of hz 1; have zz2 := cell_of (i := 2) hz (v := .int .i64 0) rfl; have zf2 := frozen_of hz 2; have zz3 := cell_of (i := 3) hz (v := .int .i64 0) rfl; have zf3 := frozen_of hz 3; have zz4 := cell_of (i := 4) hz (v := .int .i64 0) rfl; have zf4 := frozen_of hz 4; have zz5 := cell_of (i := 5) hz (v := .slice none 0 0) rfl; have zf5 := frozen_of hz 5; have zz6 := cell_of (i := 6) hz (v := .slice none 0 0) rfl; have zf6 := frozen_of hz 6; have zz7 := cell_of (i := 7) hz (v := .slice none 0 0) rfl; have zf7 := frozen_of hz 7; have zz8 := cell_of (i := 8) hz (v := .slice none 0 0) rfl; have zf8 := frozen_of hz 8; clear hz))
  all_goals
    go_wp2
    obtain ⟨WF, hWF⟩ : ∃ WF, sets w4 w.heap.size [(0, .bool p.up), (1, .int .i64 p.term), (2, .int .i64 p.vote), (3, .int .i64 p.commit), (4, .int .i64 p.role), (5, .slice a1 a2 a3), (6, .slice b1 b2 b3), (7, .slice c1 c2 c3), (8, .slice d1 d2 d3)] = WF := ⟨_, rfl⟩
    have hblk : WF.heap[w.heap.size]? = some (.cells #[.bool p.up, .int .i64 p.term, .int .i64 p.vote, .int .i64 p.commit, .int .i64 p.role, .slice a1 a2 a3, .slice b1 b2 b3, .slice c1 c2 c3, .slice d1 d2 d3] 36 (0, 0)) := by
      rw [← hWF]
      have q2 := sets_at [(0, .bool p.up), (1, .int .i64 p.term), (2, .int .i64 p.vote), (3, .int .i64 p.commit), (4, .int .i64 p.role), (5, .slice a1 a2 a3), (6, .slice b1 b2 b3), (7, .slice c1 c2 c3), (8, .slice d1 d2 d3)] HBX.out
      have e : setsA #[.bool false, .int .i64 0, .int .i64 0, .int .i64 0, .int .i64 0, .slice none 0 0, .slice none 0 0, .slice none 0 0, .slice none 0 0] [(0, .bool p.up), (1, .int .i64 p.term), (2, .int .i64 p.vote), (3, .int .i64 p.commit), (4, .int .i64 p.role), (5, .slice a1 a2 a3), (6, .slice b1 b2 b3), (7, .slice c1 c2 c3), (8, .slice d1 d2 d3)] = #[.bool p.up, .int .i64 p.term, .int .i64 p.vote, .int .i64 p.commit, .int .i64 p.role, .slice a1 a2 a3, .slice b1 b2 b3, .slice c1 c2 c3, .slice d1 d2 d3] := by simp [setsA]
      rw [e] at q2
      exact q2
    have g0 := cell_of (i := 0) hblk (v := .bool p.up) rfl
    have g1 := cell_of (i := 1) hblk (v := .int .i64 p.term) rfl
    have g2 := cell_of (i := 2) hblk (v := .int .i64 p.vote) rfl
    have g3 := cell_of (i := 3) hblk (v := .int .i64 p.commit) rfl
    have g4 := cell_of (i := 4) hblk (v := .int .i64 p.role) rfl
    have g5 := cell_of (i := 5) hblk (v := .slice a1 a2 a3) rfl
    have g6 := cell_of (i := 6) hblk (v := .slice b1 b2 b3) rfl
    have g7 := cell_of (i := 7) hblk (v := .slice c1 c2 c3) rfl
    have g8 := cell_of (i := 8) hblk (v := .slice d1 d2 d3) rfl
    have HT2 := HT.out
    rw [hWF] at HT2
    simp only [sets] at hWF
    rw [hWF]
    refine bodyPost_ret (v := .agg #[.bool p.up, .int .i64 p.term, .int .i64 p.vote, .int .i64 p.commit, .int .i64 p.role, .slice a1 a2 a3, .slice b1 b2 b3, .slice c1 c2 c3, .slice d1 d2 d3]) ?_ rfl HT2
    simp [results, Try.results48, go_sem, g0, g1, g2, g3, g4, g5, g6, g7, g8]
end Go.Proofs.Ytklkglbimjajnaa.ntold
namespace Go.Proofs.Ytklkglbimjajnaa.gtold
open Go.ChangeShapes Go.WideShapes Go.ChangeAt Go.RowKit
open Raft mem grp Ytklkglbimjajnaa.look ndw grant stand rows2 clone behind post copy msgs postb ntold
structure PV where
  p : Peer
  lv : Value
  vv : Value
  nv : Value
  mv : Value
def peerCells (x : PV) : List Value := [.bool x.p.up, .int .i64 x.p.term, .int .i64 x.p.vote, .int .i64 x.p.commit, .int .i64 x.p.role, x.lv, x.vv, x.nv, x.mv]
theorem peerCells_len (x : PV) : (peerCells x).length = 9 := rfl
def PeersV (M : Fz) (v : Value) (us : List PV) : Prop := RowM M v us.length 9 (us.flatMap peerCells) ∧ ∀ x ∈ us, PeerM M x.p x.lv x.vv x.nv x.mv
theorem PeerM.le {M M' : Fz} {p : Peer} {lv vv nv mv : Value} (h : PeerM M p lv vv nv mv) (hl : Le M M') : PeerM M' p lv vv nv mv := ⟨h.1.le hl, h.2.1.le hl, h.2.2.1.le hl, h.2.2.2.le hl⟩
def TI (w : World) (M M1 : Fz) (bx : Nat) (ps : List Peer) (k : Nat) (v : Value) (wr : World) : Prop := ∃ (M' : Fz) (us : List PV), us.map (·.p) = ps.take k ∧ FP w M wr M' ∧ wr.ownsRow w.heap.size 36 9 v k (us.flatMap peerCells) ∧ (∀ g, v.ownBlock = some g → M' g = none) ∧ (∀ x ∈ us, PeerM M' x.p x.lv x.vv x.nv x.mv) ∧ Le M1 M' ∧ M' bx = none ∧ bx < wr.heap.size ∧ w.heap.size ≤ bx
theorem TI.begin {w wr : World} {M M' : Fz} {bx : Nat} (ps : List Peer) (h : FP w M wr M') (h1 : M' bx = none) (h2 : bx < wr.heap.size) (h3 : w.heap.size ≤ bx) : TI w M M' bx ps 0 (.slice none 0 0) wr := ⟨M', [], by simp, h, World.ownsRow_nil _ _ _ _, by simp [Value.ownBlock], by simp, Le.refl _, h1, h2, h3⟩
theorem TI.store {w wr : World} {M M1 : Fz} {bx : Nat} {ps : List Peer} {k : Nat} {v : Value} (h : TI w M M1 bx ps k v wr) {cur : Array Value} (hb : wr.heap[bx]? = some (.cells cur 30 (0, 0))) (i : Nat) (u : Value) : TI w M M1 bx ps k v (wr.setCell ⟨bx, i, none⟩ u) := by
  obtain ⟨M', us, e, hf, hr, hg, hp, h1, h2, h3, h4⟩ := h
  have hne := type_ne hr hb (by decide)
  refine ⟨M', us, e, ⟨hf.le, hf.inn.set h2 u, hf.below.setCell h4 u, hf.new⟩, row_kept hr (fun g hg' => Below.heap_setCell wr ⟨bx, i, none⟩ u g (fun e' => hne (by rw [hg', e']))), hg, hp, h1, h2, by rw [World.size_setCell]; exact h3, h4⟩
theorem TI.fin {w wr : World} {M M1 : Fz} {bx : Nat} {ps : List Peer} {v : Value} (h : TI w M M1 bx ps ps.length v wr) : ∃ M' us, FP w M wr M' ∧ us.map (·.p) = ps ∧ PeersV M' v us ∧ Le M1 M' := by
  obtain ⟨M', us, e, hf, hr, hg, hp, h1, h2, h3, h4⟩ := h
  rw [List.take_length] at e
  obtain ⟨M2, q1, q2, q3, q4⟩ := RowM.freeze hr hf.inn hg
  have hl : ps.length = us.length := by rw [← e]; simp
  rw [hl] at q3
  refine ⟨M2, us, ⟨hf.le.trans q1, q2, hf.below, fun b hb => ?_⟩, e, ⟨q3, fun x hx => PeerM.le (hp x hx) q1⟩, h1.trans q1⟩
  rcases q4 b hb with g | g
  · exact hf.new b g
  · exact .inr (row_lt hr g).1
theorem FP.sta {w wx : World} {M M' : Fz} {O : Lb} (h : FP w M wx M') (st : Sta M O w) : Sta M' O wx := ⟨h.inn, fun b l hb => by
  have h1 := st.ok b l hb
  refine ⟨?_, Nat.lt_of_lt_of_le h1.2 h.below.size⟩
  cases e : M' b with
  | none => rfl
  | some o =>
    rcases h.new b (by rw [e]; simp) with g | g
    · exact absurd h1.1 g
    · omega⟩
theorem FP.nod {w wx : World} {M M' : Fz} {O : Lb} (h : FP w M wx M') (st : Sta M O w) {b k : Nat} {p : Peer} (hn : Nod w M O b k p) : Nod wx M' O b k p := by
  obtain ⟨us, lv, vv, nv, mv, hn⟩ := hn
  exact ⟨us, lv, vv, nv, mv, hn.keep (fun x hx => h.below.block x (st.ok x _ hx).2) h.le (fun _ hx => hx)⟩
theorem TI.step {w wr : World} {M M1 : Fz} {bx : Nat} {ps : List Peer} {k : Nat} {v : Value} (h : TI w M M1 bx ps k v wr) {cur : Array Value} (hbx : wr.heap[bx]? = some (.cells cur 30 (0, 0))) {O : Lb} (st : Sta M O w) {b : Nat} {p : Peer} (hp : ps[k]? = some p) (hn : Nod w M O b k p) (hl : p.log.length ≤ 1000) (hv : p.votes.length ≤ 1000) (hn9 : p.next.length ≤ 1000) (hm9 : p.mat.length ≤ 1000) {wx : World} (hx : Below wr.heap.size wr wx) :
    Calls Try.prog 48 #[.pointer (some ⟨b, 0, none⟩)] wx fun r w5 => ∃ (a1 : Option Addr) (a2 a3 : Nat) (b1 : Option Addr) (b2 b3 : Nat) (c1 : Option Addr) (c2 c3 : Nat) (d1 : Option Addr) (d2 d3 : Nat) (Y : World), r = .returned (.agg #[.bool p.up, .int .i64 p.term, .int .i64 p.vote, .int .i64 p.commit, .int .i64 p.role, .slice a1 a2 a3, .slice b1 b2 b3, .slice c1 c2 c3, .slice d1 d2 d3]) ∧ w5.alloc (.cells #[.bool p.up, .int .i64 p.term, .int .i64 p.vote, .int .i64 p.commit, .int .i64 p.role, .slice a1 a2 a3, .slice b1 b2 b3, .slice c1 c2 c3, .slice d1 d2 d3] 36) = Y ∧ Below wr.heap.size wr w5 ∧
      Hid (∃ ys, Y.ownsRow w.heap.size 36 9 v k ys ∧ (∀ j u, ([.bool p.up, .int .i64 p.term, .int .i64 p.vote, .int .i64 p.commit, .int .i64 p.role, .slice a1 a2 a3, .slice b1 b2 b3, .slice c1 c2 c3, .slice d1 d2 d3] : List Value)[j]? = some u → Y.cell? ((⟨w5.heap.size, 0, none⟩ : Addr).add j) = some u) ∧ w.heap.size ≤ Y.heap.size ∧
        ∀ g cap w', w'.ownsRow w.heap.size 36 9 (.slice (some ⟨g, 0, none⟩) (k + 1) cap) (k + 1) (ys ++ [.bool p.up, .int .i64 p.term, .int .i64 p.vote, .int .i64 p.commit, .int .i64 p.role, .slice a1 a2 a3, .slice b1 b2 b3, .slice c1 c2 c3, .slice d1 d2 d3]) → Y.grownBy w' v.ownBlock → (v.ownBlock = some g ∨ g = Y.heap.size) → TI w M M1 bx ps (k + 1) (.slice (some ⟨g, 0, none⟩) (k + 1) cap) w' ∧ w'.heap[bx]? = some (.cells cur 30 (0, 0))) := by
  obtain ⟨M', us, e, hf, hr, hg, hps, g1, g2, g3, g4⟩ := h
  have hne := type_ne hr hbx (by decide)
  have hfx := hf.more hx
  refine (ntold_any wx M' O b k p (FP.sta hfx st) (FP.nod hfx st hn) hl hv hn9 hm9).mono ?_
  rintro r w5 ⟨a1, a2, a3, b1, b2, b3, c1, c2, c3, d1, d2, d3, rfl, M2, f5, hpm⟩
  obtain ⟨Y, hY⟩ : ∃ Y, w5.alloc (.cells #[.bool p.up, .int .i64 p.term, .int .i64 p.vote, .int .i64 p.commit, .int .i64 p.role, .slice a1 a2 a3, .slice b1 b2 b3, .slice c1 c2 c3, .slice d1 d2 d3] 36) = Y := ⟨_, rfl⟩
  have b5 : Below wr.heap.size wr w5 := hx.trans (f5.below.mono hx.size)
  have bY : Below wr.heap.size wr Y := by rw [← hY]; exact b5.alloc b5.size _
  have b5Y : Below w5.heap.size w5 Y := by rw [← hY]; exact more (Below.refl _ _) _
  have hBY : Y.heap[w5.heap.size]? = some (.cells #[.bool p.up, .int .i64 p.term, .int .i64 p.vote, .int .i64 p.commit, .int .i64 p.role, .slice a1 a2 a3, .slice b1 b2 b3, .slice c1 c2 c3, .slice d1 d2 d3] 36 (0, 0)) := by rw [← hY]; exact heap_alloc_new w5 _
  have fY : FP w M Y M2 := (hfx.trans f5).more b5Y
  have hvM : ∀ g, v.ownBlock = some g → M2 g = none := fun g hg' => by
    cases em : M2 g with
    | none => rfl
    | some o =>
      rcases f5.new g (by rw [em]; simp) with g' | g'
      · exact absurd (hg g hg') g'
      · have := (row_lt hr hg').2; have := hx.size; omega
  refine ⟨a1, a2, a3, b1, b2, b3, c1, c2, c3, d1, d2, d3, Y, rfl, hY, b5, us.flatMap peerCells, row_kept hr (fun g hg' => bY.block g (row_lt hr hg').2), ?_, fY.below.size, ?_⟩
  · intro j u hu
    rw [pile.add_at, Nat.zero_add]
    exact cell_of hBY (by simpa using hu)
  · intro g cap w' p1 p2 p3
    have hIw := fY.inn.grown p2 hvM
    refine ⟨⟨M2, us ++ [⟨p, .slice a1 a2 a3, .slice b1 b2 b3, .slice c1 c2 c3, .slice d1 d2 d3⟩], ?_, ⟨fY.le, hIw, fY.below.grown p2 fY.below.size (fun g' hg' => (row_lt hr hg').1), fY.new⟩, ?_, ?_, ?_, g1.trans f5.le, ?_, ?_, g4⟩, ?_⟩
    · rw [List.map_append, e, List.take_add_one, hp]
      simp
    · rw [List.flatMap_append]
      simpa [peerCells] using p1
    · intro g' hg'
      obtain rfl : g = g' := by simpa [Value.ownBlock] using hg'
      rcases p3 with p3 | p3
      · exact hvM g p3
      · exact fY.inn.fresh (by omega)
    · intro x hx'
      rcases List.mem_append.1 hx' with hx' | hx'
      · exact PeerM.le (hps x hx') f5.le
      · rw [List.mem_singleton.1 hx']
        exact hpm
    · cases em : M2 bx with
      | none => rfl
      | some o =>
        rcases f5.new bx (by rw [em]; simp) with g' | g'
        · exact absurd g2 g'
        · have := hx.size; omega
    · have := bY.size; have := p2.size; omega
    · exact (p2.block bx (by have := bY.size; omega) (fun e' => hne e'.symm)).trans ((bY.block bx g3).trans hbx)
end Go.Proofs.Ytklkglbimjajnaa.gtold
namespace Go.Proofs.Ytklkglbimjajnaa.Raft
structure PB (p : Peer) : Prop where
  log : p.log.length ≤ 100
  term : p.term ≤ 1000000
  commit : p.commit ≤ 100
  next : ∀ x ∈ p.next, x ≤ 101
  mat : ∀ x ∈ p.mat, x ≤ 100
structure MB (m : Msg) : Prop where
  kind : 1 ≤ m.kind ∧ m.kind ≤ 4
  term : m.term ≤ 1000000
  a : m.a + m.log.length ≤ 100
  c : m.c ≤ 100
structure Bd (c : Cl) : Prop where
  peers : ∀ k, PB (c.at k)
  net : ∀ m ∈ c.net, MB m
  chosen : c.chosen.length ≤ 100
  size : c.net.length ≤ 200
theorem k4 : 1 ≤ 4 ∧ 4 ≤ 4 := by decide
theorem k2 : 1 ≤ 2 ∧ 2 ≤ 4 := by decide
theorem PB.zero : PB Peer.zero := ⟨by simp [Peer.zero], by simp [Peer.zero], by simp [Peer.zero], by simp [Peer.zero], by simp [Peer.zero]⟩
theorem at_put_any (c : Cl) (k q : Nat) (p : Peer) : (c.put k p).at q = p ∨ (c.put k p).at q = c.at q := by
  by_cases h : q = k
  · subst h
    by_cases hl : q < c.peers.length
    · exact .inl (at_put c q p hl)
    · right; simp [Cl.at, Cl.put, List.getD, hl]
  · exact .inr (at_put_ne c p h)
theorem Bd.put {c : Cl} (h : Bd c) {k : Nat} {p : Peer} (hp : PB p) : Bd (c.put k p) := ⟨fun q => by
  rcases at_put_any c k q p with e | e <;> rw [e]
  · exact hp
  · exact h.peers q, h.net, h.chosen, h.size⟩
theorem Bd.send {c : Cl} (h : Bd c) {m : Msg} (hm : MB m) : Bd (c.send m) := by
  unfold Cl.send
  split
  · next hl =>
    refine ⟨h.peers, fun x hx => ?_, h.chosen, ?_⟩
    · rcases List.mem_append.1 hx with hx | hx
      · exact h.net x hx
      · rw [List.mem_singleton.1 hx]; exact hm
    · simp; omega
  · exact h
theorem Bd.note {c : Cl} (h : Bd c) (k : Nat) : Bd (c.note k) := by
  refine ⟨h.peers, h.net, ?_, h.size⟩
  have h1 := h.chosen
  have h2 := (h.peers k).log
  show (c.chosen ++ ((c.at k).log.take (c.at k).commit).drop c.chosen.length).length ≤ 100
  rw [List.length_append, List.length_drop, List.length_take]
  omega
theorem reach_le (p : Peer) (n : Nat) : ∀ i, reach p n i ≤ max p.commit i
  | 0 => by simp [reach]
  | i + 1 => by
    have := reach_le p n i
    unfold reach
    split
    · omega
    · split <;> omega
theorem PB.commits {p : Peer} (h : PB p) (n : Nat) : PB { p with commit := reach p n p.log.length } := by
  refine ⟨h.log, h.term, ?_, h.next, h.mat⟩
  have := reach_le p n p.log.length
  have := h.log
  have := h.commit
  show reach p n p.log.length ≤ 100
  omega
theorem Bd.commits {c : Cl} (h : Bd c) (k : Nat) : Bd (c.commits k) := (h.put ((h.peers k).commits _)).note k
theorem getD_le {l : List Nat} {b : Nat} (h : ∀ x ∈ l, x ≤ b) (q : Nat) : l.getD q 0 ≤ b := by
  rw [List.getD_eq_getElem?_getD]
  cases e : l[q]? with
  | none => simp
  | some x => exact h x (List.mem_of_getElem? e)
theorem Bd.records {c : Cl} (h : Bd c) (k «to» : Nat) : Bd (c.records k «to») := by
  refine h.send ⟨⟨by simp, by simp⟩, (h.peers k).term, ?_, (h.peers k).commit⟩
  have h1 := getD_le (h.peers k).next «to»
  have h2 := (h.peers k).log
  show ((c.at k).next.getD «to» 0 - 1) + ((c.at k).log.drop ((c.at k).next.getD «to» 0 - 1)).length ≤ 100
  rw [List.length_drop]
  omega
theorem Bd.fold {α : Type} (f : Cl → α → Cl) (hf : ∀ c a, Bd c → Bd (f c a)) : ∀ (l : List α) (c : Cl), Bd c → Bd (l.foldl f c)
  | [], _, h => h
  | a :: l, c, h => Bd.fold f hf l _ (hf c a h)
theorem Bd.toAll {c : Cl} (h : Bd c) (k : Nat) : Bd (c.toAll k) := Bd.fold _ (fun _ _ h => h.records _ _) _ _ h
theorem mem_set {α : Type} {l : List α} {k : Nat} {v x : α} (h : x ∈ l.set k v) : x ∈ l ∨ x = v := List.mem_or_eq_of_mem_set h
theorem Bd.elected {c : Cl} (h : Bd c) (k : Nat) : Bd (c.elected k) := by
  unfold Cl.elected
  dsimp only
  have h1 := h.peers k
  have h2 := h1.log
  split
  · apply Bd.toAll
    apply Bd.commits
    apply h.put
    refine ⟨h1.log, h1.term, h1.commit, fun x hx => ?_, fun x hx => ?_⟩
    · rw [(List.mem_replicate.1 hx).2]; omega
    · rcases mem_set hx with g | g
      · rw [(List.mem_replicate.1 g).2]; omega
      · rw [g]; exact h1.log
  · exact h
theorem Bd.tick {c : Cl} (h : Bd c) (k : Nat) : Bd (c.tick k) := by
  unfold Cl.tick
  dsimp only
  split
  · exact h.toAll k
  · split
    · exact h
    · next ht =>
      have h1 := (h.peers k).term
      have h2 := h.peers k
      apply Bd.elected
      apply Bd.fold
      · intro c2 i hc
        apply hc.send
        refine ⟨⟨Nat.le_refl _, by show 1 ≤ 4; omega⟩, ?_, ?_, Nat.zero_le _⟩
        · show (c.at k).term + 1 ≤ 1000000
          omega
        · show (c.at k).log.length + 0 ≤ 100
          exact h2.log
      · apply h.put
        refine ⟨h2.log, ?_, h2.commit, h2.next, h2.mat⟩
        show (c.at k).term + 1 ≤ 1000000
        omega
theorem Bd.down {c : Cl} (h : Bd c) (k : Nat) {T : Nat} (hT : T ≤ 1000000) : Bd (c.down k T) := by
  refine h.put ⟨(h.peers k).log, ?_, (h.peers k).commit, fun x hx => (List.not_mem_nil hx).elim, fun x hx => (List.not_mem_nil hx).elim⟩
  have := (h.peers k).term
  show max (c.at k).term T ≤ 1000000
  omega
theorem merge_len : ∀ (rs l : List Rc) (a : Nat), a ≤ l.length → a + rs.length ≤ (merge l a rs).length ∧ (merge l a rs).length ≤ max l.length (a + rs.length)
  | [], l, a, h => by simp [merge]; omega
  | r :: rs, l, a, h => by
    unfold merge
    dsimp only
    have key : ∀ m : List Rc, a ≤ m.length → m.length ≤ l.length → a + (r :: rs).length ≤ (merge (if a = m.length then m ++ [r] else m) (a + 1) rs).length ∧ (merge (if a = m.length then m ++ [r] else m) (a + 1) rs).length ≤ max l.length (a + (r :: rs).length) := by
      intro m h1 h2
      have hx : a + 1 ≤ (if a = m.length then m ++ [r] else m).length := by split <;> (try rw [List.length_append, List.length_singleton]) <;> omega
      have hy : (if a = m.length then m ++ [r] else m).length ≤ max m.length (a + 1) := by split <;> (try rw [List.length_append, List.length_singleton]) <;> omega
      have := merge_len rs _ (a + 1) hx
      rw [List.length_cons]
      omega
    split
    · refine key (l.take a) ?_ ?_ <;> rw [List.length_take] <;> omega
    · exact key l h (Nat.le_refl _)
theorem Bd.appended {c : Cl} (h : Bd c) {m : Msg} (hm : MB m) : Bd (c.appended m) := by
  unfold Cl.appended
  dsimp only
  split
  · apply h.send
    exact ⟨k4, (h.peers m.to).term, Nat.zero_le _, Nat.zero_le _⟩
  · have hd := h.down m.to hm.term
    generalize c.down m.to m.term = e at hd ⊢
    have h1 := hd.peers m.to
    have h2 := h1.log
    have h3 := hm.a
    split
    · apply hd.send
      refine ⟨k4, h1.term, ?_, Nat.zero_le _⟩
      show min (m.a - 1) (e.at m.to).log.length + 0 ≤ 100
      omega
    · next hn =>
      have ha : m.a ≤ (e.at m.to).log.length := by
        rcases Nat.lt_or_ge (e.at m.to).log.length m.a with g | g
        · exact absurd (.inl g) hn
        · exact g
      refine Bd.send (Bd.note (Bd.put hd ?_) m.to) ⟨k4, h1.term, ?_, Nat.zero_le _⟩
      · refine ⟨?_, h1.term, ?_, h1.next, h1.mat⟩
        · have := merge_len m.log _ m.a ha
          show (merge (e.at m.to).log m.a m.log).length ≤ 100
          omega
        · have := h1.commit
          have := hm.c
          show max (e.at m.to).commit (min m.c (m.a + m.log.length)) ≤ 100
          omega
      · show m.a + m.log.length + 0 ≤ 100
        omega
theorem Bd.deliver {c : Cl} (h : Bd c) {m : Msg} (hm : MB m) : Bd (c.deliver m) := by
  unfold Cl.deliver
  dsimp only
  split
  · exact h
  · have hd : Bd (if (c.at m.to).term < m.term then c.down m.to m.term else c) := by
      split
      · exact h.down m.to hm.term
      · exact h
    generalize (if (c.at m.to).term < m.term then c.down m.to m.term else c) = e at hd ⊢
    have h1 := hd.peers m.to
    have h3 := hm.a
    have h2 := getD_le h1.next m.frm
    have h4 := getD_le h1.mat m.frm
    split
    · apply Bd.send
      · split
        · apply hd.put
          exact ⟨h1.log, h1.term, h1.commit, h1.next, h1.mat⟩
        · exact hd
      · exact ⟨k2, h1.term, Nat.zero_le _, Nat.zero_le _⟩
    · split
      · split
        · apply Bd.elected
          apply hd.put
          exact ⟨h1.log, h1.term, h1.commit, h1.next, h1.mat⟩
        · exact hd
      · split
        · exact hd.appended hm
        · split
          · split
            · exact hd
            · split
              · apply Bd.commits
                apply hd.put
                refine ⟨h1.log, h1.term, h1.commit, fun x hx => ?_, fun x hx => ?_⟩
                · rcases mem_set hx with g | g
                  · exact h1.next x g
                  · omega
                · rcases mem_set hx with g | g
                  · exact h1.mat x g
                  · omega
              · split
                · apply Bd.records
                  apply hd.put
                  refine ⟨h1.log, h1.term, h1.commit, fun x hx => ?_, h1.mat⟩
                  rcases mem_set hx with g | g
                  · exact h1.next x g
                  · omega
                · exact hd
          · exact hd
theorem Bd.part {c : Cl} (h : Bd c) {net : List Msg} (hn : ∀ m, m ∈ net → m ∈ c.net) (hl : net.length ≤ c.net.length) : Bd { c with net := net } := ⟨h.peers, fun m hm => h.net m (hn m hm), h.chosen, Nat.le_trans hl h.size⟩
theorem Bd.event {c : Cl} (h : Bd c) (e : Ev) : Bd (c.event e).1 := by
  unfold Cl.event
  split
  · split
    · exact h
    · split
      · exact h
      · next m hm =>
        have hmm := h.net m (List.mem_of_getElem? hm)
        have hp : Bd { c with net := c.net.eraseIdx e.n.toNat } := h.part (fun m hm => List.mem_of_mem_eraseIdx hm) (by rw [List.length_eraseIdx]; split <;> omega)
        split
        · exact hp.deliver hmm
        · split
          · exact hp
          · exact h.send hmm
  · split
    · split
      · exact h
      · dsimp only
        generalize e.n.toNat = k
        have h1 := h.peers k
        split
        · exact h
        · split
          · exact h.tick k
          · split
            · apply h.put
              exact ⟨h1.log, h1.term, Nat.zero_le _, fun x hx => (List.not_mem_nil hx).elim, fun x hx => (List.not_mem_nil hx).elim⟩
            · split
              · apply h.put
                exact ⟨h1.log, h1.term, h1.commit, h1.next, h1.mat⟩
              · split
                · exact h
                · split
                  · exact h
                  · next hs =>
                    have h2 := h1.log
                    apply Bd.commits
                    apply h.put
                    refine ⟨?_, h1.term, h1.commit, h1.next, fun x hx => ?_⟩
                    · show ((c.at k).log ++ [_]).length ≤ 100
                      simp
                      omega
                    · rcases mem_set hx with g | g
                      · exact h1.mat x g
                      · omega
    · exact h
theorem Bd.begin (n : Nat) : Bd (Cl.begin n) := by
  refine ⟨fun k => ?_, fun m hm => (List.not_mem_nil hm).elim, by simp [Cl.begin], by simp [Cl.begin]⟩
  by_cases hk : k < n
  · rw [at_begin n k hk]; exact ⟨PB.zero.log, PB.zero.term, PB.zero.commit, PB.zero.next, PB.zero.mat⟩
  · have : (Cl.begin n).at k = Peer.zero := by simp [Cl.begin, Cl.at, List.getD, hk]
    rw [this]; exact PB.zero
def Good (n : Nat) (c : Cl) : Prop := Bd c ∧ Cov n c ∧ ∃ s, Rel n c s
theorem Good.begin (n : Nat) : Good n (Cl.begin n) := ⟨Bd.begin n, (Rel.begin n).2, _, (Rel.begin n).1⟩
theorem Good.event {n : Nat} {c : Cl} (h : Good n c) (e : Ev) : Good n (c.event e).1 := by
  obtain ⟨hb, hc, s, hs⟩ := h
  obtain ⟨s', h1, h2⟩ := hs.event hc e
  exact ⟨hb.event e, h2, s', h1⟩
end Go.Proofs.Ytklkglbimjajnaa.Raft
namespace Go.Proofs.Ytklkglbimjajnaa.Raft
structure PL (n : Nat) (p : Peer) : Prop where
  votes : p.votes.length ≤ n
  next : p.next.length ≤ n
  mat : p.mat.length ≤ n
structure LB (n : Nat) (c : Cl) : Prop where
  len : c.peers.length = n
  peers : ∀ k, PL n (c.at k)
variable {n : Nat} {c : Cl}
theorem PL.zero (n : Nat) : PL n Peer.zero := ⟨Nat.zero_le _, Nat.zero_le _, Nat.zero_le _⟩
theorem LB.put (h : LB n c) {k : Nat} {p : Peer} (hp : PL n p) : LB n (c.put k p) := ⟨by simp [Cl.put]; exact h.len, fun q => by
  rcases at_put_any c k q p with e | e <;> rw [e]
  · exact hp
  · exact h.peers q⟩
theorem LB.same (h : LB n c) {d : Cl} (e : d.peers = c.peers) : LB n d := ⟨by rw [e]; exact h.len, fun k => by
  have : d.at k = c.at k := by unfold Cl.at; rw [e]
  rw [this]; exact h.peers k⟩
theorem LB.send (h : LB n c) (m : Msg) : LB n (c.send m) := by
  unfold Cl.send
  split
  · exact h.same rfl
  · exact h
theorem LB.note (h : LB n c) (k : Nat) : LB n (c.note k) := h.same rfl
theorem LB.commits (h : LB n c) (k : Nat) : LB n (c.commits k) := by
  refine LB.note (LB.put h ?_) k
  exact ⟨(h.peers k).votes, (h.peers k).next, (h.peers k).mat⟩
theorem LB.records (h : LB n c) (k «to» : Nat) : LB n (c.records k «to») := h.send _
theorem LB.fold {α : Type} (f : Cl → α → Cl) (hf : ∀ c a, LB n c → LB n (f c a)) : ∀ (l : List α) (c : Cl), LB n c → LB n (l.foldl f c)
  | [], _, h => h
  | a :: l, c, h => LB.fold f hf l _ (hf c a h)
theorem LB.toAll (h : LB n c) (k : Nat) : LB n (c.toAll k) := LB.fold _ (fun _ _ h => h.records _ _) _ _ h
theorem LB.elected (h : LB n c) (k : Nat) : LB n (c.elected k) := by
  unfold Cl.elected
  dsimp only
  have hl := h.len
  split
  · apply LB.toAll
    apply LB.commits
    apply h.put
    exact ⟨Nat.zero_le _, by simp [hl], by simp [hl]⟩
  · exact h
theorem LB.tick (h : LB n c) (k : Nat) : LB n (c.tick k) := by
  unfold Cl.tick
  dsimp only
  have hl := h.len
  split
  · exact h.toAll k
  · split
    · exact h
    · have h2 := h.peers k
      apply LB.elected
      apply LB.fold
      · intro c2 i hc
        exact hc.send _
      · apply h.put
        exact ⟨by simp [hl], h2.next, h2.mat⟩
theorem LB.down (h : LB n c) (k T : Nat) : LB n (c.down k T) := h.put ⟨Nat.zero_le _, Nat.zero_le _, Nat.zero_le _⟩
theorem LB.appended (h : LB n c) (m : Msg) : LB n (c.appended m) := by
  unfold Cl.appended
  dsimp only
  split
  · exact h.send _
  · have hd := h.down m.to m.term
    generalize c.down m.to m.term = e at hd ⊢
    have h1 := hd.peers m.to
    split
    · exact hd.send _
    · refine LB.send (LB.note (LB.put hd ?_) m.to) _
      exact ⟨h1.votes, h1.next, h1.mat⟩
theorem LB.deliver (h : LB n c) (m : Msg) : LB n (c.deliver m) := by
  unfold Cl.deliver
  dsimp only
  split
  · exact h
  · have hd : LB n (if (c.at m.to).term < m.term then c.down m.to m.term else c) := by
      split
      · exact h.down m.to _
      · exact h
    generalize (if (c.at m.to).term < m.term then c.down m.to m.term else c) = e at hd ⊢
    have h1 := hd.peers m.to
    split
    · apply LB.send
      split
      · apply hd.put
        exact ⟨h1.votes, h1.next, h1.mat⟩
      · exact hd
    · split
      · split
        · apply LB.elected
          apply hd.put
          exact ⟨by simp; exact h1.votes, h1.next, h1.mat⟩
        · exact hd
      · split
        · exact hd.appended m
        · split
          · split
            · exact hd
            · split
              · apply LB.commits
                apply hd.put
                exact ⟨h1.votes, by simp; exact h1.next, by simp; exact h1.mat⟩
              · split
                · apply LB.records
                  apply hd.put
                  exact ⟨h1.votes, by simp; exact h1.next, h1.mat⟩
                · exact hd
          · exact hd
theorem LB.event (h : LB n c) (e : Ev) : LB n (c.event e).1 := by
  unfold Cl.event
  split
  · split
    · exact h
    · split
      · exact h
      · have hp : LB n { c with net := c.net.eraseIdx e.n.toNat } := h.same rfl
        split
        · exact hp.deliver _
        · split
          · exact hp
          · exact h.send _
  · split
    · split
      · exact h
      · dsimp only
        generalize e.n.toNat = k
        have h1 := h.peers k
        split
        · exact h
        · split
          · exact h.tick k
          · split
            · apply h.put
              exact ⟨Nat.zero_le _, Nat.zero_le _, Nat.zero_le _⟩
            · split
              · apply h.put
                exact ⟨h1.votes, h1.next, h1.mat⟩
              · split
                · exact h
                · split
                  · exact h
                  · apply LB.commits
                    apply h.put
                    exact ⟨h1.votes, h1.next, by simp; exact h1.mat⟩
    · exact h
theorem LB.begin (n : Nat) : LB n (Cl.begin n) := by
  refine ⟨by simp [Cl.begin], fun k => ?_⟩
  by_cases hk : k < n
  · rw [at_begin n k hk]; exact ⟨Nat.zero_le _, Nat.zero_le _, Nat.zero_le _⟩
  · have : (Cl.begin n).at k = Peer.zero := by simp [Cl.begin, Cl.at, List.getD, hk]
    rw [this]; exact PL.zero n
end Go.Proofs.Ytklkglbimjajnaa.Raft

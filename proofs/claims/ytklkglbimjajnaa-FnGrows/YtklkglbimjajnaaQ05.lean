import Derived.Test.YtklkglbimjajnaaQ04
import Derived.WalkMore
import Derived.Deep.AppendLies
import Derived.Deep.Cut
import Derived.Deep.CutRange
import Derived.Deep.RegionLaw
import Derived.Test.YtklkglbimjajnaaQ03
import Derived.Test.YtklkglbimjajnaaQ01
import Derived.Test.YtklkglbimjajnaaQ02
import Derived.Lib.BufferRead
import Derived.Laws.IdiomStrings
import Derived.BigRegion
set_option linter.unusedVariables false
namespace Go.Proofs.Ytklkglbimjajnaa.gt8
open Go.ChangeShapes Go.WideShapes Go.ChangeAt Go.RowKit
open Raft mem grp Ytklkglbimjajnaa.look ndw grant stand rows2 clone behind post copy msgs postb ntold gtold
theorem sets_belowB {B : Nat} {A : World} {b : Nat} (hb : B ≤ b) : ∀ (l : List (Nat × Value)) (W' : World), Below B A W' → Below B A (sets W' b l)
  | [], _, h => h
  | (i, v) :: l, _, h => sets_belowB hb l _ (h.setCell hb v)
def CluV (M : Fz) (c : Cl) (pv nv cv : Value) : Prop := ∃ (ps : List PV) (us : List MV), ps.map (·.p) = c.peers ∧ PeersV M pv ps ∧ us.map (·.m) = c.net ∧ MsgsV M nv us ∧ RecsM M cv c.chosen
def CluE (w : World) (M : Fz) (c : Cl) (r : Ending) (w' : World) : Prop :=
  ∃ (p1 : Option Addr) (p2 p3 : Nat) (n1 : Option Addr) (n2 n3 : Nat) (c1 : Option Addr) (c2 c3 : Nat), r = .returned (.agg #[.slice p1 p2 p3, .slice n1 n2 n3, .slice c1 c2 c3, .bool c.conflict]) ∧ ∃ M', FP w M w' M' ∧ CluV M' c (.slice p1 p2 p3) (.slice n1 n2 n3) (.slice c1 c2 c3)
def N1 (W : World) (M : Fz) (c : Cl) (wx w1 : World) (nv : Value) : Prop := ∃ M1 us, FP W M w1 M1 ∧ (∀ b, M1 b ≠ none → M b ≠ none ∨ wx.heap.size ≤ b) ∧ us.map (·.m) = c.net ∧ MsgsV M1 nv us
def N2 (W : World) (M : Fz) (c : Cl) (wx w1 wy w2 : World) (nv cv : Value) : Prop := ∃ M1 M2 us, FP W M w2 M2 ∧ (∀ b, M1 b ≠ none → M b ≠ none ∨ wx.heap.size ≤ b) ∧ In M1 w1 ∧ (∀ b, M2 b ≠ none → M1 b ≠ none ∨ wy.heap.size ≤ b) ∧ us.map (·.m) = c.net ∧ MsgsV M2 nv us ∧ RecsM M2 cv c.chosen
def RB (W : World) (M : Fz) (c : Cl) (bx : Nat) (nv cv : Value) (wx : World) : Prop := ∃ M2 us, FP W M wx M2 ∧ M2 bx = none ∧ bx < wx.heap.size ∧ W.heap.size ≤ bx ∧ wx.heap[bx]? = some (.cells #[.slice none 0 0, nv, cv, .bool c.conflict] 30 (0, 0)) ∧ us.map (·.m) = c.net ∧ MsgsV M2 nv us ∧ RecsM M2 cv c.chosen
theorem RB.set {W : World} {M : Fz} {c : Cl} {wx w1 wy w2 : World} {nv cv : Value} (h : N2 W M c wx w1 wy w2 nv cv) {bx : Nat} (hbx : w2.heap[bx]? = some (.cells #[.slice none 0 0, .slice none 0 0, .slice none 0 0, .bool false] 30 (0, 0))) (h1 : W.heap.size ≤ bx) (h2 : (bx < wx.heap.size ∧ wx.heap.size ≤ wy.heap.size ∧ M bx = none) ∨ (w1.heap.size ≤ bx ∧ bx < wy.heap.size)) :
    RB W M c bx nv cv (sets w2 bx [(0, .slice none 0 0), (1, nv), (2, cv), (3, .bool c.conflict)]) := by
  obtain ⟨M1, M2, us, f, g1, g2, g3, g4, g5, g6⟩ := h
  have hM : M2 bx = none := by
    cases e : M2 bx with
    | none => rfl
    | some o =>
      rcases g3 bx (by rw [e]; simp) with g | g
      · rcases h2 with h2 | h2
        · rcases g1 bx g with g' | g'
          · exact absurd h2.2.2 g'
          · omega
        · exact absurd (g2.fresh h2.1) g
      · rcases h2 with h2 | h2
        · omega
        · omega
  have hlt : bx < w2.heap.size := (Array.getElem?_eq_some_iff.1 hbx).1
  refine ⟨M2, us, ⟨f.le, ?_, sets_belowB h1 _ _ f.below, f.new⟩, hM, ?_, h1, ?_, g4, g5, g6⟩
  · intro x o hx
    refine (sets_ne _ w2 ?_).trans (f.inn x o hx)
    rintro rfl
    rw [hM] at hx; cases hx
  · simp [sets, hlt]
  · have q2 := sets_at [(0, .slice none 0 0), (1, nv), (2, cv), (3, .bool c.conflict)] hbx
    have e : setsA #[.slice none 0 0, .slice none 0 0, .slice none 0 0, .bool false] [(0, .slice none 0 0), (1, nv), (2, cv), (3, .bool c.conflict)] = #[.slice none 0 0, nv, cv, .bool c.conflict] := by simp [setsA]
    rw [e] at q2
    exact q2
theorem info61 : (Try.prog.info? 36).map (fun i => (i.zero, i.size, i.bytes)) = some (some (.agg #[.bool false, .int .i64 0, .int .i64 0, .int .i64 0, .int .i64 0, .slice none 0 0, .slice none 0 0, .slice none 0 0, .slice none 0 0]), 9, 136) := by kernel_rfl
def LI (W : World) (M M1 : Fz) (c : Cl) (bx : Nat) (nv cv : Value) (k : Nat) (v : Value) (wr : World) : Prop := TI W M M1 bx c.peers k v wr ∧ wr.heap[bx]? = some (.cells #[v, nv, cv, .bool c.conflict] 30 (0, 0))
theorem zA {W w1 : World} (hx : Below (W.alloc (.cells #[.slice none 0 0, .slice none 0 0, .slice none 0 0, .bool false] 30)).drew.heap.size (W.alloc (.cells #[.slice none 0 0, .slice none 0 0, .slice none 0 0, .bool false] 30)).drew w1) : w1.heap[W.heap.size]? = some (.cells #[.slice none 0 0, .slice none 0 0, .slice none 0 0, .bool false] 30 (0, 0)) := (hx.block W.heap.size (by show W.heap.size < (W.alloc (.cells #[.slice none 0 0, .slice none 0 0, .slice none 0 0, .bool false] 30)).heap.size; rw [World.size_alloc]; exact Nat.lt_succ_self _)).trans (heap_alloc_new W _)
theorem zB {w1 w2 : World} (hx : Below (w1.alloc (.cells #[.slice none 0 0, .slice none 0 0, .slice none 0 0, .bool false] 30)).heap.size (w1.alloc (.cells #[.slice none 0 0, .slice none 0 0, .slice none 0 0, .bool false] 30)) w2) : w2.heap[w1.heap.size]? = some (.cells #[.slice none 0 0, .slice none 0 0, .slice none 0 0, .bool false] 30 (0, 0)) := (hx.block w1.heap.size (by rw [World.size_alloc]; exact Nat.lt_succ_self _)).trans (heap_alloc_new w1 _)
theorem zK {W wx w1 w2 : World} (hz : w1.heap[W.heap.size]? = some (.cells #[.slice none 0 0, .slice none 0 0, .slice none 0 0, .bool false] 30 (0, 0))) (h1 : Below wx.heap.size wx w1) (h2 : Below w1.heap.size w1 w2) : w2.heap[W.heap.size]? = some (.cells #[.slice none 0 0, .slice none 0 0, .slice none 0 0, .bool false] 30 (0, 0)) := (h2.block _ (Array.getElem?_eq_some_iff.1 hz).1).trans hz
theorem set4 {B b : Nat} {A w : World} {u0 u1 u2 u3 : Value} {i0 i1 i2 i3 : Nat} (hb : B ≤ b) (h : Below B A w) : Below B A ((((w.setCell ⟨b, i0, none⟩ u0).setCell ⟨b, i1, none⟩ u1).setCell ⟨b, i2, none⟩ u2).setCell ⟨b, i3, none⟩ u3) := (((h.setCell hb u0).setCell hb u1).setCell hb u2).setCell hb u3
theorem RB.new {W : World} {M : Fz} {c : Cl} {wx w1 wy w2 : World} {nv cv : Value} (h : N2 W M c wx w1 wy w2 nv cv) :
    RB W M c w2.heap.size nv cv (w2.alloc (.cells #[.slice none 0 0, nv, cv, .bool c.conflict] 30)) := by
  obtain ⟨M1, M2, us, f, g1, g2, g3, g4, g5, g6⟩ := h
  refine ⟨M2, us, f.more (more (Below.refl _ _) _), f.inn.fresh (Nat.le_refl _), ?_, f.below.size, heap_alloc_new w2 _, g4, g5, g6⟩
  rw [World.size_alloc]; omega
set_option maxRecDepth 20000 in
set_option maxHeartbeats 2000000 in
theorem gtold_any (w : World) (M : Fz) (O : Lb) (d : Nat) (nb : List Nat) (c : Cl) (hG : G w M O d nb c) (hB : Bd c) (n : Nat) (h1n : 1 ≤ n) (hn7 : n ≤ 7) (hL : LB n c) :
    Calls Try.prog 21 #[.pointer (some ⟨d, 0, none⟩)] w fun r w' => CluE w M c r w' := by
  obtain ⟨hd, pv, cv, bs, us, cs, g⟩ := hG
  obtain ⟨co, cc, rfl⟩ := own_slice g.chos.row
  obtain ⟨po, pc, rfl, hpc1, hpc2, hpl, hpn, hpe⟩ := id g.peers
  have hdl := (g.st.ok d _ g.own).2
  obtain ⟨W, hW⟩ : ∃ W, w.alloc (.cells #[.slice none 0 0, .slice none 0 0, .slice none 0 0, .bool false] 30) = W := ⟨_, rfl⟩
  have bW : Below w.heap.size w W := by rw [← hW]; exact more (Below.refl _ _) _
  have sW : W.heap.size = w.heap.size + 1 := by rw [← hW]; exact World.size_alloc ..
  have hbx : W.heap[w.heap.size]? = some (.cells #[.slice none 0 0, .slice none 0 0, .slice none 0 0, .bool false] 30 (0, 0)) := by rw [← hW]; exact heap_alloc_new w _
  have hF0 : FP W M W M := FP.refl (g.st.inn.below bW)
  have kp : ∀ wx, Below W.heap.size W wx → Below w.heap.size w wx := fun wx hx => bW.trans (hx.mono bW.size)
  obtain ⟨cn, ecn⟩ : ∃ cn, cn = cs.length := ⟨_, rfl⟩
  obtain ⟨kn, ekn⟩ : ∃ kn, kn = nb.length := ⟨_, rfl⟩
  have HB2 : Hid (∀ wx, Below W.heap.size W wx → wx.heap[d]? = some (.cells #[.pointer (some ⟨hd, 0, none⟩), .int .i64 us.length, .slice po kn pc, .slice co cn cc, .bool c.conflict] 105 (0, 0))) := fun wx hx => by
    rw [ecn, ekn]
    exact ((kp wx hx).block d hdl).trans g.blk
  have HMs : Hid (∀ wx, Below W.heap.size W wx → Calls Try.prog 46 #[.pointer (some ⟨d, 0, none⟩)] wx fun r w1 => ∃ (n1 : Option Addr) (n2 n3 : Nat), r = .returned (.slice n1 n2 n3) ∧ Below W.heap.size W w1 ∧ Below wx.heap.size wx w1 ∧ Hid (N1 W M c wx w1 (.slice n1 n2 n3))) := fun wx hx => by
    have fx := hF0.more hx
    have fw : FP w M wx M := (FP.refl g.st.inn).more (kp wx hx)
    refine (messages_any wx M O d hd bs us (cell_of (HB2.out wx hx) rfl) (FP.sta fw g.st) (g.post.keep (fun x hxx => (kp wx hx).block x (g.st.ok x _ hxx).2) (Le.refl _) (fun _ hxx => hxx)) ?_ ?_).mono ?_
    · have := congrArg List.length g.nets; rw [List.length_map] at this; have := hB.size; omega
    · intro x hxx
      have := (hB.net x.m (by rw [← g.nets]; exact List.mem_map_of_mem hxx)).a
      omega
    · rintro r w' ⟨M', o, m, lc, rfl, q1, q2, ⟨us', e', q3⟩, q4, q5⟩
      exact ⟨o, m, lc, rfl, hx.trans (q4.mono hx.size), q4, M', us', fx.trans ⟨q1, q2, q4, q5⟩, q5, e'.trans g.nets, q3⟩
  have HCh : Hid (∀ wx w1 wy nv, N1 W M c wx w1 nv → Below w1.heap.size w1 wy → Calls Try.prog 47 #[.slice co cn cc] wy fun r w2 => ∃ (c1 : Option Addr) (c2 c3 : Nat), r = .returned (.slice c1 c2 c3) ∧ Below W.heap.size W w2 ∧ Below wy.heap.size wy w2 ∧ Hid (N2 W M c wx w1 wy w2 nv (.slice c1 c2 c3))) := fun wx w1 wy nv h1 hy => by
    obtain ⟨M1, us1, f1, g1, e1, v1⟩ := h1
    have fy := f1.more hy
    rw [ecn]
    refine (copyRecs_any wy M1 _ cs fy.inn (RecsR.own (row_kept g.chos.row (fun x hg => (kp wy fy.below).block x (row_lt g.chos.row hg).2))) (fun x hx => ⟨(g.chos.data x hx).1.le fy.le, (g.chos.data x hx).2⟩) ?_).mono ?_
    · have := congrArg List.length g.chosen; rw [List.length_map] at this; have := hB.chosen; omega
    · rintro r w' ⟨M', o, m, lc, rfl, q1, q2, q3, q4, q5⟩
      rw [g.chosen] at q3
      have f2 := fy.trans ⟨q1, q2, q4, q5⟩
      exact ⟨o, m, lc, rfl, f2.below, q4, M1, M', us1, f2, g1, f1.inn, q5, e1, v1.le q1, q3⟩
  have HMW : Hid (M W.heap.size = none) := hF0.inn.fresh (Nat.le_refl _)
  have hz := HB2.out W (Below.refl _ _)
  have HS : Hid (∀ wx, Below W.heap.size W wx → ((wx.cell? ⟨d, 3, none⟩ = some (.slice co cn cc) ∧ wx.cell? ⟨d, 4, none⟩ = some (.bool c.conflict)) ∧ Below W.heap.size W wx)) := fun wx hx => ⟨⟨cell_of (HB2.out wx hx) rfl, cell_of (HB2.out wx hx) rfl⟩, hx⟩
  go_enter Try.func21, Try.ntmps21
  go_upto_region 1 with fail
  try rw [hW]
  go_cut [3] from 6 (fun v wx => ∃ (bx : Nat) (n1 : Option Addr) (n2 n3 : Nat) (c1 : Option Addr) (c2 c3 : Nat), v = .pointer (some ⟨bx, 0, none⟩) ∧ Hid (RB W M c bx (.slice n1 n2 n3) (.slice c1 c2 c3) wx))
  case first =>
    have hbW := hide (Below.refl W.heap.size W)
    clear g hB hL hbx hF0 kp hpe hpn hz ecn ekn sW hW bW hdl hpl hpc1
    go_region_held_law (fun wx => (wx.cell? ⟨d, 3, none⟩ = some (.slice co cn cc) ∧ wx.cell? ⟨d, 4, none⟩ = some (.bool c.conflict)) ∧ Below W.heap.size W wx)
      ((refine HS.out _ ?_; first | (with_reducible assumption) | (with_reducible exact hbW.out) | (with_reducible exact hbW.out.drew) | (with_reducible exact (more hbW.out _).drew) | (with_reducible exact more hb1 _) | (with_reducible exact more hb2 _) | (refine set4 (Nat.le_refl _) ?_; with_reducible assumption) | (refine set4 hb1.size ?_; with_reducible assumption)))
      (first
      | (go_at_call 46; refine (HMs.out _ (by first | (with_reducible exact hbW.out.drew) | (with_reducible exact (more hbW.out _).drew))).mono ?_; rintro rr w1 ⟨n1, n2, n3, rfl, hb1, hx1, H1⟩; first | (have hz1 := zA hx1) | skip)
      | (go_at_call 47; refine (HCh.out _ _ _ _ H1.out (by first | (with_reducible exact Below.refl _ _) | (with_reducible exact more (Below.refl _ _) _))).mono ?_; rintro rr w2 ⟨c1, c2, c3, rfl, hb2, hx2, H2⟩; first | (have hz2 := zK hz1 hx1 hx2; have zz0 := cell_of (i := 0) hz2 (v := .slice none 0 0) rfl; have zf0 := frozen_of hz2 0; have zz1 := cell_of (i := 1) hz2 (v := .slice none 0 0) rfl; have zf1 := frozen_of hz2 1; have zz2 := cell_of (i := 2) hz2 (v := .slice none 0 0) rfl; have zf2 := frozen_of hz2 2; have zz3 := cell_of (i := 3) hz2 (v := .bool false) rfl; have zf3 := frozen_of hz2 3) | (have hz2 := zB hx2; have zz0 := cell_of (i := 0) hz2 (v := .slice none 0 0) rfl; have zf0 := frozen_of hz2 0; have zz1 := cell_of (i := 1) hz2 (v := .slice none 0 0) rfl; have zf1 := frozen_of hz2 1; have zz2 := cell_of (i := 2) hz2 (v := .slice none 0 0) rfl; have zf2 := frozen_of hz2 2; have zz3 := cell_of (i := 3) hz2 (v := .bool false) rfl; have zf3 := frozen_of hz2 3) | skip))
    all_goals (go_wp2_with fail; go_meet)
    · exact ⟨_, _, _, _, _, _, _, rfl, RB.new H2.out⟩
    · exact ⟨_, _, _, _, _, _, _, rfl, RB.set H2.out hz2 hb1.size (.inr ⟨Nat.le_refl _, by rw [World.size_alloc]; omega⟩)⟩
    · refine ⟨_, _, _, _, _, _, _, rfl, RB.set H2.out hz2 (Nat.le_refl _) (.inl ⟨?_, hx1.size, HMW.out⟩)⟩
      show W.heap.size < (W.alloc _).heap.size
      rw [World.size_alloc]; omega
  case rest =>
    obtain ⟨bx, n1, n2, n3, c1, c2, c3, rfl, HR0⟩ := hcut
    obtain ⟨M2, usn, f2, hM2, hlt2, hle2, hbk, en, vn, vc⟩ := HR0.out
    have H0 : Hid (LI W M M2 c bx (.slice n1 n2 n3) (.slice c1 c2 c3) 0 (.slice none 0 0) wc) := ⟨TI.begin c.peers f2 hM2 hlt2 hle2, hbk⟩
    have hz9 := HB2.out wc f2.below
    have cp := cell_of (i := 2) hz9 (v := .slice po kn pc) rfl
    have hknn : kn = n := by rw [ekn, g.len, hL.len]
    obtain ⟨pb, off, rfl, hpe2⟩ := hpe (by omega)
    have HSt : Hid (∀ k v wr, LI W M M2 c bx (.slice n1 n2 n3) (.slice c1 c2 c3) k v wr → (∃ so sc, v = .slice so k sc) ∧ (∀ wx, Below wr.heap.size wr wx → wx.cell? ⟨bx, 0, none⟩ = some v) ∧ (∀ b, nb[k]? = some b → wr.cell? ⟨pb, off + k, none⟩ = some (.pointer (some ⟨b, 0, none⟩)))) := fun k v wr h => by
      obtain ⟨⟨M', us', q1, q2, q3, q4, q5, q6, q7, q8, q9⟩, hbk⟩ := h
      refine ⟨own_slice q3, fun wx hx => cell_of (i := 0) ((hx.block bx q8).trans hbk) rfl, fun b hb => ?_⟩
      refine (q2.inn.below (Below.refl _ _)).cell (q2.le.cell (hpe2 k _ ?_))
      rw [List.getElem?_map, hb]; rfl
    have HSt2 : Hid (∀ k so sc wr, k < kn → LI W M M2 c bx (.slice n1 n2 n3) (.slice c1 c2 c3) k (.slice so k sc) wr → ∃ b, nb[k]? = some b ∧ ∀ wx, Below wr.heap.size wr wx → Calls Try.prog 48 #[.pointer (some ⟨b, 0, none⟩)] wx fun r w5 => ∃ (p : Peer) (a1 : Option Addr) (a2 a3 : Nat) (b1 : Option Addr) (b2 b3 : Nat) (e1 : Option Addr) (e2 e3 : Nat) (d1 : Option Addr) (d2 d3 : Nat) (Y : World), r = .returned (.agg #[.bool p.up, .int .i64 p.term, .int .i64 p.vote, .int .i64 p.commit, .int .i64 p.role, .slice a1 a2 a3, .slice b1 b2 b3, .slice e1 e2 e3, .slice d1 d2 d3]) ∧ w5.alloc (.cells #[.bool p.up, .int .i64 p.term, .int .i64 p.vote, .int .i64 p.commit, .int .i64 p.role, .slice a1 a2 a3, .slice b1 b2 b3, .slice e1 e2 e3, .slice d1 d2 d3] 36) = Y ∧ (w5.cell? ⟨bx, 0, none⟩ = some (.slice so k sc) ∧ Y.cell? ⟨bx, 0, none⟩ = some (.slice so k sc)) ∧
        Hid (∃ ys, Y.ownsRow W.heap.size 36 9 (.slice so k sc) k ys ∧ (∀ j u, ([.bool p.up, .int .i64 p.term, .int .i64 p.vote, .int .i64 p.commit, .int .i64 p.role, .slice a1 a2 a3, .slice b1 b2 b3, .slice e1 e2 e3, .slice d1 d2 d3] : List Value)[j]? = some u → Y.cell? ((⟨w5.heap.size, 0, none⟩ : Addr).add j) = some u) ∧ W.heap.size ≤ Y.heap.size ∧
          ∀ g cap w', w'.ownsRow W.heap.size 36 9 (.slice (some ⟨g, 0, none⟩) (k + 1) cap) (k + 1) (ys ++ [.bool p.up, .int .i64 p.term, .int .i64 p.vote, .int .i64 p.commit, .int .i64 p.role, .slice a1 a2 a3, .slice b1 b2 b3, .slice e1 e2 e3, .slice d1 d2 d3]) → Y.grownBy w' (Value.slice so k sc).ownBlock → ((Value.slice so k sc).ownBlock = some g ∨ g = Y.heap.size) → w'.heap[bx]? = some (.cells #[.slice so k sc, .slice n1 n2 n3, .slice c1 c2 c3, .bool c.conflict] 30 (0, 0)) ∧ LI W M M2 c bx (.slice n1 n2 n3) (.slice c1 c2 c3) (k + 1) (.slice (some ⟨g, 0, none⟩) (k + 1) cap) (w'.setCell ⟨bx, 0, none⟩ (.slice (some ⟨g, 0, none⟩) (k + 1) cap)))) := fun k so sc wr hk h => by
      have hlr : bx < wr.heap.size := by obtain ⟨⟨M', us', q1, q2, q3, q4, q5, q6, q7, q8, q9⟩, hbk⟩ := h; exact q8
      have hkl : k < nb.length := by omega
      have hkp : k < c.peers.length := by rw [← g.len]; exact hkl
      obtain ⟨b, hb⟩ : ∃ b, nb[k]? = some b := ⟨_, List.getElem?_eq_getElem hkl⟩
      obtain ⟨p, hp⟩ : ∃ p, c.peers[k]? = some p := ⟨_, List.getElem?_eq_getElem hkp⟩
      have hat : c.at k = p := by unfold Cl.at; rw [List.getD_eq_getElem?_getD, hp]; rfl
      have hpb := hB.peers k
      have hpl2 := hL.peers k
      rw [hat] at hpb hpl2
      have stW : Sta M O W := FP.sta ((FP.refl g.st.inn).more bW) g.st
      have ndW : Nod W M O b k p := FP.nod ((FP.refl g.st.inn).more bW) g.st (g.nodes k b p hb hp)
      refine ⟨b, hb, fun wx hx => (TI.step h.1 h.2 stW hp ndW (by have := hpb.log; omega) (by have := hpl2.votes; omega) (by have := hpl2.next; omega) (by have := hpl2.mat; omega) hx).mono ?_⟩
      rintro r w5 ⟨a1, a2, a3, b1, b2, b3, e1, e2, e3, d1, d2, d3, Y, rfl, hY, b5, ys, y1, y2, y3, y4⟩
      have bY : Below wr.heap.size wr Y := by rw [← hY]; exact b5.alloc b5.size _
      refine ⟨p, a1, a2, a3, b1, b2, b3, e1, e2, e3, d1, d2, d3, Y, rfl, hY, ⟨cell_of (i := 0) ((b5.block bx hlr).trans h.2) rfl, cell_of (i := 0) ((bY.block bx hlr).trans h.2) rfl⟩, ys, y1, y2, y3, fun g2 cap w' z1 z2 z3 => ?_⟩
      obtain ⟨t1, t2⟩ := y4 g2 cap w' z1 z2 z3
      exact ⟨t2, t1.store t2 0 _, set_at t2 0 _ rfl⟩
    have HFin : Hid (∀ po' pc' wr, LI W M M2 c bx (.slice n1 n2 n3) (.slice c1 c2 c3) kn (.slice po' kn pc') wr → (wr.heap[w.heap.size]? = some (.cells #[.slice none 0 0, .slice none 0 0, .slice none 0 0, .bool false] 30 (0, 0)) ∧ wr.heap[bx]? = some (.cells #[.slice po' kn pc', .slice n1 n2 n3, .slice c1 c2 c3, .bool c.conflict] 30 (0, 0))) ∧ CluE w M c (.returned (.agg #[.slice po' kn pc', .slice n1 n2 n3, .slice c1 c2 c3, .bool c.conflict])) (sets wr w.heap.size [(0, .slice po' kn pc'), (1, .slice n1 n2 n3), (2, .slice c1 c2 c3), (3, .bool c.conflict)])) := fun po' pc' wr h => by
      obtain ⟨h1, h2⟩ := h
      have e : kn = c.peers.length := by rw [ekn, g.len]
      rw [e] at h1 ⊢
      obtain ⟨M', ps, f, q1, q2, q3⟩ := TI.fin h1
      rw [← e] at q2 ⊢
      have hw9 : wr.heap[w.heap.size]? = some (.cells #[.slice none 0 0, .slice none 0 0, .slice none 0 0, .bool false] 30 (0, 0)) := (f.below.block _ (by omega)).trans hbx
      refine ⟨⟨hw9, h2⟩, po', kn, pc', n1, n2, n3, c1, c2, c3, rfl, M', ⟨f.le, ?_, sets_belowB (Nat.le_refl _) _ _ (kp wr f.below), fun b hb => ?_⟩, ps, usn, q1, q2, en, vn.le q3, vc.le q3⟩
      · intro x o hx
        refine (sets_ne _ wr ?_).trans (f.inn x o hx)
        rintro rfl
        rcases f.new _ (by rw [hx]; simp) with g' | g'
        · exact g' (g.st.inn.fresh (Nat.le_refl _))
        · omega
      · rcases f.new b hb with g' | g'
        · exact .inl g'
        · exact .inr (by omega)
    obtain ⟨i0, hii, hz0, hz1, hz2⟩ := info_parts info61
    have HI3 : Hid (Try.prog.info? 36 = some i0 ∧ i0.zero = some (.agg #[.bool false, .int .i64 0, .int .i64 0, .int .i64 0, .int .i64 0, .slice none 0 0, .slice none 0 0, .slice none 0 0, .slice none 0 0]) ∧ i0.size = 9 ∧ i0.bytes = 136) := ⟨hii, hz0, hz1, hz2⟩
    have hkn7 : kn ≤ 7 := by omega
    clear hii hz0 hz1 hz2 g hB hL hbx hF0 kp hpe2 hpn ecn ekn hknn sW hW bW hdl hpl hpc1 HB2 HMs HCh hz HS hz9 HR0 f2 hM2 hlt2 hle2 hbk en vn vc hn7 h1n
    go_wp2
    go_loopw [25] (fun i wr => ∃ (k : Nat) (v : Value), k ≤ kn ∧ i = .int .i64 k ∧ Hid (LI W M M2 c bx (.slice n1 n2 n3) (.slice c1 c2 c3) k v wr)) (fun i _ => kn - (intOf i).toNat)
    case atStart => exact ⟨0, _, Nat.zero_le _, rfl, H0⟩
    case round =>
      obtain ⟨k, v, hk, rfl, HR⟩ := hrel
      obtain ⟨⟨so, sc, rfl⟩, hc0, hcp⟩ := HSt.out _ _ _ HR.out
      by_cases hlt : k < kn
      · have hltI : (k : Int) < kn := by omega
        obtain ⟨b, hb, hT⟩ := HSt2.out k so sc wr hlt HR.out
        have hcp2 := hcp b hb
        have c0 := hc0 wr (Below.refl _ _)
        have HT := hide hT
        clear hc0 hcp hT hb
        go_upto_region 5 with fail
        go_region_law (first
          | (go_simp; go_at_call 48; refine (HT.out _ (by first | (with_reducible exact (Below.refl _ _).drew) | (with_reducible exact Below.refl _ _))).mono ?_; rintro rr w5 ⟨p, a1, a2, a3, b1, b2, b3, e1, e2, e3, d1, d2, d3, Y, rfl, hY, ⟨c5, cY⟩, HE⟩)
          | (obtain ⟨ys, y1, y2, y3, y4⟩ := HE.out; refine step_append_lies _ rfl _ _ 26 rfl W.heap.size 36 i0 (.agg #[.bool false, .int .i64 0, .int .i64 0, .int .i64 0, .int .i64 0, .slice none 0 0, .slice none 0 0, .slice none 0 0, .slice none 0 0]) 9 136 Try.underlying26 HI3.out.1 HI3.out.2.1 HI3.out.2.2.1 HI3.out.2.2.2 rfl (by decide) _ k ys rfl y1 ⟨w5.heap.size, 0, none⟩ 1 1 [.bool p.up, .int .i64 p.term, .int .i64 p.vote, .int .i64 p.commit, .int .i64 p.role, .slice a1 a2 a3, .slice b1 b2 b3, .slice e1 e2 e3, .slice d1 d2 d3] rfl rfl y2 (fun u' hu' => by simp only [List.mem_cons, List.not_mem_nil, or_false] at hu'; rcases hu' with rfl | rfl | rfl | rfl | rfl | rfl | rfl | rfl | rfl <;> rfl) (by decide) (by unfold maxLen; omega) (by omega) y3 _ rfl ?_; intro g2 cap2 w2 z1 z2 z3 z4; obtain ⟨hbb, hLI⟩ := y4 g2 cap2 w2 z1 z2 z3; have HN := hide hLI; have t0 := cell_of (i := 0) hbb (v := .slice so k sc) rfl; have t1 := frozen_of hbb 0; clear z1 z2 z3 z4 y1 y2 y3 y4 hbb hLI))
        all_goals
          go_wp2
          go_roundw
        all_goals first
          | exact ⟨k + 1, _, by omega, by go_num, HN⟩
          | (simp [intOf]; omega)
      · have hlt2 : ¬ (k : Int) < kn := by omega
        obtain rfl : k = kn := by omega
        obtain ⟨⟨hr1, hr2⟩, hE⟩ := HFin.out so sc wr HR.out
        have g0 := cell_of (i := 0) hr2 (v := .slice so k sc) rfl
        have g1 := cell_of (i := 1) hr2 (v := .slice n1 n2 n3) rfl
        have g2 := cell_of (i := 2) hr2 (v := .slice c1 c2 c3) rfl
        have g3 := cell_of (i := 3) hr2 (v := .bool c.conflict) rfl
        have z0 := cell_of (i := 0) hr1 (v := .slice none 0 0) rfl
        have z1 := cell_of (i := 1) hr1 (v := .slice none 0 0) rfl
        have z2 := cell_of (i := 2) hr1 (v := .slice none 0 0) rfl
        have z3 := cell_of (i := 3) hr1 (v := .bool false) rfl
        have f0 := frozen_of hr1 0
        have f1 := frozen_of hr1 1
        have f2 := frozen_of hr1 2
        have f3 := frozen_of hr1 3
        obtain ⟨WF, hWF⟩ : ∃ WF, sets wr w.heap.size [(0, .slice so k sc), (1, .slice n1 n2 n3), (2, .slice c1 c2 c3), (3, .bool c.conflict)] = WF := ⟨_, rfl⟩
        have hblk : WF.heap[w.heap.size]? = some (.cells #[.slice so k sc, .slice n1 n2 n3, .slice c1 c2 c3, .bool c.conflict] 30 (0, 0)) := by
          rw [← hWF]
          have q2 := sets_at [(0, .slice so k sc), (1, .slice n1 n2 n3), (2, .slice c1 c2 c3), (3, .bool c.conflict)] hr1
          have e : setsA #[.slice none 0 0, .slice none 0 0, .slice none 0 0, .bool false] [(0, .slice so k sc), (1, .slice n1 n2 n3), (2, .slice c1 c2 c3), (3, .bool c.conflict)] = #[.slice so k sc, .slice n1 n2 n3, .slice c1 c2 c3, .bool c.conflict] := by simp [setsA]
          rw [e] at q2
          exact q2
        have k0 := cell_of (i := 0) hblk (v := .slice so k sc) rfl
        have k1 := cell_of (i := 1) hblk (v := .slice n1 n2 n3) rfl
        have k2 := cell_of (i := 2) hblk (v := .slice c1 c2 c3) rfl
        have k3 := cell_of (i := 3) hblk (v := .bool c.conflict) rfl
        have HE := hide hE
        clear hE hr1 hr2 hblk hc0 hcp
        go_wp2
        have HT2 := HE.out
        rw [hWF] at HT2
        simp only [sets] at hWF
        rw [hWF]
        refine bodyPost_ret (v := .agg #[.slice so k sc, .slice n1 n2 n3, .slice c1 c2 c3, .bool c.conflict]) ?_ rfl HT2
        simp [results, Try.results21, go_sem, k0, k1, k2, k3]
end Go.Proofs.Ytklkglbimjajnaa.gt8
namespace Go.Proofs.Ytklkglbimjajnaa.new
open Go.ChangeShapes Go.WideShapes Go.ChangeAt Go.RowKit
open Raft mem grp Ytklkglbimjajnaa.look ndw grant stand rows2 clone behind post postb copy
theorem info52 : (Try.prog.info? 106).map (fun i => (i.zero, i.size, i.bytes)) = some (some (.pointer none), 1, 8) := by kernel_rfl
theorem Aft.grownNew {S : Nat → Prop} {M M' : Fz} {O O' : Lb} {w w' w'' : World} (h : Aft S M O w M' O' w') {row : Option Nat} (g : w'.grownBy w'' row) (hr : ∀ b, row = some b → w.heap.size ≤ b ∧ M' b = none) : Aft S M O w M' O' w'' where
  os := g.os.trans h.os
  tape := g.tape.trans h.tape
  output := g.output.trans h.output
  size := Nat.le_trans h.size g.size
  le := h.le
  inn := h.inn.grown g (fun k hk => (hr k hk).2)
  lab := h.lab
  ok := fun b l hl => ⟨(h.ok b l hl).1, Nat.lt_of_lt_of_le (h.ok b l hl).2 g.size⟩
  newM := h.newM
  newL := h.newL
  keep := fun b hb hk => (g.block b (Nat.lt_of_lt_of_le hb h.size) (fun e => by have := (hr b e.symm).1; omega)).trans (h.keep b hb hk)
def NI (w : World) (M : Fz) (O : Lb) (H d k : Nat) (pv : Value) (wr : World) : Prop := ∃ (O' : Lb) (nb : List Nat), nb.length = k ∧ Aft (fun _ => True) M O w M O' wr ∧ (wr.heap[d]? = some (.cells #[.pointer (some ⟨H, 0, none⟩), .int .i64 0, pv, .slice none 0 0, .bool false] 105 (0, 0)) ∧ O' d = some 0) ∧ (wr.heap[H]? = some (.cells #[.int .i64 0, .int .i64 0, .int .i64 0, .int .i64 0, .int .i64 0, .int .i64 0, .int .i64 0, .bool false, .slice none 0 0, .pointer none] 100 (0, 0)) ∧ O' H = some 2) ∧ wr.ownsRow w.heap.size 106 1 pv k (nb.map (fun b => Value.pointer (some ⟨b, 0, none⟩))) ∧ (∀ j b, nb[j]? = some b → wr.heap[b]? = some (.cells #[.int .i64 0, .int .i64 0, .slice none 0 0, .int .i64 (j : Nat), .bool true, .int .i64 0, .int .i64 0, .slice none 0 0, .slice none 0 0, .slice none 0 0] 110 (0, 0)) ∧ O' b = some (3 + j)) ∧ (∀ g, pv.ownBlock = some g → O' g = none ∧ M g = none)
theorem NI.fin {w wr : World} {M : Fz} {O : Lb} {H d n : Nat} {pv : Value} (h : NI w M O H d n pv wr) : ∃ nb M' O', Aft (fun _ => True) M O w M' O' wr ∧ G wr M' O' d nb (Cl.begin n) := by
  obtain ⟨O', nb, hl, a, ⟨hd, od⟩, ⟨hH, oH⟩, hr, hn, hg⟩ := h
  obtain ⟨M2, q1, q2, q3, q4⟩ := RowM.freeze hr a.inn (fun g hg' => (hg g hg').2)
  have a2 : Aft (fun _ => True) M O w M2 O' wr := a.freezes q1 q2 (fun b hb => (q4 b hb).imp id (fun h => (row_lt hr h).1)) (fun b l hbl => by
    cases e : M2 b with
    | none => rfl
    | some o =>
      rcases q4 b (by rw [e]; simp) with h1 | h1
      · exact absurd (a.ok b l hbl).1 h1
      · have := (hg b h1).1; rw [this] at hbl; cases hbl)
  refine ⟨nb, M2, O', a2, H, pv, .slice none 0 0, [], [], [], ?_⟩
  subst hl
  exact
    { st := a2.sta
      blk := hd
      own := od
      peers := q3
      len := by simp [Cl.begin]
      nodes := fun k b p hb hp => by
        have hk : k < nb.length := (List.getElem?_eq_some_iff.1 hb).1
        have e : p = { Peer.zero with up := true } := by
          have := (List.getElem?_eq_some_iff.1 hp).2
          rw [← this]
          simp [Cl.begin]
        subst e
        exact ⟨[], .slice none 0 0, .slice none 0 0, .slice none 0 0, .slice none 0 0,
          { blk := (hn k b hb).1
            own := (hn k b hb).2
            log := World.ownsRow_nil _ _ _ _
            recs := rfl
            data := by simp
            votes := World.ownsRow_nil _ _ _ _
            next := World.ownsRow_nil _ _ _ _
            mat := World.ownsRow_nil _ _ _ _
            lab := by intro v hv g hg'; simp at hv; subst hv; simp [Value.ownBlock] at hg'
            apart := by simp [Value.ownBlock] }⟩
      post :=
        { len := rfl
          nodup := by simp
          lab := by intro b hb; simp at hb; subst hb; exact oH
          blk := fun i b x hb hx => by
            cases i with
            | zero =>
              obtain rfl : H = b := by simpa using hb
              obtain rfl : mv0 = x := by simpa using hx
              exact hH
            | succ i => simp at hb
          logs := by simp }
      nets := rfl
      chos := ⟨World.ownsRow_nil _ _ _ _, by simp [Value.ownBlock], by simp⟩
      chosen := rfl }
theorem NI.step {w wr : World} {M : Fz} {O : Lb} {H d k : Nat} {po : Option Addr} {pn pc : Nat} (h : NI w M O H d k (.slice po pn pc) wr) {V1 V2 : World} (hV1 : wr.alloc (.cells #[.int .i64 0, .int .i64 0, .slice none 0 0, .int .i64 (k : Nat), .bool true, .int .i64 0, .int .i64 0, .slice none 0 0, .slice none 0 0, .slice none 0 0] 110) = V1) (hV2 : V1.alloc (.cells #[.pointer (some ⟨wr.heap.size, 0, none⟩)] 106) = V2) :
    ∃ ys, V2.ownsRow w.heap.size 106 1 (.slice po pn pc) k ys ∧ (∀ j u, ([.pointer (some ⟨wr.heap.size, 0, none⟩)] : List Value)[j]? = some u → V2.cell? ((⟨V1.heap.size, 0, none⟩ : Addr).add j) = some u) ∧ w.heap.size ≤ V2.heap.size ∧
      ∀ g cap w2, w2.ownsRow w.heap.size 106 1 (.slice (some ⟨g, 0, none⟩) (k + 1) cap) (k + 1) (ys ++ [.pointer (some ⟨wr.heap.size, 0, none⟩)]) → V2.grownBy w2 (Value.slice po pn pc).ownBlock → ((Value.slice po pn pc).ownBlock = some g ∨ g = V2.heap.size) → w2.heap[d]? = some (.cells #[.pointer (some ⟨H, 0, none⟩), .int .i64 0, .slice po pn pc, .slice none 0 0, .bool false] 105 (0, 0)) ∧ NI w M O H d (k + 1) (.slice (some ⟨g, 0, none⟩) (k + 1) cap) (w2.setCell ⟨d, 2, none⟩ (.slice (some ⟨g, 0, none⟩) (k + 1) cap)) := by
  obtain ⟨O', nb, hl, a, ⟨hd, od⟩, ⟨hH, oH⟩, hr, hn, hg⟩ := h
  have e1 : V1.heap.size = wr.heap.size + 1 := by rw [← hV1]; exact World.size_alloc ..
  have e2 : V2.heap.size = wr.heap.size + 2 := by rw [← hV2, World.size_alloc, e1]
  have b1 : Below wr.heap.size wr V1 := by rw [← hV1]; exact more (Below.refl _ _) _
  have b2 : Below V1.heap.size V1 V2 := by rw [← hV2]; exact more (Below.refl _ _) _
  have b12 : Below wr.heap.size wr V2 := b1.trans (b2.mono (by omega))
  have hB1 : V1.heap[wr.heap.size]? = some (.cells #[.int .i64 0, .int .i64 0, .slice none 0 0, .int .i64 (k : Nat), .bool true, .int .i64 0, .int .i64 0, .slice none 0 0, .slice none 0 0, .slice none 0 0] 110 (0, 0)) := by rw [← hV1]; exact heap_alloc_new wr _
  have hB2 : V2.heap[wr.heap.size]? = some (.cells #[.int .i64 0, .int .i64 0, .slice none 0 0, .int .i64 (k : Nat), .bool true, .int .i64 0, .int .i64 0, .slice none 0 0, .slice none 0 0, .slice none 0 0] 110 (0, 0)) := (b2.block _ (by omega)).trans hB1
  have hA2 : V2.heap[V1.heap.size]? = some (.cells #[.pointer (some ⟨wr.heap.size, 0, none⟩)] 106 (0, 0)) := by rw [← hV2]; exact heap_alloc_new V1 _
  refine ⟨nb.map (fun b => Value.pointer (some ⟨b, 0, none⟩)), row_kept hr (fun g hg' => b12.block g (row_lt hr hg').2), ?_, by have := a.size; omega, ?_⟩
  · intro j u hu
    rw [pile.add_at, Nat.zero_add]
    exact cell_of hA2 (by simpa using hu)
  intro g cap w2 p1 p2 p3
  have dlt := (a.ok d 0 od).2
  have Hlt := (a.ok H 2 oH).2
  have key : ∀ (x : Nat) (o : Obj), V2.heap[x]? = some o → (∀ cur t, o = .cells cur t (0, 0) → t ≠ 106) → (∃ cur t, o = .cells cur t (0, 0)) → w2.heap[x]? = some o := fun x o hx ht ⟨cur, t, ho⟩ => by
    refine (p2.block x (Array.getElem?_eq_some_iff.1 hx).1 (fun e => ?_)).trans hx
    subst ho
    have hlt : x < wr.heap.size := (row_lt hr e.symm).2
    exact type_ne hr ((b12.block x hlt).symm.trans hx) (ht cur t rfl) e.symm
  have hd2 : w2.heap[d]? = some (.cells #[.pointer (some ⟨H, 0, none⟩), .int .i64 0, .slice po pn pc, .slice none 0 0, .bool false] 105 (0, 0)) := key d _ ((b12.block d dlt).trans hd) (fun cur t e => by simp only [Obj.cells.injEq] at e; rw [← e.2.1]; decide) ⟨_, _, rfl⟩
  refine ⟨hd2, ?_⟩
  have a1 := a.below b12
  have hMB : M wr.heap.size = none := a.inn.fresh (Nat.le_refl _)
  have hsz := a.size
  have aL := Aft.label a1 (b := wr.heap.size) (l := 3 + k) hsz (by omega) hMB trivial
  have oLne : ∀ x, x ≠ wr.heap.size → grp.lab O' wr.heap.size (3 + k) x = O' x := fun x hx => by simp [grp.lab, hx]
  have oLeq : grp.lab O' wr.heap.size (3 + k) wr.heap.size = some (3 + k) := by simp [grp.lab]
  have aG := Aft.grownNew aL p2 (fun x hx => ⟨(row_lt hr hx).1, (hg x hx).2⟩)
  have odL : grp.lab O' wr.heap.size (3 + k) d = some 0 := by rw [oLne d (by omega)]; exact od
  have aS := aG.set odL trivial 2 (.slice (some ⟨g, 0, none⟩) (k + 1) cap)
  have other : ∀ (x : Nat) (o : Obj), w2.heap[x]? = some o → x ≠ d → (w2.setCell ⟨d, 2, none⟩ (.slice (some ⟨g, 0, none⟩) (k + 1) cap)).heap[x]? = some o := fun x o hx hne => (Below.heap_setCell w2 ⟨d, 2, none⟩ _ x hne).trans hx
  refine ⟨grp.lab O' wr.heap.size (3 + k), nb ++ [wr.heap.size], by simp [hl], aS, ⟨set_at hd2 2 _ (by simp), odL⟩, ⟨other H _ (key H _ ((b12.block H Hlt).trans hH) (fun cur t e => by simp only [Obj.cells.injEq] at e; rw [← e.2.1]; decide) ⟨_, _, rfl⟩) (fun e => by rw [e] at oH; rw [oH] at od; cases od), by rw [oLne H (by omega)]; exact oH⟩, ?_, ?_, ?_⟩
  · refine row_kept (by rw [List.map_append]; exact p1) (fun g' hg' => ?_)
    refine Below.heap_setCell w2 ⟨d, 2, none⟩ _ g' (fun e => ?_)
    rw [show g' = d from e] at hg'
    exact type_ne p1 hd2 (by decide) hg'
  · intro j b hb
    rcases Nat.lt_trichotomy j nb.length with hj | hj | hj
    · rw [List.getElem?_append_left hj] at hb
      obtain ⟨hb1, hb2⟩ := hn j b hb
      have blt := (a.ok b _ hb2).2
      refine ⟨other b _ (key b _ ((b12.block b blt).trans hb1) (fun cur t e => by simp only [Obj.cells.injEq] at e; rw [← e.2.1]; decide) ⟨_, _, rfl⟩) (fun e => by rw [e] at hb2; rw [hb2] at od; simp at od), by rw [oLne b (by omega)]; exact hb2⟩
    · subst hj
      obtain rfl : wr.heap.size = b := by simpa using hb
      rw [hl]
      exact ⟨other _ _ (key _ _ hB2 (fun cur t e => by simp only [Obj.cells.injEq] at e; rw [← e.2.1]; decide) ⟨_, _, rfl⟩) (by omega), oLeq⟩
    · rw [List.getElem?_eq_none_iff.2 (by simp; omega)] at hb
      cases hb
  · intro g' hg'
    obtain rfl : g = g' := by simpa [Value.ownBlock] using hg'
    rcases p3 with p3 | p3
    · have := (row_lt hr p3).2
      exact ⟨by rw [oLne g (by omega)]; exact (hg g p3).1, (hg g p3).2⟩
    · refine ⟨?_, a1.inn.fresh (by omega)⟩
      cases e : grp.lab O' wr.heap.size (3 + k) g with
      | none => rfl
      | some l => have := (aL.ok g l e).2; omega
set_option maxRecDepth 20000 in
set_option maxHeartbeats 2000000 in
theorem newGroup_any (w : World) (M : Fz) (O : Lb) (st : Sta M O w) (n : Nat) (hn7 : n ≤ 7) :
    Calls Try.prog 19 #[.int .i64 n] w fun r w' => ∃ d nb M' O', r = .returned (.pointer (some ⟨d, 0, none⟩)) ∧ Aft (fun _ => True) M O w M' O' w' ∧ G w' M' O' d nb (Cl.begin n) := by
  obtain ⟨H, hH⟩ : ∃ H, H = w.heap.size := ⟨_, rfl⟩
  obtain ⟨W1, hW1⟩ : ∃ W, w.alloc (.cells #[.int .i64 0, .int .i64 0, .int .i64 0, .int .i64 0, .int .i64 0, .int .i64 0, .int .i64 0, .bool false, .slice none 0 0, .pointer none] 100) = W := ⟨_, rfl⟩
  obtain ⟨W2, hW2⟩ : ∃ W, W1.alloc (.cells #[.pointer (some ⟨w.heap.size, 0, none⟩), .int .i64 0, .slice none 0 0, .slice none 0 0, .bool false] 105) = W := ⟨_, rfl⟩
  have e1 : W1.heap.size = w.heap.size + 1 := by rw [← hW1]; exact World.size_alloc ..
  have e2 : W2.heap.size = w.heap.size + 2 := by rw [← hW2, World.size_alloc, e1]
  have H0 : Hid (NI w M O H W1.heap.size 0 (.slice none 0 0) W2) := by
    have b1 : Below w.heap.size w W1 := by rw [← hW1]; exact more (Below.refl _ _) _
    have b2 : Below W1.heap.size W1 W2 := by rw [← hW2]; exact more (Below.refl _ _) _
    have a0 : Aft (fun _ => True) M O w M O W2 := (Aft.refl _ st).below (b1.trans (b2.mono (by omega)))
    have aL := Aft.label (Aft.label a0 (b := H) (l := 2) (by omega) (by omega) (st.inn.fresh (by omega)) trivial) (b := W1.heap.size) (l := 0) (by omega) (by omega) (st.inn.fresh (by omega)) trivial
    refine ⟨_, [], rfl, aL, ⟨?_, by simp [grp.lab]⟩, ⟨?_, ?_⟩, World.ownsRow_nil _ _ _ _, by simp, by simp [Value.ownBlock]⟩
    · rw [← hW2, hH]; exact heap_alloc_new W1 _
    · rw [hH]
      refine (b2.block _ (by omega)).trans ?_
      rw [← hW1]; exact heap_alloc_new w _
    · have : H ≠ W1.heap.size := by omega
      simp [grp.lab, this]
  have HE : Hid (∀ v wr, NI w M O H W1.heap.size n v wr → ∃ nb M' O', Aft (fun _ => True) M O w M' O' wr ∧ G wr M' O' W1.heap.size nb (Cl.begin n)) := fun v wr h => h.fin
  obtain ⟨i0, hii, hz0, hz1, hz2⟩ := info_parts info52
  have HI3 : Hid (Try.prog.info? 106 = some i0 ∧ i0.zero = some (.pointer none) ∧ i0.size = 1 ∧ i0.bytes = 8) := ⟨hii, hz0, hz1, hz2⟩
  obtain ⟨D, hD⟩ : ∃ D, W1.heap.size = D := ⟨_, rfl⟩
  rw [hD] at H0 HE
  have HS : Hid (∀ k v wr, NI w M O H D k v wr → (∃ po pc, v = .slice po k pc) ∧ wr.heap[D]? = some (.cells #[.pointer (some ⟨H, 0, none⟩), .int .i64 0, v, .slice none 0 0, .bool false] 105 (0, 0))) := fun k v wr h => by
    obtain ⟨O', nb, hl, a, ⟨hd, od⟩, _, hr, _⟩ := h
    exact ⟨own_slice hr, hd⟩
  clear st hii hz0 hz1 hz2 e1 e2
  go_enter Try.func19, Try.ntmps19
  go_wp2
  go_loopw [11] (fun i wr => ∃ (k : Nat) (v : Value), k ≤ n ∧ i = .int .i64 k ∧ Hid (NI w M O H D k v wr)) (fun i _ => n - (intOf i).toNat)
  case atStart => exact ⟨0, _, Nat.zero_le _, rfl, H0⟩
  case round =>
    clear hW1 hW2 hH
    obtain ⟨k, v, hk, rfl, HR⟩ := hrel
    by_cases hlt : k < n
    · have hltI : (k : Int) < n := by omega
      obtain ⟨⟨po, pc, rfl⟩, hd⟩ := HS.out _ _ _ HR.out
      have c2 := cell_of (i := 2) hd (v := .slice po k pc) rfl
      obtain ⟨V1, hV1⟩ : ∃ V, wr.alloc (.cells #[.int .i64 0, .int .i64 0, .slice none 0 0, .int .i64 (k : Nat), .bool true, .int .i64 0, .int .i64 0, .slice none 0 0, .slice none 0 0, .slice none 0 0] 110) = V := ⟨_, rfl⟩
      obtain ⟨V2, hV2⟩ : ∃ V, V1.alloc (.cells #[.pointer (some ⟨wr.heap.size, 0, none⟩)] 106) = V := ⟨_, rfl⟩
      have HJ := hide (HR.out.step hV1 hV2)
      clear hd
      go_wp2_with (at_builtin; obtain ⟨ys, y1, y2, y3, y4⟩ := HJ.out; refine wpList_append_lies _ rfl _ _ 103 rfl w.heap.size 106 i0 (.pointer none) 1 8 Try.underlying103 HI3.out.1 HI3.out.2.1 HI3.out.2.2.1 HI3.out.2.2.2 rfl (by decide) _ k ys rfl y1 ⟨V1.heap.size, 0, none⟩ 1 1 [.pointer (some ⟨wr.heap.size, 0, none⟩)] rfl rfl y2 (fun u' hu' => by simp only [List.mem_cons, List.not_mem_nil, or_false] at hu'; rcases hu' with rfl; rfl) (by decide) (by unfold maxLen; omega) (by omega) y3 _ rfl ?_; intro g2 cap2 w2 z1 z2 z3 z4; obtain ⟨hd2, hN⟩ := y4 g2 cap2 w2 z1 z2 z3; have HN := hide hN; have t0 := cell_of (i := 2) hd2 (v := .slice po k pc) rfl; have t1 := frozen_of hd2 2; clear z1 z2 z3 z4 y1 y2 y3 y4 hd2 hN)
      go_roundw
      case rel => exact ⟨k + 1, _, by omega, by go_num, HN⟩
      case measure => simp [intOf]; omega
    · have hlt2 : ¬ (k : Int) < n := by omega
      obtain rfl : k = n := by omega
      go_wp2
      go_ret
      obtain ⟨nb, M', O', h1, h2⟩ := HE.out _ _ HR.out
      exact ⟨D, rfl, nb, M', O', h1, h2⟩
end Go.Proofs.Ytklkglbimjajnaa.new
namespace Go.Proofs.Ytklkglbimjajnaa.note
open Raft
def noteN (l : List Rc) : Nat → List Rc × Bool → List Rc × Bool
  | 0, s => s
  | i + 1, s =>
    let p := noteN l i s
    match l[i]? with
    | none => p
    | some r =>
      let ch := if i = p.1.length then p.1 ++ [r] else p.1
      (ch, p.2 || decide (ch[i]? ≠ some r))
theorem noteN_len (l : List Rc) (s : List Rc × Bool) : ∀ i, i ≤ l.length → s.1.length ≤ (noteN l i s).1.length ∧ i ≤ (noteN l i s).1.length
  | 0, _ => by simp [noteN]
  | i + 1, h => by
    obtain ⟨h1, h2⟩ := noteN_len l s i (by omega)
    rw [noteN, List.getElem?_eq_getElem (by omega)]
    simp only
    split
    · simp; omega
    · omega
theorem take_snoc {l : List Rc} {i : Nat} {r : Rc} (h : l[i]? = some r) : l.take (i + 1) = l.take i ++ [r] := by
  have hlt := (List.getElem?_eq_some_iff.1 h).1
  rw [List.take_succ_eq_append_getElem hlt]
  congr 2
  have := List.getElem?_eq_getElem hlt
  rw [h] at this
  exact (Option.some.inj this).symm
theorem noteN_eq (l : List Rc) (ch : List Rc) (b : Bool) : ∀ i, i ≤ l.length → noteN l i (ch, b) = (ch ++ (l.take i).drop ch.length, b || decide ((l.take i).take ch.length ≠ ch.take i))
  | 0, _ => by simp [noteN]
  | i + 1, h => by
    obtain ⟨r, hr⟩ : ∃ r, l[i]? = some r := ⟨_, List.getElem?_eq_getElem (by omega)⟩
    have hl : (l.take i).length = i := by rw [List.length_take]; omega
    rw [noteN, noteN_eq l ch b i (by omega), hr]
    simp only
    by_cases hi : i < ch.length
    · have e1 : (l.take i).drop ch.length = [] := List.drop_eq_nil_of_le (by omega)
      have e2 : (l.take (i + 1)).drop ch.length = [] := List.drop_eq_nil_of_le (by rw [List.length_take]; omega)
      have e3 : (l.take i).take ch.length = l.take i := List.take_of_length_le (by omega)
      have e4 : (l.take (i + 1)).take ch.length = l.take (i + 1) := List.take_of_length_le (by rw [List.length_take]; omega)
      obtain ⟨x, hx⟩ : ∃ x, ch[i]? = some x := ⟨_, List.getElem?_eq_getElem hi⟩
      rw [e1, e2, e3, e4, List.append_nil, if_neg (by omega), take_snoc hr, take_snoc hx, hx]
      simp only [Prod.mk.injEq, true_and, Bool.or_assoc]
      congr 1
      by_cases h1 : l.take i = ch.take i
      · rw [h1]
        by_cases h2 : x = r
        · subst h2; simp
        · have h3 : ¬ (ch.take i ++ [r] = ch.take i ++ [x]) := fun e => h2 (by simpa using (List.append_cancel_left e).symm)
          simp [h2, h3]
      · have h3 : ¬ (l.take i ++ [r] = ch.take i ++ [x]) := fun e => h1 (List.append_inj_left e (by rw [hl, List.length_take]; omega))
        simp [h1, h3]
    · have e0 : (ch ++ (l.take i).drop ch.length).length = i := by simp; omega
      have e1 : (l.take (i + 1)).drop ch.length = (l.take i).drop ch.length ++ [r] := by
        rw [take_snoc hr, List.drop_append_of_le_length (by omega)]
      have e2 : (l.take (i + 1)).take ch.length = (l.take i).take ch.length := by
        rw [take_snoc hr, List.take_append_of_le_length (by omega)]
      have e3 : ch.take (i + 1) = ch.take i := by rw [List.take_of_length_le (by omega), List.take_of_length_le (by omega)]
      have e4 : (ch ++ ((l.take i).drop ch.length) ++ [r])[i]? = some r := by
        rw [List.getElem?_append_right (by omega), e0, Nat.sub_self]; rfl
      rw [if_pos e0.symm, e1, e2, e3, e4, ← List.append_assoc]
      simp
theorem note_eq (c : Cl) (k : Nat) : c.note k = { c with chosen := (noteN ((c.at k).log.take (c.at k).commit) ((c.at k).log.take (c.at k).commit).length (c.chosen, c.conflict)).1, conflict := (noteN ((c.at k).log.take (c.at k).commit) ((c.at k).log.take (c.at k).commit).length (c.chosen, c.conflict)).2 } := by
  rw [noteN_eq _ _ _ _ (Nat.le_refl _)]
  unfold Cl.note
  simp only [List.take_length]
theorem noteN_new {l : List Rc} {s : List Rc × Bool} {i : Nat} {r : Rc} (hr : l[i]? = some r) (hi : i = (noteN l i s).1.length) : noteN l (i + 1) s = ((noteN l i s).1 ++ [r], (noteN l i s).2) := by
  rw [noteN, hr]
  simp only
  rw [if_pos hi]
  have e : ((noteN l i s).1 ++ [r])[i]? = some r := by rw [List.getElem?_append_right (by omega), ← hi, Nat.sub_self]; rfl
  rw [e]
  simp
theorem noteN_old {l : List Rc} {s : List Rc × Bool} {i : Nat} {r z : Rc} (hr : l[i]? = some r) (hi : i ≠ (noteN l i s).1.length) (hz : (noteN l i s).1[i]? = some z) : noteN l (i + 1) s = ((noteN l i s).1, (noteN l i s).2 || !decide (z = r)) := by
  rw [noteN, hr]
  simp only
  rw [if_neg hi, hz]
  simp
end Go.Proofs.Ytklkglbimjajnaa.note
namespace Go.Proofs.Ytklkglbimjajnaa.same
open Go.ChangeShapes Go.WideShapes Go.ChangeAt Go.RowKit
open Raft mem grp
def strOf (ys : List Int) : ByteArray := ⟨(ys.map fun y => UInt8.ofNat y.toNat).toArray⟩
theorem run_str {M : Fz} {w : World} (hI : In M w) {u : Value} {ys : List Int} (h : BytesM M u ys) : (convert 22 9 u).run Try.prog w = .ok (.string (strOf ys)) w := by
  obtain ⟨⟨ao, cap, rfl, h1, h2, h3, h4, h5⟩, hbd⟩ := h
  cases ao with
  | none =>
    obtain ⟨e1, e2⟩ := h4 rfl
    have hys : ys = [] := List.length_eq_zero_iff.1 e1
    subst hys
    exact Lib.run_convert_nil_bytes w 22 9 5 cap Try.underlying22 Try.underlying5 Try.underlying9
  | some ad =>
    have hl : (ys.map fun y => UInt8.ofNat y.toNat).length = ys.length := by simp
    have := run_convert_bytes_back (P := Try.prog) w 22 9 5 ad cap (ys.map fun y => UInt8.ofNat y.toNat) Try.underlying22 Try.underlying5 Try.underlying9 (fun j hj => by
      rw [hl] at hj
      obtain ⟨b, off, e, hc⟩ := h5 (by omega)
      simp only [Option.some.injEq] at e
      subst e
      have hb := hbd _ (List.getElem_mem hj)
      rw [addr_add, hI.cell (hc j (.int .u8 ys[j]) (by simp [hj]))]
      have hmod : (UInt8.ofNat (ys[j]).toNat).toNat = (ys[j]).toNat := by
        simp
        omega
      simp only [List.getElem_map, hmod]
      congr 2
      omega)
    rw [hl] at this
    exact this
theorem byte_inj {a b : Int} (ha : 0 ≤ a ∧ a ≤ 255) (hb : 0 ≤ b ∧ b ≤ 255) (h : UInt8.ofNat a.toNat = UInt8.ofNat b.toNat) : a = b := by
  have := congrArg UInt8.toNat h
  simp at this
  omega
theorem map_inj : ∀ (xs ys : List Int), (∀ x ∈ xs, 0 ≤ x ∧ x ≤ 255) → (∀ y ∈ ys, 0 ≤ y ∧ y ≤ 255) → xs.map (fun x => UInt8.ofNat x.toNat) = ys.map (fun x => UInt8.ofNat x.toNat) → xs = ys
  | [], [], _, _, _ => rfl
  | [], y :: ys, _, _, h => by simp at h
  | x :: xs, [], _, _, h => by simp at h
  | x :: xs, y :: ys, hx, hy, h => by
    simp only [List.map_cons, List.cons.injEq] at h
    rw [byte_inj (hx x (by simp)) (hy y (by simp)) h.1, map_inj xs ys (fun z hz => hx z (by simp [hz])) (fun z hz => hy z (by simp [hz])) h.2]
theorem str_eq {xs ys : List Int} (hx : ∀ x ∈ xs, 0 ≤ x ∧ x ≤ 255) (hy : ∀ y ∈ ys, 0 ≤ y ∧ y ≤ 255) : ((strOf xs).toList == (strOf ys).toList) = decide (xs = ys) := by
  by_cases h : xs = ys
  · subst h; simp
  · have : (strOf xs).toList ≠ (strOf ys).toList := fun e => h (map_inj xs ys hx hy (by
      have e2 : (strOf xs) = (strOf ys) := by
        have h3 := congrArg (fun l : List UInt8 => (⟨l.toArray⟩ : ByteArray)) e
        simpa [strOf] using h3
      have h4 := congrArg (fun a : ByteArray => a.data.toList) e2
      simpa [strOf] using h4))
    rw [decide_eq_false h]
    exact beq_eq_false_iff_ne.2 this
set_option maxHeartbeats 800000 in
theorem equal_any (w : World) (M : Fz) (hI : In M w) (xs ys : List Int) (o o2 : Option Addr) (n c n2 c2 : Nat) (h1 : BytesM M (.slice o n c) xs) (h2 : BytesM M (.slice o2 n2 c2) ys) :
    Calls Try.prog 142 #[.slice o n c, .slice o2 n2 c2] w fun e w' => e = .returned (.bool (decide (xs = ys))) ∧ w' = w := by
  have hs1 := run_str hI h1
  have hs2 := run_str hI h2
  have HSE := hide (str_eq h1.2 h2.2)
  clear hI h1 h2
  obtain ⟨s1, hs1e⟩ : ∃ s, s = strOf xs := ⟨_, rfl⟩
  obtain ⟨s2, hs2e⟩ : ∃ s, s = strOf ys := ⟨_, rfl⟩
  rw [← hs1e] at hs1 HSE
  rw [← hs2e] at hs2 HSE
  clear hs1e hs2e
  rw [show decide (xs = ys) = (s1.toList == s2.toList) from HSE.out.symm]
  clear HSE
  go_enter Try.func142, Try.ntmps142
  go_wp2
  go_ret
  exact ⟨rfl, rfl⟩
set_option maxHeartbeats 1600000 in
theorem same_core (w : World) (M : Fz) (hI : In M w) (t i t2 i2 : Nat) (xs ys : List Int) (o o2 : Option Addr) (n c n2 c2 : Nat) (h1 : BytesM M (.slice o n c) xs) (h2 : BytesM M (.slice o2 n2 c2) ys) :
    Calls Try.prog 119 #[.agg #[.int .i64 t, .int .i64 i, .slice o n c], .agg #[.int .i64 t2, .int .i64 i2, .slice o2 n2 c2]] w fun e w' => e = .returned (.bool (decide (t = t2) && (decide (i = i2) && decide (xs = ys)))) ∧ Below w.heap.size w w' := by
  have bW : Below w.heap.size w ((w.alloc (.cells #[.int .i64 t, .int .i64 i, .slice o n c] 38)).alloc (.cells #[.int .i64 t2, .int .i64 i2, .slice o2 n2 c2] 38)) := by
    have h := (Below.refl w.heap.size w).alloc (Nat.le_refl _) (.cells #[.int .i64 t, .int .i64 i, .slice o n c] 38)
    exact h.alloc h.size _
  have HB := hide bW
  have HQ : Hid (Calls Try.prog 142 #[.slice o n c, .slice o2 n2 c2] ((w.alloc (.cells #[.int .i64 t, .int .i64 i, .slice o n c] 38)).alloc (.cells #[.int .i64 t2, .int .i64 i2, .slice o2 n2 c2] 38)) fun e w' => e = .returned (.bool (decide (xs = ys))) ∧ w' = ((w.alloc (.cells #[.int .i64 t, .int .i64 i, .slice o n c] 38)).alloc (.cells #[.int .i64 t2, .int .i64 i2, .slice o2 n2 c2] 38))) := equal_any _ M (hI.below bW) xs ys o o2 n c n2 c2 h1 h2
  clear bW hI h1 h2
  by_cases ht : t = t2
  · subst ht
    by_cases hi : i = i2
    · subst hi
      rw [show (decide (t = t) && (decide (i = i) && decide (xs = ys))) = decide (xs = ys) from by simp]
      go_enter Try.func119, Try.ntmps119
      go_wp2_with (go_at_call 142; refine HQ.out.mono ?_; rintro e w' ⟨rfl, hw'⟩; subst hw')
      go_ret
      exact ⟨rfl, HB.out⟩
    · have hi' : ((i : Int) == i2) = false := by simp; omega
      rw [show (decide (t = t) && (decide (i = i2) && decide (xs = ys))) = false from by simp [hi]]
      clear hi
      go_enter Try.func119, Try.ntmps119
      go_wp2
      go_ret
      exact ⟨rfl, HB.out⟩
  · have ht' : ((t : Int) == t2) = false := by simp; omega
    rw [show (decide (t = t2) && (decide (i = i2) && decide (xs = ys))) = false from by simp [ht]]
    clear ht
    go_enter Try.func119, Try.ntmps119
    go_wp2
    go_ret
    exact ⟨rfl, HB.out⟩
theorem same_any (w : World) (M : Fz) (hI : In M w) (r r2 : Rc) (o o2 : Option Addr) (n c n2 c2 : Nat) (h1 : BytesM M (.slice o n c) r.data) (h2 : BytesM M (.slice o2 n2 c2) r2.data) :
    Calls Try.prog 119 #[.agg #[.int .i64 r.term, .int .i64 r.index, .slice o n c], .agg #[.int .i64 r2.term, .int .i64 r2.index, .slice o2 n2 c2]] w fun e w' => e = .returned (.bool (decide (r = r2))) ∧ Below w.heap.size w w' := by
  have e : decide (r = r2) = (decide (r.term = r2.term) && (decide (r.index = r2.index) && decide (r.data = r2.data))) := by
    cases r; cases r2
    simp [Bool.decide_and]
  rw [e]
  exact same_core w M hI r.term r.index r2.term r2.index r.data r2.data o o2 n c n2 c2 h1 h2
end Go.Proofs.Ytklkglbimjajnaa.same
namespace Go.Proofs.Ytklkglbimjajnaa.lookb
open Go.ChangeShapes Go.WideShapes Go.ChangeAt Go.RowKit
open Raft mem grp Ytklkglbimjajnaa.look ndw grant post postb note same clone
section
variable {w : World} {M : Fz} {O : Lb} {d hd : Nat} {nb : List Nat} {c : Cl} {pv cv : Value} {bs : List Nat} {us : List MV} {cs : List RV}
theorem Gr.choose (h : Gr w M O d hd nb c pv cv bs us cs) {W w2 : World} (hW : Below w.heap.size w W) {g n cap : Nat} {y : RV} (hy : BytesM M y.dv y.r.data ∧ y.r.data.length ≤ 1000)
    (hO : w2.ownsRow 0 38 3 (.slice (some ⟨g, 0, none⟩) n cap) (cs.length + 1) (cs.flatMap recCells ++ recCells y)) (hG : W.grownBy w2 cv.ownBlock) (hg : cv.ownBlock = some g ∨ g = W.heap.size) :
    ∃ O', Aft (fun l => l < 3) M O w M O' (w2.setCell ⟨d, 3, none⟩ (.slice (some ⟨g, 0, none⟩) n cap)) ∧ Gr (w2.setCell ⟨d, 3, none⟩ (.slice (some ⟨g, 0, none⟩) n cap)) M O' d hd nb { c with chosen := c.chosen ++ [y.r] } pv (.slice (some ⟨g, 0, none⟩) n cap) bs us (cs ++ [y]) := by
  have hsz := hW.size
  have hdl := Gr.lt h
  have a1 : Aft (fun l => l < 3) M O w M O W := (Aft.refl _ h.st).below hW
  have a2 : Aft (fun l => l < 3) M O w M O w2 := a1.grown hG (fun b hb => ⟨1, h.chos.lab b hb, by decide⟩)
  have hgl : g < w2.heap.size := (row_lt hO rfl).2
  obtain ⟨O', a3, hOg, hOx⟩ : ∃ O', Aft (fun l => l < 3) M O w M O' w2 ∧ O' g = some 1 ∧ ∀ x l, O x = some l → O' x = some l := by
    rcases hg with hg | hg
    · exact ⟨O, a2, h.chos.lab g hg, fun _ _ hx => hx⟩
    · refine ⟨lab O g 1, a2.label (by omega) hgl (h.st.inn.fresh (by omega)) (by decide), lab_at _ _ _, fun x l hx => ?_⟩
      rw [lab_ne O 1 (by have := (h.st.ok x l hx).2; omega)]; exact hx
  have a4 := a3.set (b := d) (l := 0) (hOx d 0 h.own) (by decide) 3 (.slice (some ⟨g, 0, none⟩) n cap)
  have hgd : g ≠ d := fun e => by rw [e, hOx d 0 h.own] at hOg; cases hOg
  have hdc : cv.ownBlock ≠ some d := fun e => by have := h.chos.lab d e; rw [h.own] at this; cases this
  have hd2 : w2.heap[d]? = some (.cells #[.pointer (some ⟨hd, 0, none⟩), .int .i64 us.length, pv, cv, .bool c.conflict] 105 (0, 0)) := ((hG.block d (by omega) (fun e => hdc e.symm)).trans (hW.block d hdl)).trans h.blk
  refine ⟨O', a4, h.part (c' := { c with chosen := c.chosen ++ [y.r] }) a4 rfl (set_at hd2 3 _ rfl) ?_ h.nets ⟨?_, fun g' hg' => ?_, fun x hx => ?_⟩ ?_⟩
  · refine h.post.keep (fun x hx => ?_) (Le.refl _) (fun x hx => hOx x 2 hx)
    rw [Below.heap_setCell _ _ _ x (fun e => by have e : x = d := e; rw [e, h.own] at hx; cases hx)]
    exact (hG.block x (by have := (h.st.ok x 2 hx).2; omega) (fun e => by have := h.chos.lab x e.symm; rw [hx] at this; cases this)).trans (hW.block x (h.st.ok x 2 hx).2)
  · have h1 : w2.ownsRow 0 38 3 (.slice (some ⟨g, 0, none⟩) n cap) (cs ++ [y]).length ((cs ++ [y]).flatMap recCells) := by simpa using hO
    exact row_kept h1 fun g' hg' => Below.heap_setCell _ _ _ g' (by
      simp only [Value.ownBlock, Option.some.injEq] at hg'
      show g' ≠ d
      omega)
  · simp only [Value.ownBlock, Option.some.injEq] at hg'
    subst hg'; exact hOg
  · rcases List.mem_append.1 hx with hx | hx
    · exact h.chos.data x hx
    · simp only [List.mem_singleton] at hx
      subst hx; exact hy
  · rw [List.map_append, h.chosen]; rfl
theorem Gr.clash (h : Gr w M O d hd nb c pv cv bs us cs) : Gr (w.setCell ⟨d, 4, none⟩ (.bool true)) M O d hd nb { c with conflict := true } pv cv bs us cs ∧ Aft (fun l => l < 3) M O w M O (w.setCell ⟨d, 4, none⟩ (.bool true)) := by
  have a := (Aft.refl (fun l => l < 3) h.st).set (b := d) (l := 0) h.own (by decide) 4 (.bool true)
  refine ⟨h.part (c' := { c with conflict := true }) a rfl (set_at h.blk 4 _ rfl) ?_ h.nets ?_ h.chosen, a⟩
  · exact h.post.keep (fun x hx => Below.heap_setCell _ _ _ x (fun e => by have e : x = d := e; rw [e, h.own] at hx; cases hx)) (Le.refl _) (fun _ hx => hx)
  · exact h.chos.keep (fun x hx => Below.heap_setCell _ _ _ x (fun e => by have e : x = d := e; rw [e, h.own] at hx; cases hx)) (Le.refl _) (fun _ hx => hx)
theorem Gr.chosenCell (h : Gr w M O d hd nb c pv cv bs us cs) {i : Nat} {y : RV} (hy : cs[i]? = some y) : ∃ g cap o n lc, cv = .slice (some ⟨g, 0, none⟩) cs.length cap ∧ cap ≤ maxLen ∧ cs.length ≤ cap ∧ w.cell? ⟨g, i * 3, none⟩ = some (.int .i64 y.r.term) ∧ w.cell? ⟨g, i * 3 + 1, none⟩ = some (.int .i64 y.r.index) ∧ w.cell? ⟨g, i * 3 + 2, none⟩ = some (.slice o n lc) ∧ BytesM M (.slice o n lc) y.r.data := by
  have hlt := (List.getElem?_eq_some_iff.1 hy).1
  obtain ⟨g, cap, e, h1, h2, h3, h4⟩ := own_at h.chos.row (by omega)
  have hf := fun j hj => flat_get recCells 3 recCells_len cs i j y hy hj
  obtain ⟨q1, q2⟩ := h.chos.data y (List.mem_iff_getElem?.2 ⟨i, hy⟩)
  obtain ⟨⟨ao, cp, e2, _⟩, _⟩ := id q1
  refine ⟨g, cap, ao, _, cp, e, h2, h1, ?_, ?_, ?_, by rw [← e2]; exact q1⟩
  · have := h3 (i * 3 + 0) (.int .i64 y.r.term) (by rw [hf 0 (by decide)]; rfl)
    simpa using this
  · exact h3 (i * 3 + 1) (.int .i64 y.r.index) (by rw [hf 1 (by decide)]; rfl)
  · rw [← e2]; exact h3 (i * 3 + 2) y.dv (by rw [hf 2 (by decide)]; rfl)
end
def LDid (M : Fz) (O : Lb) (w : World) (d : Nat) (nb : List Nat) (c' : Cl) (w' : World) : Prop := ∃ M' O', Aft (fun l => l < 3) M O w M' O' w' ∧ G w' M' O' d nb c'
end Go.Proofs.Ytklkglbimjajnaa.lookb
namespace Go.Proofs.Ytklkglbimjajnaa.lookc
open Go.ChangeShapes Go.WideShapes Go.ChangeAt Go.RowKit
open Raft mem grp Ytklkglbimjajnaa.look ndw grant post postb note same clone lookb
def cn (c : Cl) (l : List Rc) (i : Nat) : Cl := { c with chosen := (noteN l i (c.chosen, c.conflict)).1, conflict := (noteN l i (c.chosen, c.conflict)).2 }
theorem at_of {w w' : World} {a : Addr} {v : Value} (h : Below w.heap.size w w') (hc : w.cell? a = some v) : w'.cell? a = some v := by
  rw [World.cell?_of_block (h.block _ (World.block_lt_of_cell? w a hc))]
  exact hc
theorem log_far {w : World} {M : Fz} {O : Lb} {b k : Nat} {p : Peer} {us : List RV} {lo : Option Addr} {lc : Nat} {vv nv mv : Value} (st : Sta M O w) (h : Nd w M O b k p us (.slice lo p.log.length lc) vv nv mv) {i : Nat} {r : Rc} (hi : p.log[i]? = some r) :
    ∃ g o n c, lo = some ⟨g, 0, none⟩ ∧ ∀ wr M' O', Aft (fun l => l < 3) M O w M' O' wr → (wr.cell? ⟨g, i * 3, none⟩ = some (.int .i64 r.term) ∧ wr.cell? ⟨g, i * 3 + 1, none⟩ = some (.int .i64 r.index) ∧ wr.cell? ⟨g, i * 3 + 2, none⟩ = some (.slice o n c)) ∧ BytesM M' (.slice o n c) r.data ∧ r.data.length ≤ 1000 := by
  obtain ⟨g, cap, o, n, c, e, _, _, q0, q1, q2, q3, q4⟩ := Nd.logc h hi
  simp only [Value.slice.injEq] at e
  refine ⟨g, o, n, c, e.1, fun wr M' O' a => ?_⟩
  have hg : O g = some (3 + k) := h.lab (.slice lo p.log.length lc) (by simp) g (by rw [e.1]; rfl)
  have hk := keep_of st a (by omega) g hg
  refine ⟨⟨?_, ?_, ?_⟩, q3.le a.le, q4⟩
  · rw [World.cell?_of_block (a := ⟨g, i * 3, none⟩) hk]; exact q0
  · rw [World.cell?_of_block (a := ⟨g, i * 3 + 1, none⟩) hk]; exact q1
  · rw [World.cell?_of_block (a := ⟨g, i * 3 + 2, none⟩) hk]; exact q2
set_option maxRecDepth 20000 in
set_option maxHeartbeats 8000000 in
theorem look_any (w : World) (M : Fz) (O : Lb) (d : Nat) (nb : List Nat) (c : Cl) (h : G w M O d nb c) (k b : Nat) (hb : nb[k]? = some b) (hcm : (c.at k).commit ≤ (c.at k).log.length) (hl : (c.at k).log.length ≤ 1000) (hch : c.chosen.length ≤ 1000) :
    Calls Try.prog 147 #[.pointer (some ⟨d, 0, none⟩), .pointer (some ⟨b, 0, none⟩)] w fun r w' => r = .returned (.tuple #[]) ∧ LDid M O w d nb (c.note k) w' := by
  have st := h.sta
  obtain ⟨us, lv, vv, nv, mv, hn⟩ := h.at hb
  obtain ⟨lo, lc, vo, vc, no, nc, mo, mc, rfl, rfl, rfl, rfl, hlc1, hlc2⟩ := Nd.sl hn
  obtain ⟨⟨_, _, c2, _, _, c5, _⟩, _⟩ := Nd.cs hn
  obtain ⟨C, hC⟩ : ∃ C, C = (c.at k).commit := ⟨_, rfl⟩
  obtain ⟨L, hL⟩ : ∃ L, L = (c.at k).log.length := ⟨_, rfl⟩
  obtain ⟨l, hll⟩ : ∃ l, l = (c.at k).log.take C := ⟨_, rfl⟩
  have hlC : l.length = C := by rw [hll, List.length_take]; omega
  have HNt : Hid (c.note k = cn c l C) := by
    unfold Hid
    rw [note_eq, ← hC, ← hll, hlC]
    rfl
  have HCell : Hid (∀ i, i < C → ∃ g r o n c', lo = some ⟨g, 0, none⟩ ∧ l[i]? = some r ∧ ∀ wr M' O', Aft (fun l => l < 3) M O w M' O' wr → (wr.cell? ⟨g, i * 3, none⟩ = some (.int .i64 r.term) ∧ wr.cell? ⟨g, i * 3 + 1, none⟩ = some (.int .i64 r.index) ∧ wr.cell? ⟨g, i * 3 + 2, none⟩ = some (.slice o n c')) ∧ BytesM M' (.slice o n c') r.data ∧ r.data.length ≤ 1000) := fun i hi => by
    obtain ⟨r, hr⟩ : ∃ r, (c.at k).log[i]? = some r := ⟨_, List.getElem?_eq_getElem (by omega)⟩
    obtain ⟨g, o, n, c', e, hf⟩ := log_far st hn hr
    exact ⟨g, r, o, n, c', e, by rw [hll, List.getElem?_take_of_lt hi]; exact hr, hf⟩
  have H0 : Hid (LDid M O w d nb (cn c l 0) w) := ⟨M, O, Aft.refl _ st, h⟩
  have hCI : (C : Int) ≤ L := by omega
  have hL1 : L ≤ 1000 := by omega
  have HCh : Hid (l.length = C ∧ c.chosen.length ≤ 1000) := ⟨hlC, hch⟩
  rw [HNt.out]
  rw [← hC] at c5
  rw [← hL] at c2
  have hlcI : L ≤ lc := by omega
  clear hn h st hcm hl hlC hll hL hC hlc1 HNt
  go_enter Try.func147, Try.ntmps147
  go_wp2
  go_quiet (fail)
  go_wp2
  have H0' : Hid (LDid M O w d nb (cn c l 0) (w.drewN nq)) := by
    obtain ⟨M', O', a, g⟩ := H0.out
    exact ⟨M', O', a.below (drewN_below w nq), g.below (drewN_below w nq)⟩
  clear H0
  go_loopw [17] (fun iv wr => ∃ i : Nat, i ≤ C ∧ iv = .int .i64 i ∧ Hid (LDid M O w d nb (cn c l i) wr)) (fun iv _ => C - (intOf iv).toNat)
  case atStart => exact ⟨0, Nat.zero_le _, rfl, H0'⟩
  case round =>
    obtain ⟨i, hi, rfl, HI⟩ := hrel
    by_cases hlt : i < C
    · have hltI : (i : Int) < C := by omega
      obtain ⟨g, r, ro, rn, rc, rfl, hr, hfar⟩ := HCell.out i hlt
      obtain ⟨M1, O1, a1, hd1, pv, cv, bs, us1, cs1, h1⟩ := HI.out
      obtain ⟨⟨q0, q1, q2⟩, qb, qd⟩ := hfar wr M1 O1 a1
      obtain ⟨co, cc, ecv⟩ := own_slice h1.chos.row
      subst ecv
      obtain ⟨W1, hW1⟩ : ∃ W1, wr.alloc (.cells #[.int .i64 r.term, .int .i64 r.index, .slice ro rn rc] 38) = W1 := ⟨_, rfl⟩
      have b1 : Below wr.heap.size wr W1 := by rw [← hW1]; exact more (Below.refl _ _) _
      have hbox : W1.heap[wr.heap.size]? = some (.cells #[.int .i64 r.term, .int .i64 r.index, .slice ro rn rc] 38 (0, 0)) := by rw [← hW1]; exact heap_alloc_new wr _
      have hG1 : Gr W1 M1 O1 d hd1 nb (cn c l i) pv (.slice co cs1.length cc) bs us1 cs1 := h1.keep ((Aft.refl _ h1.st).below b1)
      obtain ⟨⟨_, _, _, d3, d4⟩, ⟨_, _, _, f3, f4⟩⟩ := Gr.ca hG1
      have hlen1 : cs1.length = (noteN l i (c.chosen, c.conflict)).1.length := by
        have := congrArg List.length h1.chosen
        simpa [cn] using this
      have hnl := (noteN_len l (c.chosen, c.conflict) i (by have := HCh.out.1; omega)).2
      have hcsb : cs1.length ≤ 3000 := by
        have e9 := noteN_eq l c.chosen c.conflict i (by have := HCh.out.1; omega)
        rw [hlen1, e9]
        have := HCh.out
        simp
        omega
      have hcap := (own_cap h1.chos.row).2.2
      unfold maxLen at hcap
      have hdlt := Gr.lt h1
      have hdne : ¬ (d = wr.heap.size) := by omega
      have hdne2 : ¬ (wr.heap.size = d) := by omega
      by_cases hq : i = cs1.length
      · obtain ⟨i0, hii, hz0, hz1, hz2⟩ := info_parts info35
        have HI3 : Hid (Try.prog.info? 38 = some i0 ∧ i0.zero = some (.agg #[.int .i64 0, .int .i64 0, .slice none 0 0]) ∧ i0.size = 3 ∧ i0.bytes = 40) := ⟨hii, hz0, hz1, hz2⟩
        have s0 := cell_of (i := 0) hbox (v := .int .i64 r.term) rfl
        have s1 := cell_of (i := 1) hbox (v := .int .i64 r.index) rfl
        have s2 := cell_of (i := 2) hbox (v := .slice ro rn rc) rfl
        have s0a : ∀ ob, (W1.alloc ob).cell? ⟨wr.heap.size, 0, none⟩ = some (.int .i64 r.term) := fun ob => at_of (more (Below.refl _ _) ob) s0
        have s1a : ∀ ob, (W1.alloc ob).cell? ⟨wr.heap.size, 1, none⟩ = some (.int .i64 r.index) := fun ob => at_of (more (Below.refl _ _) ob) s1
        have s2a : ∀ ob, (W1.alloc ob).cell? ⟨wr.heap.size, 2, none⟩ = some (.slice ro rn rc) := fun ob => at_of (more (Below.refl _ _) ob) s2
        have d3a : ∀ ob, (W1.alloc ob).cell? ⟨d, 3, none⟩ = some (.slice co cs1.length cc) := fun ob => at_of (more (Below.refl _ _) ob) d3
        have HRow : Hid (((W1.alloc (.cells #[.int .i64 r.term, .int .i64 r.index, .slice ro rn rc] 38)).drew).ownsRow 0 38 3 (.slice co cs1.length cc) cs1.length (cs1.flatMap recCells)) := row_kept hG1.chos.row fun g' hg' => (more (Below.refl _ _) (.cells #[.int .i64 r.term, .int .i64 r.index, .slice ro rn rc] 38)).block g' (row_lt hG1.chos.row hg').2
        have HNw : Hid (∀ (j : Nat) (u : Value), ([.int .i64 r.term, .int .i64 r.index, .slice ro rn rc] : List Value)[j]? = some u → ((W1.alloc (.cells #[.int .i64 r.term, .int .i64 r.index, .slice ro rn rc] 38)).drew).cell? ((⟨W1.heap.size, 0, none⟩ : Addr).add j) = some u) := fun j u hu => by
          rw [addr_add, Nat.zero_add]
          have h7 : (W1.alloc (.cells #[.int .i64 r.term, .int .i64 r.index, .slice ro rn rc] 38)).cell? ⟨W1.heap.size, j, none⟩ = some u := cell_of (heap_alloc_new W1 _) (by simpa using hu)
          exact h7
        have HD : Hid (∀ (w2 : World), ((W1.alloc (.cells #[.int .i64 r.term, .int .i64 r.index, .slice ro rn rc] 38)).drew).grownBy w2 (Value.slice co cs1.length cc).ownBlock → w2.heap[d]? = W1.heap[d]?) := fun w2 hg => (hg.block d (by have := b1.size; have := (more (Below.refl _ W1) (.cells #[.int .i64 r.term, .int .i64 r.index, .slice ro rn rc] 38)).size; have e7 : ((W1.alloc (.cells #[.int .i64 r.term, .int .i64 r.index, .slice ro rn rc] 38)).drew).heap.size = (W1.alloc (.cells #[.int .i64 r.term, .int .i64 r.index, .slice ro rn rc] 38)).heap.size := rfl; omega) (fun e => by have := h1.chos.lab d e.symm; rw [h1.own] at this; cases this)).trans ((more (Below.refl _ _) (.cells #[.int .i64 r.term, .int .i64 r.index, .slice ro rn rc] 38)).block d (by have := b1.size; omega))
        have HDb := hide hG1.blk
        have HFin : Hid (∀ (w2 : World) (g2 n2 cap2 : Nat), ((W1.alloc (.cells #[.int .i64 r.term, .int .i64 r.index, .slice ro rn rc] 38)).drew).grownBy w2 (Value.slice co cs1.length cc).ownBlock → w2.ownsRow 0 38 3 (.slice (some ⟨g2, 0, none⟩) n2 cap2) (cs1.length + 1) (cs1.flatMap recCells ++ [.int .i64 r.term, .int .i64 r.index, .slice ro rn rc]) → ((Value.slice co cs1.length cc).ownBlock = some g2 ∨ g2 = ((W1.alloc (.cells #[.int .i64 r.term, .int .i64 r.index, .slice ro rn rc] 38)).drew).heap.size) → LDid M O w d nb (cn c l (i + 1)) (w2.setCell ⟨d, 3, none⟩ (.slice (some ⟨g2, 0, none⟩) n2 cap2))) := fun w2 g2 n2 cap2 p1 p2 p3 => by
          have hB : Below wr.heap.size wr ((W1.alloc (.cells #[.int .i64 r.term, .int .i64 r.index, .slice ro rn rc] 38)).drew) := (b1.alloc b1.size _).drew
          obtain ⟨O', a5, h5⟩ := Gr.choose h1 hB (y := ⟨r, .slice ro rn rc⟩) ⟨qb, qd⟩ p2 p1 p3
          refine ⟨M1, O', a1.trans a5, hd1, pv, .slice (some ⟨g2, 0, none⟩) n2 cap2, bs, us1, cs1 ++ [⟨r, .slice ro rn rc⟩], ?_⟩
          have e9 : cn c l (i + 1) = { cn c l i with chosen := (cn c l i).chosen ++ [r] } := by
            unfold cn
            rw [noteN_new hr (by rw [← hlen1]; exact hq)]
          rw [e9]
          exact h5
        have hqI : ((i : Int) == (cs1.length : Int)) = true := by simp; omega
        have hN : cs1.length ≤ 3000 := hcsb
        clear hii hz0 hz1 hz2 h1 hG1 a1 HI hfar hlen1 hnl hcsb hr qb b1 HCell HCh
        clear hq
        generalize cs1.length = N at *
        go_wp2
        go_region_law (first
          | (refine step_append_lies _ rfl _ _ 28 rfl 0 38 i0 (.agg #[.int .i64 0, .int .i64 0, .slice none 0 0]) 3 40 Try.underlying28 HI3.out.1 HI3.out.2.1 HI3.out.2.2.1 HI3.out.2.2.2 rfl (by decide) _ N (cs1.flatMap recCells) rfl HRow.out ⟨W1.heap.size, 0, none⟩ 1 1 [.int .i64 r.term, .int .i64 r.index, .slice ro rn rc] rfl rfl HNw.out (fun u' hu' => by simp only [List.mem_cons, List.not_mem_nil, or_false] at hu'; rcases hu' with rfl | rfl | rfl <;> rfl) (by decide) (by unfold maxLen; omega) (by omega) (Nat.zero_le _) _ rfl ?_
             intro g2 cap2 w2 O2 G2 hg2 hgl2
             have HN2 := hide (HFin.out w2 g2 _ cap2 G2 O2 hg2)
             have k2 := (HD.out w2 G2).trans HDb.out
             have t0 := cell_of (i := 3) k2 (v := .slice co N cc) rfl
             have t1 := frozen_of k2 3
             clear O2 G2 hg2 hgl2 k2))
        all_goals
          go_wp2
          go_roundw
          case rel => exact ⟨i + 1, by omega, by go_num, HN2⟩
          case measure => simp [intOf]; omega
      · have hqI : ((i : Int) == (cs1.length : Int)) = false := by simp; omega
        have hil : i < cs1.length := by omega
        have hilI : (i : Int) < cs1.length := by omega
        obtain ⟨y, hy⟩ : ∃ y, cs1[i]? = some y := ⟨_, List.getElem?_eq_getElem hil⟩
        obtain ⟨g2, cap2, yo, yn, yc, ecv, _, _, p0, p1, p2, hyb⟩ := Gr.chosenCell hG1 hy
        simp only [Value.slice.injEq, true_and] at ecv
        obtain ⟨rfl, rfl⟩ := ecv
        have e7 := noteN_old (s := (c.chosen, c.conflict)) (z := y.r) hr (by omega) (by
          have e9 := h1.chosen
          simp only [cn] at e9
          rw [← e9, List.getElem?_map, hy]; rfl)
        have HS7 : Hid (∀ wx, Below W1.heap.size W1 wx → ((wx.cell? ⟨d, 3, none⟩ = some (.slice (some ⟨g2, 0, none⟩) cs1.length cc) ∧ (wx.cell? ⟨wr.heap.size, 0, none⟩ = some (.int .i64 r.term) ∧ wx.cell? ⟨wr.heap.size, 1, none⟩ = some (.int .i64 r.index) ∧ wx.cell? ⟨wr.heap.size, 2, none⟩ = some (.slice ro rn rc)) ∧ (wx.cell? ⟨g2, i * 3, none⟩ = some (.int .i64 y.r.term) ∧ wx.cell? ⟨g2, i * 3 + 1, none⟩ = some (.int .i64 y.r.index) ∧ wx.cell? ⟨g2, i * 3 + 2, none⟩ = some (.slice yo yn yc))) ∧ Below W1.heap.size W1 wx)) := fun wx hb => by
          have hk := kept hb hbox (Nat.le_refl _)
          exact ⟨⟨at_of hb d3, ⟨cell_of hk rfl, cell_of hk rfl, cell_of hk rfl⟩, at_of hb p0, at_of hb p1, at_of hb p2⟩, hb⟩
        by_cases hyr : y.r = r
        · skip
          have HNx : Hid (∀ w4, Below W1.heap.size W1 w4 → LDid M O w d nb (cn c l (i + 1)) w4) := fun w4 hb4 => by
            have e9 : cn c l (i + 1) = cn c l i := by
              unfold cn
              rw [e7, hyr]
              simp
            rw [e9]
            exact ⟨M1, O1, (a1.below b1).below hb4, hd1, pv, _, bs, us1, cs1, hG1.keep ((Aft.refl _ hG1.st).below hb4)⟩
          have HSm : Hid (∀ wx, Below W1.heap.size W1 wx → Calls Try.prog 119 #[.agg #[.int .i64 r.term, .int .i64 r.index, .slice ro rn rc], .agg #[.int .i64 y.r.term, .int .i64 y.r.index, .slice yo yn yc]] wx fun e w' => e = .returned (.bool true) ∧ Below W1.heap.size W1 w') := fun wx hb => by
            refine (same_any wx M1 (hG1.st.inn.below hb) r y.r ro yo rn rc yn yc qb hyb).mono ?_
            rintro e w' ⟨rfl, hb'⟩
            exact ⟨by simp [hyr], hb.trans (hb'.mono hb.size)⟩
          clear h1 hG1 a1 HI hfar hlen1 hnl hcsb hr qb b1 HCell HCh hyb e7 hyr hy hbox
          generalize cs1.length = N at *
          go_wp2
          go_region_held_law (fun wx => (wx.cell? ⟨d, 3, none⟩ = some (.slice (some ⟨g2, 0, none⟩) N cc) ∧ (wx.cell? ⟨wr.heap.size, 0, none⟩ = some (.int .i64 r.term) ∧ wx.cell? ⟨wr.heap.size, 1, none⟩ = some (.int .i64 r.index) ∧ wx.cell? ⟨wr.heap.size, 2, none⟩ = some (.slice ro rn rc)) ∧ (wx.cell? ⟨g2, i * 3, none⟩ = some (.int .i64 y.r.term) ∧ wx.cell? ⟨g2, i * 3 + 1, none⟩ = some (.int .i64 y.r.index) ∧ wx.cell? ⟨g2, i * 3 + 2, none⟩ = some (.slice yo yn yc))) ∧ Below W1.heap.size W1 wx)
            ((refine HS7.out _ ?_; first | assumption | exact Below.refl _ _ | exact (Below.refl _ _).drew))
            (first | (go_at_call 119; refine (HSm.out _ (by first | exact Below.refl _ _ | exact (Below.refl _ _).drew)).mono ?_; rintro rr w4 ⟨rfl, hb4⟩))
          all_goals
            have HN4 := hide (HNx.out w4 hb4)
            go_wp2
            go_roundw
            case rel => exact ⟨i + 1, by omega, by go_num, HN4⟩
            case measure => simp [intOf]; omega
        · skip
          have HNx : Hid (∀ w4, Below W1.heap.size W1 w4 → LDid M O w d nb (cn c l (i + 1)) (w4.setCell ⟨d, 4, none⟩ (.bool true)) ∧ w4.cell? ⟨d, 4, none⟩ = some (.bool (cn c l i).conflict) ∧ w4.frozen? ⟨d, 4, none⟩ = false) := fun w4 hb4 => by
            have e9 : cn c l (i + 1) = { cn c l i with conflict := true } := by
              unfold cn
              rw [e7]
              simp [hyr]
            have h4 : Gr w4 M1 O1 d hd1 nb (cn c l i) pv (.slice (some ⟨g2, 0, none⟩) cs1.length cc) bs us1 cs1 := hG1.keep ((Aft.refl _ hG1.st).below hb4)
            rw [e9]
            obtain ⟨h5, a5⟩ := Gr.clash h4
            exact ⟨⟨M1, O1, ((a1.below b1).below hb4).trans a5, hd1, pv, _, bs, us1, cs1, h5⟩, (Gr.ca h4).1.2.2.2.2, (Gr.ca h4).2.2.2.2.2⟩
          have HSm : Hid (∀ wx, Below W1.heap.size W1 wx → Calls Try.prog 119 #[.agg #[.int .i64 r.term, .int .i64 r.index, .slice ro rn rc], .agg #[.int .i64 y.r.term, .int .i64 y.r.index, .slice yo yn yc]] wx fun e w' => e = .returned (.bool false) ∧ Below W1.heap.size W1 w') := fun wx hb => by
            refine (same_any wx M1 (hG1.st.inn.below hb) r y.r ro yo rn rc yn yc qb hyb).mono ?_
            rintro e w' ⟨rfl, hb'⟩
            exact ⟨by have h8 : ¬ (r = y.r) := fun e => hyr e.symm; simp [h8], hb.trans (hb'.mono hb.size)⟩
          clear h1 hG1 a1 HI hfar hlen1 hnl hcsb hr qb b1 HCell HCh hyb e7 hyr hy hbox
          generalize cs1.length = N at *
          go_wp2
          go_region_held_law (fun wx => (wx.cell? ⟨d, 3, none⟩ = some (.slice (some ⟨g2, 0, none⟩) N cc) ∧ (wx.cell? ⟨wr.heap.size, 0, none⟩ = some (.int .i64 r.term) ∧ wx.cell? ⟨wr.heap.size, 1, none⟩ = some (.int .i64 r.index) ∧ wx.cell? ⟨wr.heap.size, 2, none⟩ = some (.slice ro rn rc)) ∧ (wx.cell? ⟨g2, i * 3, none⟩ = some (.int .i64 y.r.term) ∧ wx.cell? ⟨g2, i * 3 + 1, none⟩ = some (.int .i64 y.r.index) ∧ wx.cell? ⟨g2, i * 3 + 2, none⟩ = some (.slice yo yn yc))) ∧ Below W1.heap.size W1 wx)
            ((refine HS7.out _ ?_; first | assumption | exact Below.refl _ _ | exact (Below.refl _ _).drew))
            (first | (go_at_call 119; refine (HSm.out _ (by first | exact Below.refl _ _ | exact (Below.refl _ _).drew)).mono ?_; rintro rr w4 ⟨rfl, hb4⟩))
          all_goals
            obtain ⟨hn4, k3, k4⟩ := HNx.out w4 hb4
            have HN4 := hide hn4
            clear hn4
            go_wp2
            go_roundw
            case rel => exact ⟨i + 1, by omega, by go_num, HN4⟩
            case measure => simp [intOf]; omega
    · have hltI : ¬ (i : Int) < C := by omega
      obtain rfl : i = C := by omega
      go_wp2
      go_end0
      exact ⟨rfl, HI.out⟩
end Go.Proofs.Ytklkglbimjajnaa.lookc
namespace Go.Proofs.Ytklkglbimjajnaa.logs
open Go.ChangeShapes Go.WideShapes Go.ChangeAt Go.RowKit
open Raft mem grp Ytklkglbimjajnaa.look ndw grant stand rows2 clone lookc
section
variable {w W w2 : World} {M : Fz} {O : Lb} {b k : Nat} {p : Peer} {us : List RV} {lv vv nv mv : Value}
theorem NDid.push (st : Sta M O w) (h : Nd w M O b k p us lv vv nv mv) (hW : Below w.heap.size w W) {g n cap : Nat} {y : RV} (hy : BytesM M y.dv y.r.data ∧ y.r.data.length ≤ 1000)
    (hO : w2.ownsRow 0 38 3 (.slice (some ⟨g, 0, none⟩) n cap) (us.length + 1) (us.flatMap recCells ++ recCells y)) (hG : W.grownBy w2 lv.ownBlock) (hg : lv.ownBlock = some g ∨ g = W.heap.size) :
    NDid M O w b k { p with log := p.log ++ [y.r] } (w2.setCell ⟨b, 2, none⟩ (.slice (some ⟨g, 0, none⟩) n cap)) := by
  have hsz := hW.size
  have hbl := (st.ok b _ h.own).2
  have a1 : Aft (· = 3 + k) M O w M O W := (Aft.refl _ st).below hW
  have a2 : Aft (· = 3 + k) M O w M O w2 := a1.grown hG (fun x hx => ⟨3 + k, h.lab lv (by simp) x hx, rfl⟩)
  have hgl : g < w2.heap.size := (row_lt hO rfl).2
  obtain ⟨O', a3, hOg, hOx⟩ : ∃ O', Aft (· = 3 + k) M O w M O' w2 ∧ O' g = some (3 + k) ∧ ∀ x l, O x = some l → O' x = some l := by
    rcases hg with hg | hg
    · exact ⟨O, a2, h.lab lv (by simp) g hg, fun _ _ hx => hx⟩
    · refine ⟨lab O g (3 + k), a2.label (by omega) hgl (st.inn.fresh (by omega)) rfl, lab_at _ _ _, fun x l hx => ?_⟩
      rw [lab_ne O (3 + k) (by have := (st.ok x l hx).2; omega)]; exact hx
  have a4 := a3.set (b := b) (l := 3 + k) (hOx b _ h.own) rfl 2 (.slice (some ⟨g, 0, none⟩) n cap)
  obtain ⟨n1, n2, n3, n4⟩ := h.ne
  have hb2 : w2.heap[b]? = w.heap[b]? := (hG.block b (by omega) (fun e => n1 e.symm)).trans (hW.block b hbl)
  have hgb : g ≠ b := fun e => by
    rcases hg with hg | hg
    · exact n1 (e ▸ hg)
    · omega
  have hrow : ∀ {e sz : Nat} {v : Value} {m : Nat} {xs : List Value}, w.ownsRow 0 e sz v m xs → e ≠ 38 → v.ownBlock ≠ some b → (w2.setCell ⟨b, 2, none⟩ (.slice (some ⟨g, 0, none⟩) n cap)).ownsRow 0 e sz v m xs := fun hr he hne => row_kept hr fun x hx => by
    have hxl := (row_lt hr hx).2
    rw [setv_keep (g := b) x (fun e => hne (by rw [← e]; exact hx))]
    refine (hG.block x (by omega) (fun e => ?_)).trans (hW.block x hxl)
    obtain ⟨cur, hc⟩ := rowt hr hx
    exact type_ne h.log hc he e.symm
  refine ⟨M, O', a4, us ++ [y], .slice (some ⟨g, 0, none⟩) n cap, vv, nv, mv, ?_⟩
  refine ⟨?_, hOx b _ h.own, ?_, ?_, ?_, hrow h.votes (by decide) n2, hrow h.next (by decide) n3, hrow h.mat (by decide) n4, ?_, h.apart⟩
  · exact set_at (hb2.trans h.blk) 2 _ rfl
  · have h1 : w2.ownsRow 0 38 3 (.slice (some ⟨g, 0, none⟩) n cap) (us ++ [y]).length ((us ++ [y]).flatMap recCells) := by simpa using hO
    exact row_kept h1 fun x hx => setv_keep x (by
      simp only [Value.ownBlock, Option.some.injEq] at hx
      omega)
  · rw [List.map_append, h.recs]; rfl
  · intro x hx
    rcases List.mem_append.1 hx with hx | hx
    · exact h.data x hx
    · simp only [List.mem_singleton] at hx
      subst hx; exact hy
  · intro v hv x hx
    simp only [List.mem_cons, List.not_mem_nil, or_false] at hv
    rcases hv with rfl | rfl | rfl | rfl
    · simp only [Value.ownBlock, Option.some.injEq] at hx
      subst hx; exact hOg
    · exact hOx x _ (h.lab _ (by simp) x hx)
    · exact hOx x _ (h.lab _ (by simp) x hx)
    · exact hOx x _ (h.lab _ (by simp) x hx)
theorem flat_take (us : List RV) (i : Nat) : (us.flatMap recCells).take (i * 3) = (us.take i).flatMap recCells := by
  induction us generalizing i with
  | nil => simp
  | cons x us ih =>
    cases i with
    | zero => simp
    | succ i =>
      rw [List.take_succ_cons, List.flatMap_cons, List.flatMap_cons, Nat.succ_mul, List.take_append]
      have h3 : (recCells x).length = 3 := rfl
      rw [List.take_of_length_le (by omega), h3]
      congr 1
      rw [← ih]
      congr 1
theorem NDid.cut (st : Sta M O w) {lo : Option Addr} {lc : Nat} (h : Nd w M O b k p us (.slice lo us.length lc) vv nv mv) (hW : Below w.heap.size w W) (a : Nat) (ha : a < us.length) : NDid M O w b k { p with log := p.log.take a } (W.setCell ⟨b, 2, none⟩ (.slice lo a lc)) := by
  have hbl := (st.ok b _ h.own).2
  have hW1 : Nd W M O b k p us (.slice lo us.length lc) vv nv mv := h.keep (fun x hx => hW.block x (st.ok x _ hx).2) (Le.refl _) (fun _ hx => hx)
  obtain ⟨n1, n2, n3, n4⟩ := hW1.ne
  have a1 := ((Aft.refl (· = 3 + k) st).below hW).set (b := b) (l := 3 + k) h.own rfl 2 (.slice lo a lc)
  have hob : (Value.slice lo a lc).ownBlock = (Value.slice lo us.length lc).ownBlock := by cases lo <;> rfl
  have hk : ∀ {e sz : Nat} {v : Value} {m : Nat} {xs : List Value}, W.ownsRow 0 e sz v m xs → v.ownBlock ≠ some b → (W.setCell ⟨b, 2, none⟩ (.slice lo a lc)).ownsRow 0 e sz v m xs := fun hr hne => row_kept hr fun x hx => setv_keep x (fun e => hne (e ▸ hx))
  refine ⟨M, O, a1, us.take a, .slice lo a lc, vv, nv, mv, set_at hW1.blk 2 _ rfl, h.own, ?_, ?_, ?_, hk hW1.votes n2, hk hW1.next n3, hk hW1.mat n4, ?_, h.apart⟩
  · have hlog := hk hW1.log n1
    rcases hlog with ⟨h1, ⟨e1, e2⟩ | ⟨g, cap, cur, e1, hb0, hh, hc, hm, hs, ht⟩⟩
    · omega
    · simp only [Value.slice.injEq, true_and] at e1
      obtain ⟨rfl, rfl⟩ := e1
      have hla : (us.take a).length = a := by rw [List.length_take]; omega
      rw [hla]
      refine ⟨by rw [flat_len recCells 3 recCells_len, hla], .inr ⟨g, lc, cur, rfl, hb0, hh, by omega, hm, hs, ?_⟩⟩
      rw [← flat_take, ← ht, List.take_take]
      congr 1
      omega
  · rw [List.map_take, h.recs]
  · exact fun x hx => h.data x (List.mem_of_mem_take hx)
  · intro v hv x hx
    simp only [List.mem_cons, List.not_mem_nil, or_false] at hv
    rcases hv with rfl | rfl | rfl | rfl
    · rw [hob] at hx
      exact h.lab _ (by simp) x hx
    · exact h.lab _ (by simp) x hx
    · exact h.lab _ (by simp) x hx
    · exact h.lab _ (by simp) x hx
end
end Go.Proofs.Ytklkglbimjajnaa.logs

/- The group told. -/
import Derived.Test.YtklkglbimjajnaaGtold
import Derived.Test.YtklkglbimjajnaaLens
import Derived.WalkMore
import Derived.Deep.AppendLies
import Derived.Deep.Cut
import Derived.Deep.CutRange
import Derived.Deep.RegionLaw
namespace Go.Proofs.Ytklkglbimjajnaa.gt8
open Go.ChangeShapes Go.WideShapes Go.ChangeAt Go.RowKit
open Go.Proofs.Ytklkglbimjajnaa.Raft Go.Proofs.Ytklkglbimjajnaa.mem Go.Proofs.Ytklkglbimjajnaa.grp Go.Proofs.Ytklkglbimjajnaa.look Go.Proofs.Ytklkglbimjajnaa.ndw Go.Proofs.Ytklkglbimjajnaa.grant Go.Proofs.Ytklkglbimjajnaa.stand Go.Proofs.Ytklkglbimjajnaa.rows2 Go.Proofs.Ytklkglbimjajnaa.clone Go.Proofs.Ytklkglbimjajnaa.behind Go.Proofs.Ytklkglbimjajnaa.post Go.Proofs.Ytklkglbimjajnaa.copy Go.Proofs.Ytklkglbimjajnaa.msgs Go.Proofs.Ytklkglbimjajnaa.postb Go.Proofs.Ytklkglbimjajnaa.ntold Go.Proofs.Ytklkglbimjajnaa.gtold
set_option linter.unusedVariables false

theorem sets_belowB {B : Nat} {A : World} {b : Nat} (hb : B ≤ b) : ∀ (l : List (Nat × Value)) (W' : World), Below B A W' → Below B A (sets W' b l)
  | [], _, h => h
  | (i, v) :: l, _, h => sets_belowB hb l _ (h.setCell hb v)
/-- The cluster that is told. -/
def CluV (M : Fz) (c : Cl) (pv nv cv : Value) : Prop := ∃ (ps : List PV) (us : List MV), ps.map (·.p) = c.peers ∧ PeersV M pv ps ∧ us.map (·.m) = c.net ∧ MsgsV M nv us ∧ RecsM M cv c.chosen
def CluE (w : World) (M : Fz) (c : Cl) (r : Ending) (w' : World) : Prop :=
  ∃ (p1 : Option Addr) (p2 p3 : Nat) (n1 : Option Addr) (n2 n3 : Nat) (c1 : Option Addr) (c2 c3 : Nat), r = .returned (.agg #[.slice p1 p2 p3, .slice n1 n2 n3, .slice c1 c2 c3, .bool c.conflict]) ∧ ∃ M', FP w M w' M' ∧ CluV M' c (.slice p1 p2 p3) (.slice n1 n2 n3) (.slice c1 c2 c3)
/-- Behind messages. -/
def N1 (W : World) (M : Fz) (c : Cl) (wx w1 : World) (nv : Value) : Prop := ∃ M1 us, FP W M w1 M1 ∧ (∀ b, M1 b ≠ none → M b ≠ none ∨ wx.heap.size ≤ b) ∧ us.map (·.m) = c.net ∧ MsgsV M1 nv us
/-- Behind the chosen records. -/
def N2 (W : World) (M : Fz) (c : Cl) (wx w1 wy w2 : World) (nv cv : Value) : Prop := ∃ M1 M2 us, FP W M w2 M2 ∧ (∀ b, M1 b ≠ none → M b ≠ none ∨ wx.heap.size ≤ b) ∧ In M1 w1 ∧ (∀ b, M2 b ≠ none → M1 b ≠ none ∨ wy.heap.size ≤ b) ∧ us.map (·.m) = c.net ∧ MsgsV M2 nv us ∧ RecsM M2 cv c.chosen
/-- The box that the peers come into. -/
def RB (W : World) (M : Fz) (c : Cl) (bx : Nat) (nv cv : Value) (wx : World) : Prop := ∃ M2 us, FP W M wx M2 ∧ M2 bx = none ∧ bx < wx.heap.size ∧ W.heap.size ≤ bx ∧ wx.heap[bx]? = some (.cells #[.slice none 0 0, nv, cv, .bool c.conflict] 30 (0, 0)) ∧ us.map (·.m) = c.net ∧ MsgsV M2 nv us ∧ RecsM M2 cv c.chosen
theorem RB.set {W : World} {M : Fz} {c : Cl} {wx w1 wy w2 : World} {nv cv : Value} (h : N2 W M c wx w1 wy w2 nv cv) {bx : Nat} (hbx : w2.heap[bx]? = some (.cells #[.slice none 0 0, .slice none 0 0, .slice none 0 0, .bool false] 30 (0, 0))) (h1 : W.heap.size ≤ bx) (h2 : (bx < wx.heap.size ∧ wx.heap.size ≤ wy.heap.size ∧ M bx = none) ∨ (w1.heap.size ≤ bx ∧ bx < wy.heap.size)) :
    RB W M c bx nv cv (sets w2 bx [(0, .slice none 0 0), (1, nv), (2, cv), (3, .bool c.conflict)]) := by
  obtain ⟨M1, M2, us, f, g1, g2, g3, g4, g5, g6⟩ := h
  have hM : M2 bx = none := by
    cases e : M2 bx with
    | none => rfl
    | some o =>
      rcases g3 bx (by rw [e]; simp) with g | g
      · rcases h2 with h2 | h2
        · rcases g1 bx g with g' | g'
          · exact absurd h2.2.2 g'
          · omega
        · exact absurd (g2.fresh h2.1) g
      · rcases h2 with h2 | h2
        · omega
        · omega
  have hlt : bx < w2.heap.size := (Array.getElem?_eq_some_iff.1 hbx).1
  refine ⟨M2, us, ⟨f.le, ?_, sets_belowB h1 _ _ f.below, f.new⟩, hM, ?_, h1, ?_, g4, g5, g6⟩
  · intro x o hx
    refine (sets_ne _ w2 ?_).trans (f.inn x o hx)
    rintro rfl
    rw [hM] at hx; cases hx
  · simp [sets, hlt]
  · have q2 := sets_at [(0, .slice none 0 0), (1, nv), (2, cv), (3, .bool c.conflict)] hbx
    have e : setsA #[.slice none 0 0, .slice none 0 0, .slice none 0 0, .bool false] [(0, .slice none 0 0), (1, nv), (2, cv), (3, .bool c.conflict)] = #[.slice none 0 0, nv, cv, .bool c.conflict] := by simp [setsA]
    rw [e] at q2
    exact q2
theorem info61 : (Try.prog.info? 36).map (fun i => (i.zero, i.size, i.bytes)) = some (some (.agg #[.bool false, .int .i64 0, .int .i64 0, .int .i64 0, .int .i64 0, .slice none 0 0, .slice none 0 0, .slice none 0 0, .slice none 0 0]), 9, 136) := by kernel_rfl
/-- The loop: so many peers are told. -/
def LI (W : World) (M M1 : Fz) (c : Cl) (bx : Nat) (nv cv : Value) (k : Nat) (v : Value) (wr : World) : Prop := TI W M M1 bx c.peers k v wr ∧ wr.heap[bx]? = some (.cells #[v, nv, cv, .bool c.conflict] 30 (0, 0))
theorem zA {W w1 : World} (hx : Below (W.alloc (.cells #[.slice none 0 0, .slice none 0 0, .slice none 0 0, .bool false] 30)).drew.heap.size (W.alloc (.cells #[.slice none 0 0, .slice none 0 0, .slice none 0 0, .bool false] 30)).drew w1) : w1.heap[W.heap.size]? = some (.cells #[.slice none 0 0, .slice none 0 0, .slice none 0 0, .bool false] 30 (0, 0)) := (hx.block W.heap.size (by show W.heap.size < (W.alloc (.cells #[.slice none 0 0, .slice none 0 0, .slice none 0 0, .bool false] 30)).heap.size; rw [World.size_alloc]; exact Nat.lt_succ_self _)).trans (heap_alloc_new W _)
theorem zB {w1 w2 : World} (hx : Below (w1.alloc (.cells #[.slice none 0 0, .slice none 0 0, .slice none 0 0, .bool false] 30)).heap.size (w1.alloc (.cells #[.slice none 0 0, .slice none 0 0, .slice none 0 0, .bool false] 30)) w2) : w2.heap[w1.heap.size]? = some (.cells #[.slice none 0 0, .slice none 0 0, .slice none 0 0, .bool false] 30 (0, 0)) := (hx.block w1.heap.size (by rw [World.size_alloc]; exact Nat.lt_succ_self _)).trans (heap_alloc_new w1 _)
theorem zK {W wx w1 w2 : World} (hz : w1.heap[W.heap.size]? = some (.cells #[.slice none 0 0, .slice none 0 0, .slice none 0 0, .bool false] 30 (0, 0))) (h1 : Below wx.heap.size wx w1) (h2 : Below w1.heap.size w1 w2) : w2.heap[W.heap.size]? = some (.cells #[.slice none 0 0, .slice none 0 0, .slice none 0 0, .bool false] 30 (0, 0)) := (h2.block _ (Array.getElem?_eq_some_iff.1 hz).1).trans hz
theorem set4 {B b : Nat} {A w : World} {u0 u1 u2 u3 : Value} {i0 i1 i2 i3 : Nat} (hb : B ≤ b) (h : Below B A w) : Below B A ((((w.setCell ⟨b, i0, none⟩ u0).setCell ⟨b, i1, none⟩ u1).setCell ⟨b, i2, none⟩ u2).setCell ⟨b, i3, none⟩ u3) := (((h.setCell hb u0).setCell hb u1).setCell hb u2).setCell hb u3
theorem RB.new {W : World} {M : Fz} {c : Cl} {wx w1 wy w2 : World} {nv cv : Value} (h : N2 W M c wx w1 wy w2 nv cv) :
    RB W M c w2.heap.size nv cv (w2.alloc (.cells #[.slice none 0 0, nv, cv, .bool c.conflict] 30)) := by
  obtain ⟨M1, M2, us, f, g1, g2, g3, g4, g5, g6⟩ := h
  refine ⟨M2, us, f.more (more (Below.refl _ _) _), f.inn.fresh (Nat.le_refl _), ?_, f.below.size, heap_alloc_new w2 _, g4, g5, g6⟩
  rw [World.size_alloc]; omega

set_option maxRecDepth 20000 in
set_option maxHeartbeats 2000000 in
theorem gtold_any (w : World) (M : Fz) (O : Lb) (d : Nat) (nb : List Nat) (c : Cl) (hG : G w M O d nb c) (hB : Bd c) (n : Nat) (h1n : 1 ≤ n) (hn7 : n ≤ 7) (hL : LB n c) :
    Calls Try.prog 21 #[.pointer (some ⟨d, 0, none⟩)] w fun r w' => CluE w M c r w' := by
  obtain ⟨hd, pv, cv, bs, us, cs, g⟩ := hG
  obtain ⟨co, cc, rfl⟩ := own_slice g.chos.row
  obtain ⟨po, pc, rfl, hpc1, hpc2, hpl, hpn, hpe⟩ := id g.peers
  have hdl := (g.st.ok d _ g.own).2
  obtain ⟨W, hW⟩ : ∃ W, w.alloc (.cells #[.slice none 0 0, .slice none 0 0, .slice none 0 0, .bool false] 30) = W := ⟨_, rfl⟩
  have bW : Below w.heap.size w W := by rw [← hW]; exact more (Below.refl _ _) _
  have sW : W.heap.size = w.heap.size + 1 := by rw [← hW]; exact World.size_alloc ..
  have hbx : W.heap[w.heap.size]? = some (.cells #[.slice none 0 0, .slice none 0 0, .slice none 0 0, .bool false] 30 (0, 0)) := by rw [← hW]; exact heap_alloc_new w _
  have hF0 : FP W M W M := FP.refl (g.st.inn.below bW)
  have kp : ∀ wx, Below W.heap.size W wx → Below w.heap.size w wx := fun wx hx => bW.trans (hx.mono bW.size)
  obtain ⟨cn, ecn⟩ : ∃ cn, cn = cs.length := ⟨_, rfl⟩
  obtain ⟨kn, ekn⟩ : ∃ kn, kn = nb.length := ⟨_, rfl⟩
  have HB2 : Hid (∀ wx, Below W.heap.size W wx → wx.heap[d]? = some (.cells #[.pointer (some ⟨hd, 0, none⟩), .int .i64 us.length, .slice po kn pc, .slice co cn cc, .bool c.conflict] 105 (0, 0))) := fun wx hx => by
    rw [ecn, ekn]
    exact ((kp wx hx).block d hdl).trans g.blk
  have HMs : Hid (∀ wx, Below W.heap.size W wx → Calls Try.prog 46 #[.pointer (some ⟨d, 0, none⟩)] wx fun r w1 => ∃ (n1 : Option Addr) (n2 n3 : Nat), r = .returned (.slice n1 n2 n3) ∧ Below W.heap.size W w1 ∧ Below wx.heap.size wx w1 ∧ Hid (N1 W M c wx w1 (.slice n1 n2 n3))) := fun wx hx => by
    have fx := hF0.more hx
    have fw : FP w M wx M := (FP.refl g.st.inn).more (kp wx hx)
    refine (messages_any wx M O d hd bs us (cell_of (HB2.out wx hx) rfl) (FP.sta fw g.st) (g.post.keep (fun x hxx => (kp wx hx).block x (g.st.ok x _ hxx).2) (Le.refl _) (fun _ hxx => hxx)) ?_ ?_).mono ?_
    · have := congrArg List.length g.nets; rw [List.length_map] at this; have := hB.size; omega
    · intro x hxx
      have := (hB.net x.m (by rw [← g.nets]; exact List.mem_map_of_mem hxx)).a
      omega
    · rintro r w' ⟨M', o, m, lc, rfl, q1, q2, ⟨us', e', q3⟩, q4, q5⟩
      exact ⟨o, m, lc, rfl, hx.trans (q4.mono hx.size), q4, M', us', fx.trans ⟨q1, q2, q4, q5⟩, q5, e'.trans g.nets, q3⟩
  have HCh : Hid (∀ wx w1 wy nv, N1 W M c wx w1 nv → Below w1.heap.size w1 wy → Calls Try.prog 47 #[.slice co cn cc] wy fun r w2 => ∃ (c1 : Option Addr) (c2 c3 : Nat), r = .returned (.slice c1 c2 c3) ∧ Below W.heap.size W w2 ∧ Below wy.heap.size wy w2 ∧ Hid (N2 W M c wx w1 wy w2 nv (.slice c1 c2 c3))) := fun wx w1 wy nv h1 hy => by
    obtain ⟨M1, us1, f1, g1, e1, v1⟩ := h1
    have fy := f1.more hy
    rw [ecn]
    refine (copyRecs_any wy M1 _ cs fy.inn (RecsR.own (row_kept g.chos.row (fun x hg => (kp wy fy.below).block x (row_lt g.chos.row hg).2))) (fun x hx => ⟨(g.chos.data x hx).1.le fy.le, (g.chos.data x hx).2⟩) ?_).mono ?_
    · have := congrArg List.length g.chosen; rw [List.length_map] at this; have := hB.chosen; omega
    · rintro r w' ⟨M', o, m, lc, rfl, q1, q2, q3, q4, q5⟩
      rw [g.chosen] at q3
      have f2 := fy.trans ⟨q1, q2, q4, q5⟩
      exact ⟨o, m, lc, rfl, f2.below, q4, M1, M', us1, f2, g1, f1.inn, q5, e1, v1.le q1, q3⟩
  have HMW : Hid (M W.heap.size = none) := hF0.inn.fresh (Nat.le_refl _)
  have hz := HB2.out W (Below.refl _ _)
  have HS : Hid (∀ wx, Below W.heap.size W wx → ((wx.cell? ⟨d, 3, none⟩ = some (.slice co cn cc) ∧ wx.cell? ⟨d, 4, none⟩ = some (.bool c.conflict)) ∧ Below W.heap.size W wx)) := fun wx hx => ⟨⟨cell_of (HB2.out wx hx) rfl, cell_of (HB2.out wx hx) rfl⟩, hx⟩
  go_enter Try.func21, Try.ntmps21
  go_upto_region 1 with fail
  try rw [hW]
  go_cut [3] from 6 (fun v wx => ∃ (bx : Nat) (n1 : Option Addr) (n2 n3 : Nat) (c1 : Option Addr) (c2 c3 : Nat), v = .pointer (some ⟨bx, 0, none⟩) ∧ Hid (RB W M c bx (.slice n1 n2 n3) (.slice c1 c2 c3) wx))
  case first =>
    have hbW := hide (Below.refl W.heap.size W)
    clear g hB hL hbx hF0 kp hpe hpn hz ecn ekn sW hW bW hdl hpl hpc1
    go_region_held_law (fun wx => (wx.cell? ⟨d, 3, none⟩ = some (.slice co cn cc) ∧ wx.cell? ⟨d, 4, none⟩ = some (.bool c.conflict)) ∧ Below W.heap.size W wx)
      ((refine HS.out _ ?_; first | (with_reducible assumption) | (with_reducible exact hbW.out) | (with_reducible exact hbW.out.drew) | (with_reducible exact (more hbW.out _).drew) | (with_reducible exact more hb1 _) | (with_reducible exact more hb2 _) | (refine set4 (Nat.le_refl _) ?_; with_reducible assumption) | (refine set4 hb1.size ?_; with_reducible assumption)))
      (first
      | (go_at_call 46; refine (HMs.out _ (by first | (with_reducible exact hbW.out.drew) | (with_reducible exact (more hbW.out _).drew))).mono ?_; rintro rr w1 ⟨n1, n2, n3, rfl, hb1, hx1, H1⟩; first | (have hz1 := zA hx1) | skip)
      | (go_at_call 47; refine (HCh.out _ _ _ _ H1.out (by first | (with_reducible exact Below.refl _ _) | (with_reducible exact more (Below.refl _ _) _))).mono ?_; rintro rr w2 ⟨c1, c2, c3, rfl, hb2, hx2, H2⟩; first | (have hz2 := zK hz1 hx1 hx2; have zz0 := cell_of (i := 0) hz2 (v := .slice none 0 0) rfl; have zf0 := frozen_of hz2 0; have zz1 := cell_of (i := 1) hz2 (v := .slice none 0 0) rfl; have zf1 := frozen_of hz2 1; have zz2 := cell_of (i := 2) hz2 (v := .slice none 0 0) rfl; have zf2 := frozen_of hz2 2; have zz3 := cell_of (i := 3) hz2 (v := .bool false) rfl; have zf3 := frozen_of hz2 3) | (have hz2 := zB hx2; have zz0 := cell_of (i := 0) hz2 (v := .slice none 0 0) rfl; have zf0 := frozen_of hz2 0; have zz1 := cell_of (i := 1) hz2 (v := .slice none 0 0) rfl; have zf1 := frozen_of hz2 1; have zz2 := cell_of (i := 2) hz2 (v := .slice none 0 0) rfl; have zf2 := frozen_of hz2 2; have zz3 := cell_of (i := 3) hz2 (v := .bool false) rfl; have zf3 := frozen_of hz2 3) | skip))
    all_goals (go_wp2_with fail; go_meet)
    · exact ⟨_, _, _, _, _, _, _, rfl, RB.new H2.out⟩
    · exact ⟨_, _, _, _, _, _, _, rfl, RB.set H2.out hz2 hb1.size (.inr ⟨Nat.le_refl _, by rw [World.size_alloc]; omega⟩)⟩
    · refine ⟨_, _, _, _, _, _, _, rfl, RB.set H2.out hz2 (Nat.le_refl _) (.inl ⟨?_, hx1.size, HMW.out⟩)⟩
      show W.heap.size < (W.alloc _).heap.size
      rw [World.size_alloc]; omega
  case rest =>
    obtain ⟨bx, n1, n2, n3, c1, c2, c3, rfl, HR0⟩ := hcut
    obtain ⟨M2, usn, f2, hM2, hlt2, hle2, hbk, en, vn, vc⟩ := HR0.out
    have H0 : Hid (LI W M M2 c bx (.slice n1 n2 n3) (.slice c1 c2 c3) 0 (.slice none 0 0) wc) := ⟨TI.begin c.peers f2 hM2 hlt2 hle2, hbk⟩
    have hz9 := HB2.out wc f2.below
    have cp := cell_of (i := 2) hz9 (v := .slice po kn pc) rfl
    have hknn : kn = n := by rw [ekn, g.len, hL.len]
    obtain ⟨pb, off, rfl, hpe2⟩ := hpe (by omega)
    have HSt : Hid (∀ k v wr, LI W M M2 c bx (.slice n1 n2 n3) (.slice c1 c2 c3) k v wr → (∃ so sc, v = .slice so k sc) ∧ (∀ wx, Below wr.heap.size wr wx → wx.cell? ⟨bx, 0, none⟩ = some v) ∧ (∀ b, nb[k]? = some b → wr.cell? ⟨pb, off + k, none⟩ = some (.pointer (some ⟨b, 0, none⟩)))) := fun k v wr h => by
      obtain ⟨⟨M', us', q1, q2, q3, q4, q5, q6, q7, q8, q9⟩, hbk⟩ := h
      refine ⟨own_slice q3, fun wx hx => cell_of (i := 0) ((hx.block bx q8).trans hbk) rfl, fun b hb => ?_⟩
      refine (q2.inn.below (Below.refl _ _)).cell (q2.le.cell (hpe2 k _ ?_))
      rw [List.getElem?_map, hb]; rfl
    have HSt2 : Hid (∀ k so sc wr, k < kn → LI W M M2 c bx (.slice n1 n2 n3) (.slice c1 c2 c3) k (.slice so k sc) wr → ∃ b, nb[k]? = some b ∧ ∀ wx, Below wr.heap.size wr wx → Calls Try.prog 48 #[.pointer (some ⟨b, 0, none⟩)] wx fun r w5 => ∃ (p : Peer) (a1 : Option Addr) (a2 a3 : Nat) (b1 : Option Addr) (b2 b3 : Nat) (e1 : Option Addr) (e2 e3 : Nat) (d1 : Option Addr) (d2 d3 : Nat) (Y : World), r = .returned (.agg #[.bool p.up, .int .i64 p.term, .int .i64 p.vote, .int .i64 p.commit, .int .i64 p.role, .slice a1 a2 a3, .slice b1 b2 b3, .slice e1 e2 e3, .slice d1 d2 d3]) ∧ w5.alloc (.cells #[.bool p.up, .int .i64 p.term, .int .i64 p.vote, .int .i64 p.commit, .int .i64 p.role, .slice a1 a2 a3, .slice b1 b2 b3, .slice e1 e2 e3, .slice d1 d2 d3] 36) = Y ∧ (w5.cell? ⟨bx, 0, none⟩ = some (.slice so k sc) ∧ Y.cell? ⟨bx, 0, none⟩ = some (.slice so k sc)) ∧
        Hid (∃ ys, Y.ownsRow W.heap.size 36 9 (.slice so k sc) k ys ∧ (∀ j u, ([.bool p.up, .int .i64 p.term, .int .i64 p.vote, .int .i64 p.commit, .int .i64 p.role, .slice a1 a2 a3, .slice b1 b2 b3, .slice e1 e2 e3, .slice d1 d2 d3] : List Value)[j]? = some u → Y.cell? ((⟨w5.heap.size, 0, none⟩ : Addr).add j) = some u) ∧ W.heap.size ≤ Y.heap.size ∧
          ∀ g cap w', w'.ownsRow W.heap.size 36 9 (.slice (some ⟨g, 0, none⟩) (k + 1) cap) (k + 1) (ys ++ [.bool p.up, .int .i64 p.term, .int .i64 p.vote, .int .i64 p.commit, .int .i64 p.role, .slice a1 a2 a3, .slice b1 b2 b3, .slice e1 e2 e3, .slice d1 d2 d3]) → Y.grownBy w' (Value.slice so k sc).ownBlock → ((Value.slice so k sc).ownBlock = some g ∨ g = Y.heap.size) → w'.heap[bx]? = some (.cells #[.slice so k sc, .slice n1 n2 n3, .slice c1 c2 c3, .bool c.conflict] 30 (0, 0)) ∧ LI W M M2 c bx (.slice n1 n2 n3) (.slice c1 c2 c3) (k + 1) (.slice (some ⟨g, 0, none⟩) (k + 1) cap) (w'.setCell ⟨bx, 0, none⟩ (.slice (some ⟨g, 0, none⟩) (k + 1) cap)))) := fun k so sc wr hk h => by
      have hlr : bx < wr.heap.size := by obtain ⟨⟨M', us', q1, q2, q3, q4, q5, q6, q7, q8, q9⟩, hbk⟩ := h; exact q8
      have hkl : k < nb.length := by omega
      have hkp : k < c.peers.length := by rw [← g.len]; exact hkl
      obtain ⟨b, hb⟩ : ∃ b, nb[k]? = some b := ⟨_, List.getElem?_eq_getElem hkl⟩
      obtain ⟨p, hp⟩ : ∃ p, c.peers[k]? = some p := ⟨_, List.getElem?_eq_getElem hkp⟩
      have hat : c.at k = p := by unfold Cl.at; rw [List.getD_eq_getElem?_getD, hp]; rfl
      have hpb := hB.peers k
      have hpl2 := hL.peers k
      rw [hat] at hpb hpl2
      have stW : Sta M O W := FP.sta ((FP.refl g.st.inn).more bW) g.st
      have ndW : Nod W M O b k p := FP.nod ((FP.refl g.st.inn).more bW) g.st (g.nodes k b p hb hp)
      refine ⟨b, hb, fun wx hx => (TI.step h.1 h.2 stW hp ndW (by have := hpb.log; omega) (by have := hpl2.votes; omega) (by have := hpl2.next; omega) (by have := hpl2.mat; omega) hx).mono ?_⟩
      rintro r w5 ⟨a1, a2, a3, b1, b2, b3, e1, e2, e3, d1, d2, d3, Y, rfl, hY, b5, ys, y1, y2, y3, y4⟩
      have bY : Below wr.heap.size wr Y := by rw [← hY]; exact b5.alloc b5.size _
      refine ⟨p, a1, a2, a3, b1, b2, b3, e1, e2, e3, d1, d2, d3, Y, rfl, hY, ⟨cell_of (i := 0) ((b5.block bx hlr).trans h.2) rfl, cell_of (i := 0) ((bY.block bx hlr).trans h.2) rfl⟩, ys, y1, y2, y3, fun g2 cap w' z1 z2 z3 => ?_⟩
      obtain ⟨t1, t2⟩ := y4 g2 cap w' z1 z2 z3
      exact ⟨t2, t1.store t2 0 _, set_at t2 0 _ rfl⟩
    have HFin : Hid (∀ po' pc' wr, LI W M M2 c bx (.slice n1 n2 n3) (.slice c1 c2 c3) kn (.slice po' kn pc') wr → (wr.heap[w.heap.size]? = some (.cells #[.slice none 0 0, .slice none 0 0, .slice none 0 0, .bool false] 30 (0, 0)) ∧ wr.heap[bx]? = some (.cells #[.slice po' kn pc', .slice n1 n2 n3, .slice c1 c2 c3, .bool c.conflict] 30 (0, 0))) ∧ CluE w M c (.returned (.agg #[.slice po' kn pc', .slice n1 n2 n3, .slice c1 c2 c3, .bool c.conflict])) (sets wr w.heap.size [(0, .slice po' kn pc'), (1, .slice n1 n2 n3), (2, .slice c1 c2 c3), (3, .bool c.conflict)])) := fun po' pc' wr h => by
      obtain ⟨h1, h2⟩ := h
      have e : kn = c.peers.length := by rw [ekn, g.len]
      rw [e] at h1 ⊢
      obtain ⟨M', ps, f, q1, q2, q3⟩ := TI.fin h1
      rw [← e] at q2 ⊢
      have hw9 : wr.heap[w.heap.size]? = some (.cells #[.slice none 0 0, .slice none 0 0, .slice none 0 0, .bool false] 30 (0, 0)) := (f.below.block _ (by omega)).trans hbx
      refine ⟨⟨hw9, h2⟩, po', kn, pc', n1, n2, n3, c1, c2, c3, rfl, M', ⟨f.le, ?_, sets_belowB (Nat.le_refl _) _ _ (kp wr f.below), fun b hb => ?_⟩, ps, usn, q1, q2, en, vn.le q3, vc.le q3⟩
      · intro x o hx
        refine (sets_ne _ wr ?_).trans (f.inn x o hx)
        rintro rfl
        rcases f.new _ (by rw [hx]; simp) with g' | g'
        · exact g' (g.st.inn.fresh (Nat.le_refl _))
        · omega
      · rcases f.new b hb with g' | g'
        · exact .inl g'
        · exact .inr (by omega)
    obtain ⟨i0, hii, hz0, hz1, hz2⟩ := info_parts info61
    have HI3 : Hid (Try.prog.info? 36 = some i0 ∧ i0.zero = some (.agg #[.bool false, .int .i64 0, .int .i64 0, .int .i64 0, .int .i64 0, .slice none 0 0, .slice none 0 0, .slice none 0 0, .slice none 0 0]) ∧ i0.size = 9 ∧ i0.bytes = 136) := ⟨hii, hz0, hz1, hz2⟩
    have hkn7 : kn ≤ 7 := by omega
    clear hii hz0 hz1 hz2 g hB hL hbx hF0 kp hpe2 hpn ecn ekn hknn sW hW bW hdl hpl hpc1 HB2 HMs HCh hz HS hz9 HR0 f2 hM2 hlt2 hle2 hbk en vn vc hn7 h1n
    go_wp2
    go_loopw [25] (fun i wr => ∃ (k : Nat) (v : Value), k ≤ kn ∧ i = .int .i64 k ∧ Hid (LI W M M2 c bx (.slice n1 n2 n3) (.slice c1 c2 c3) k v wr)) (fun i _ => kn - (intOf i).toNat)
    case atStart => exact ⟨0, _, Nat.zero_le _, rfl, H0⟩
    case round =>
      obtain ⟨k, v, hk, rfl, HR⟩ := hrel
      obtain ⟨⟨so, sc, rfl⟩, hc0, hcp⟩ := HSt.out _ _ _ HR.out
      by_cases hlt : k < kn
      · have hltI : (k : Int) < kn := by omega
        obtain ⟨b, hb, hT⟩ := HSt2.out k so sc wr hlt HR.out
        have hcp2 := hcp b hb
        have c0 := hc0 wr (Below.refl _ _)
        have HT := hide hT
        clear hc0 hcp hT hb
        go_upto_region 5 with fail
        go_region_law (first
          | (go_simp; go_at_call 48; refine (HT.out _ (by first | (with_reducible exact (Below.refl _ _).drew) | (with_reducible exact Below.refl _ _))).mono ?_; rintro rr w5 ⟨p, a1, a2, a3, b1, b2, b3, e1, e2, e3, d1, d2, d3, Y, rfl, hY, ⟨c5, cY⟩, HE⟩)
          | (obtain ⟨ys, y1, y2, y3, y4⟩ := HE.out; refine step_append_lies _ rfl _ _ 26 rfl W.heap.size 36 i0 (.agg #[.bool false, .int .i64 0, .int .i64 0, .int .i64 0, .int .i64 0, .slice none 0 0, .slice none 0 0, .slice none 0 0, .slice none 0 0]) 9 136 Try.underlying26 HI3.out.1 HI3.out.2.1 HI3.out.2.2.1 HI3.out.2.2.2 rfl (by decide) _ k ys rfl y1 ⟨w5.heap.size, 0, none⟩ 1 1 [.bool p.up, .int .i64 p.term, .int .i64 p.vote, .int .i64 p.commit, .int .i64 p.role, .slice a1 a2 a3, .slice b1 b2 b3, .slice e1 e2 e3, .slice d1 d2 d3] rfl rfl y2 (fun u' hu' => by simp only [List.mem_cons, List.not_mem_nil, or_false] at hu'; rcases hu' with rfl | rfl | rfl | rfl | rfl | rfl | rfl | rfl | rfl <;> rfl) (by decide) (by unfold maxLen; omega) (by omega) y3 _ rfl ?_; intro g2 cap2 w2 z1 z2 z3 z4; obtain ⟨hbb, hLI⟩ := y4 g2 cap2 w2 z1 z2 z3; have HN := hide hLI; have t0 := cell_of (i := 0) hbb (v := .slice so k sc) rfl; have t1 := frozen_of hbb 0; clear z1 z2 z3 z4 y1 y2 y3 y4 hbb hLI))
        all_goals
          go_wp2
          go_roundw
        all_goals first
          | exact ⟨k + 1, _, by omega, by go_num, HN⟩
          | (simp [intOf]; omega)
      · have hlt2 : ¬ (k : Int) < kn := by omega
        obtain rfl : k = kn := by omega
        obtain ⟨⟨hr1, hr2⟩, hE⟩ := HFin.out so sc wr HR.out
        have g0 := cell_of (i := 0) hr2 (v := .slice so k sc) rfl
        have g1 := cell_of (i := 1) hr2 (v := .slice n1 n2 n3) rfl
        have g2 := cell_of (i := 2) hr2 (v := .slice c1 c2 c3) rfl
        have g3 := cell_of (i := 3) hr2 (v := .bool c.conflict) rfl
        have z0 := cell_of (i := 0) hr1 (v := .slice none 0 0) rfl
        have z1 := cell_of (i := 1) hr1 (v := .slice none 0 0) rfl
        have z2 := cell_of (i := 2) hr1 (v := .slice none 0 0) rfl
        have z3 := cell_of (i := 3) hr1 (v := .bool false) rfl
        have f0 := frozen_of hr1 0
        have f1 := frozen_of hr1 1
        have f2 := frozen_of hr1 2
        have f3 := frozen_of hr1 3
        obtain ⟨WF, hWF⟩ : ∃ WF, sets wr w.heap.size [(0, .slice so k sc), (1, .slice n1 n2 n3), (2, .slice c1 c2 c3), (3, .bool c.conflict)] = WF := ⟨_, rfl⟩
        have hblk : WF.heap[w.heap.size]? = some (.cells #[.slice so k sc, .slice n1 n2 n3, .slice c1 c2 c3, .bool c.conflict] 30 (0, 0)) := by
          rw [← hWF]
          have q2 := sets_at [(0, .slice so k sc), (1, .slice n1 n2 n3), (2, .slice c1 c2 c3), (3, .bool c.conflict)] hr1
          have e : setsA #[.slice none 0 0, .slice none 0 0, .slice none 0 0, .bool false] [(0, .slice so k sc), (1, .slice n1 n2 n3), (2, .slice c1 c2 c3), (3, .bool c.conflict)] = #[.slice so k sc, .slice n1 n2 n3, .slice c1 c2 c3, .bool c.conflict] := by simp [setsA]
          rw [e] at q2
          exact q2
        have k0 := cell_of (i := 0) hblk (v := .slice so k sc) rfl
        have k1 := cell_of (i := 1) hblk (v := .slice n1 n2 n3) rfl
        have k2 := cell_of (i := 2) hblk (v := .slice c1 c2 c3) rfl
        have k3 := cell_of (i := 3) hblk (v := .bool c.conflict) rfl
        have HE := hide hE
        clear hE hr1 hr2 hblk hc0 hcp
        go_wp2
        have HT2 := HE.out
        rw [hWF] at HT2
        simp only [sets] at hWF
        rw [hWF]
        refine bodyPost_ret (v := .agg #[.slice so k sc, .slice n1 n2 n3, .slice c1 c2 c3, .bool c.conflict]) ?_ rfl HT2
        simp [results, Try.results21, go_sem, k0, k1, k2, k3]
end Go.Proofs.Ytklkglbimjajnaa.gt8

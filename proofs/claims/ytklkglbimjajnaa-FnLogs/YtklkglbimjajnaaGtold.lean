/- The group told: the row of its peers, as it grows. -/
import Derived.Test.YtklkglbimjajnaaNtold
namespace Go.Proofs.Ytklkglbimjajnaa.gtold
open Go.ChangeShapes Go.WideShapes Go.ChangeAt Go.RowKit
open Go.Proofs.Ytklkglbimjajnaa.Raft Go.Proofs.Ytklkglbimjajnaa.mem Go.Proofs.Ytklkglbimjajnaa.grp Go.Proofs.Ytklkglbimjajnaa.look Go.Proofs.Ytklkglbimjajnaa.ndw Go.Proofs.Ytklkglbimjajnaa.grant Go.Proofs.Ytklkglbimjajnaa.stand Go.Proofs.Ytklkglbimjajnaa.rows2 Go.Proofs.Ytklkglbimjajnaa.clone Go.Proofs.Ytklkglbimjajnaa.behind Go.Proofs.Ytklkglbimjajnaa.post Go.Proofs.Ytklkglbimjajnaa.copy Go.Proofs.Ytklkglbimjajnaa.msgs Go.Proofs.Ytklkglbimjajnaa.postb Go.Proofs.Ytklkglbimjajnaa.ntold
set_option linter.unusedVariables false

/-- A peer and the values of its lists. -/
structure PV where
  p : Peer
  lv : Value
  vv : Value
  nv : Value
  mv : Value
def peerCells (x : PV) : List Value := [.bool x.p.up, .int .i64 x.p.term, .int .i64 x.p.vote, .int .i64 x.p.commit, .int .i64 x.p.role, x.lv, x.vv, x.nv, x.mv]
theorem peerCells_len (x : PV) : (peerCells x).length = 9 := rfl
/-- Peers that are read in frozen memory. -/
def PeersV (M : Fz) (v : Value) (us : List PV) : Prop := RowM M v us.length 9 (us.flatMap peerCells) ∧ ∀ x ∈ us, PeerM M x.p x.lv x.vv x.nv x.mv
theorem PeerM.le {M M' : Fz} {p : Peer} {lv vv nv mv : Value} (h : PeerM M p lv vv nv mv) (hl : Le M M') : PeerM M' p lv vv nv mv := ⟨h.1.le hl, h.2.1.le hl, h.2.2.1.le hl, h.2.2.2.le hl⟩
/-- What is told so far: the row is in a block that is not frozen yet, nor is the block bx that the row's value is kept in; M1 is frozen since. -/
def TI (w : World) (M M1 : Fz) (bx : Nat) (ps : List Peer) (k : Nat) (v : Value) (wr : World) : Prop := ∃ (M' : Fz) (us : List PV), us.map (·.p) = ps.take k ∧ FP w M wr M' ∧ wr.ownsRow w.heap.size 36 9 v k (us.flatMap peerCells) ∧ (∀ g, v.ownBlock = some g → M' g = none) ∧ (∀ x ∈ us, PeerM M' x.p x.lv x.vv x.nv x.mv) ∧ Le M1 M' ∧ M' bx = none ∧ bx < wr.heap.size ∧ w.heap.size ≤ bx
theorem TI.begin {w wr : World} {M M' : Fz} {bx : Nat} (ps : List Peer) (h : FP w M wr M') (h1 : M' bx = none) (h2 : bx < wr.heap.size) (h3 : w.heap.size ≤ bx) : TI w M M' bx ps 0 (.slice none 0 0) wr := ⟨M', [], by simp, h, World.ownsRow_nil _ _ _ _, by simp [Value.ownBlock], by simp, Le.refl _, h1, h2, h3⟩
theorem TI.store {w wr : World} {M M1 : Fz} {bx : Nat} {ps : List Peer} {k : Nat} {v : Value} (h : TI w M M1 bx ps k v wr) {cur : Array Value} (hb : wr.heap[bx]? = some (.cells cur 30 (0, 0))) (i : Nat) (u : Value) : TI w M M1 bx ps k v (wr.setCell ⟨bx, i, none⟩ u) := by
  obtain ⟨M', us, e, hf, hr, hg, hp, h1, h2, h3, h4⟩ := h
  have hne := type_ne hr hb (by decide)
  refine ⟨M', us, e, ⟨hf.le, hf.inn.set h2 u, hf.below.setCell h4 u, hf.new⟩, row_kept hr (fun g hg' => Below.heap_setCell wr ⟨bx, i, none⟩ u g (fun e' => hne (by rw [hg', e']))), hg, hp, h1, h2, by rw [World.size_setCell]; exact h3, h4⟩
theorem TI.fin {w wr : World} {M M1 : Fz} {bx : Nat} {ps : List Peer} {v : Value} (h : TI w M M1 bx ps ps.length v wr) : ∃ M' us, FP w M wr M' ∧ us.map (·.p) = ps ∧ PeersV M' v us ∧ Le M1 M' := by
  obtain ⟨M', us, e, hf, hr, hg, hp, h1, h2, h3, h4⟩ := h
  rw [List.take_length] at e
  obtain ⟨M2, q1, q2, q3, q4⟩ := RowM.freeze hr hf.inn hg
  have hl : ps.length = us.length := by rw [← e]; simp
  rw [hl] at q3
  refine ⟨M2, us, ⟨hf.le.trans q1, q2, hf.below, fun b hb => ?_⟩, e, ⟨q3, fun x hx => PeerM.le (hp x hx) q1⟩, h1.trans q1⟩
  rcases q4 b hb with g | g
  · exact hf.new b g
  · exact .inr (row_lt hr g).1

theorem FP.sta {w wx : World} {M M' : Fz} {O : Lb} (h : FP w M wx M') (st : Sta M O w) : Sta M' O wx := ⟨h.inn, fun b l hb => by
  have h1 := st.ok b l hb
  refine ⟨?_, Nat.lt_of_lt_of_le h1.2 h.below.size⟩
  cases e : M' b with
  | none => rfl
  | some o =>
    rcases h.new b (by rw [e]; simp) with g | g
    · exact absurd h1.1 g
    · omega⟩
theorem FP.nod {w wx : World} {M M' : Fz} {O : Lb} (h : FP w M wx M') (st : Sta M O w) {b k : Nat} {p : Peer} (hn : Nod w M O b k p) : Nod wx M' O b k p := by
  obtain ⟨us, lv, vv, nv, mv, hn⟩ := hn
  exact ⟨us, lv, vv, nv, mv, hn.keep (fun x hx => h.below.block x (st.ok x _ hx).2) h.le (fun _ hx => hx)⟩
/-- One peer more. -/
theorem TI.step {w wr : World} {M M1 : Fz} {bx : Nat} {ps : List Peer} {k : Nat} {v : Value} (h : TI w M M1 bx ps k v wr) {cur : Array Value} (hbx : wr.heap[bx]? = some (.cells cur 30 (0, 0))) {O : Lb} (st : Sta M O w) {b : Nat} {p : Peer} (hp : ps[k]? = some p) (hn : Nod w M O b k p) (hl : p.log.length ≤ 1000) (hv : p.votes.length ≤ 1000) (hn9 : p.next.length ≤ 1000) (hm9 : p.mat.length ≤ 1000) {wx : World} (hx : Below wr.heap.size wr wx) :
    Calls Try.prog 48 #[.pointer (some ⟨b, 0, none⟩)] wx fun r w5 => ∃ (a1 : Option Addr) (a2 a3 : Nat) (b1 : Option Addr) (b2 b3 : Nat) (c1 : Option Addr) (c2 c3 : Nat) (d1 : Option Addr) (d2 d3 : Nat) (Y : World), r = .returned (.agg #[.bool p.up, .int .i64 p.term, .int .i64 p.vote, .int .i64 p.commit, .int .i64 p.role, .slice a1 a2 a3, .slice b1 b2 b3, .slice c1 c2 c3, .slice d1 d2 d3]) ∧ w5.alloc (.cells #[.bool p.up, .int .i64 p.term, .int .i64 p.vote, .int .i64 p.commit, .int .i64 p.role, .slice a1 a2 a3, .slice b1 b2 b3, .slice c1 c2 c3, .slice d1 d2 d3] 36) = Y ∧ Below wr.heap.size wr w5 ∧
      Hid (∃ ys, Y.ownsRow w.heap.size 36 9 v k ys ∧ (∀ j u, ([.bool p.up, .int .i64 p.term, .int .i64 p.vote, .int .i64 p.commit, .int .i64 p.role, .slice a1 a2 a3, .slice b1 b2 b3, .slice c1 c2 c3, .slice d1 d2 d3] : List Value)[j]? = some u → Y.cell? ((⟨w5.heap.size, 0, none⟩ : Addr).add j) = some u) ∧ w.heap.size ≤ Y.heap.size ∧
        ∀ g cap w', w'.ownsRow w.heap.size 36 9 (.slice (some ⟨g, 0, none⟩) (k + 1) cap) (k + 1) (ys ++ [.bool p.up, .int .i64 p.term, .int .i64 p.vote, .int .i64 p.commit, .int .i64 p.role, .slice a1 a2 a3, .slice b1 b2 b3, .slice c1 c2 c3, .slice d1 d2 d3]) → Y.grownBy w' v.ownBlock → (v.ownBlock = some g ∨ g = Y.heap.size) → TI w M M1 bx ps (k + 1) (.slice (some ⟨g, 0, none⟩) (k + 1) cap) w' ∧ w'.heap[bx]? = some (.cells cur 30 (0, 0))) := by
  obtain ⟨M', us, e, hf, hr, hg, hps, g1, g2, g3, g4⟩ := h
  have hne := type_ne hr hbx (by decide)
  have hfx := hf.more hx
  refine (ntold_any wx M' O b k p (FP.sta hfx st) (FP.nod hfx st hn) hl hv hn9 hm9).mono ?_
  rintro r w5 ⟨a1, a2, a3, b1, b2, b3, c1, c2, c3, d1, d2, d3, rfl, M2, f5, hpm⟩
  obtain ⟨Y, hY⟩ : ∃ Y, w5.alloc (.cells #[.bool p.up, .int .i64 p.term, .int .i64 p.vote, .int .i64 p.commit, .int .i64 p.role, .slice a1 a2 a3, .slice b1 b2 b3, .slice c1 c2 c3, .slice d1 d2 d3] 36) = Y := ⟨_, rfl⟩
  have b5 : Below wr.heap.size wr w5 := hx.trans (f5.below.mono hx.size)
  have bY : Below wr.heap.size wr Y := by rw [← hY]; exact b5.alloc b5.size _
  have b5Y : Below w5.heap.size w5 Y := by rw [← hY]; exact more (Below.refl _ _) _
  have hBY : Y.heap[w5.heap.size]? = some (.cells #[.bool p.up, .int .i64 p.term, .int .i64 p.vote, .int .i64 p.commit, .int .i64 p.role, .slice a1 a2 a3, .slice b1 b2 b3, .slice c1 c2 c3, .slice d1 d2 d3] 36 (0, 0)) := by rw [← hY]; exact heap_alloc_new w5 _
  have fY : FP w M Y M2 := (hfx.trans f5).more b5Y
  have hvM : ∀ g, v.ownBlock = some g → M2 g = none := fun g hg' => by
    cases em : M2 g with
    | none => rfl
    | some o =>
      rcases f5.new g (by rw [em]; simp) with g' | g'
      · exact absurd (hg g hg') g'
      · have := (row_lt hr hg').2; have := hx.size; omega
  refine ⟨a1, a2, a3, b1, b2, b3, c1, c2, c3, d1, d2, d3, Y, rfl, hY, b5, us.flatMap peerCells, row_kept hr (fun g hg' => bY.block g (row_lt hr hg').2), ?_, fY.below.size, ?_⟩
  · intro j u hu
    rw [pile.add_at, Nat.zero_add]
    exact cell_of hBY (by simpa using hu)
  · intro g cap w' p1 p2 p3
    have hIw := fY.inn.grown p2 hvM
    refine ⟨⟨M2, us ++ [⟨p, .slice a1 a2 a3, .slice b1 b2 b3, .slice c1 c2 c3, .slice d1 d2 d3⟩], ?_, ⟨fY.le, hIw, fY.below.grown p2 fY.below.size (fun g' hg' => (row_lt hr hg').1), fY.new⟩, ?_, ?_, ?_, g1.trans f5.le, ?_, ?_, g4⟩, ?_⟩
    · rw [List.map_append, e, List.take_add_one, hp]
      simp
    · rw [List.flatMap_append]
      simpa [peerCells] using p1
    · intro g' hg'
      obtain rfl : g = g' := by simpa [Value.ownBlock] using hg'
      rcases p3 with p3 | p3
      · exact hvM g p3
      · exact fY.inn.fresh (by omega)
    · intro x hx'
      rcases List.mem_append.1 hx' with hx' | hx'
      · exact PeerM.le (hps x hx') f5.le
      · rw [List.mem_singleton.1 hx']
        exact hpm
    · cases em : M2 bx with
      | none => rfl
      | some o =>
        rcases f5.new bx (by rw [em]; simp) with g' | g'
        · exact absurd g2 g'
        · have := hx.size; omega
    · have := bY.size; have := p2.size; omega
    · exact (p2.block bx (by have := bY.size; omega) (fun e' => hne e'.symm)).trans ((bY.block bx g3).trans hbx)
end Go.Proofs.Ytklkglbimjajnaa.gtold

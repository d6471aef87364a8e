/- A new group. -/
import Derived.Test.YtklkglbimjajnaaCopy
import Derived.Test.YtklkglbimjajnaaPostb
namespace Go.Proofs.Ytklkglbimjajnaa.new
open Go.ChangeShapes Go.WideShapes Go.ChangeAt Go.RowKit
open Go.Proofs.Ytklkglbimjajnaa.Raft Go.Proofs.Ytklkglbimjajnaa.mem Go.Proofs.Ytklkglbimjajnaa.grp Go.Proofs.Ytklkglbimjajnaa.look Go.Proofs.Ytklkglbimjajnaa.ndw Go.Proofs.Ytklkglbimjajnaa.grant Go.Proofs.Ytklkglbimjajnaa.stand Go.Proofs.Ytklkglbimjajnaa.rows2 Go.Proofs.Ytklkglbimjajnaa.clone Go.Proofs.Ytklkglbimjajnaa.behind Go.Proofs.Ytklkglbimjajnaa.post Go.Proofs.Ytklkglbimjajnaa.postb Go.Proofs.Ytklkglbimjajnaa.copy
set_option linter.unusedVariables false
theorem info52 : (Try.prog.info? 106).map (fun i => (i.zero, i.size, i.bytes)) = some (some (.pointer none), 1, 8) := by kernel_rfl

theorem Aft.grownNew {S : Nat → Prop} {M M' : Fz} {O O' : Lb} {w w' w'' : World} (h : Aft S M O w M' O' w') {row : Option Nat} (g : w'.grownBy w'' row) (hr : ∀ b, row = some b → w.heap.size ≤ b ∧ M' b = none) : Aft S M O w M' O' w'' where
  os := g.os.trans h.os
  tape := g.tape.trans h.tape
  output := g.output.trans h.output
  size := Nat.le_trans h.size g.size
  le := h.le
  inn := h.inn.grown g (fun k hk => (hr k hk).2)
  lab := h.lab
  ok := fun b l hl => ⟨(h.ok b l hl).1, Nat.lt_of_lt_of_le (h.ok b l hl).2 g.size⟩
  newM := h.newM
  newL := h.newL
  keep := fun b hb hk => (g.block b (Nat.lt_of_lt_of_le hb h.size) (fun e => by have := (hr b e.symm).1; omega)).trans (h.keep b hb hk)
/-- A group with its first k peers. -/
def NI (w : World) (M : Fz) (O : Lb) (H d k : Nat) (pv : Value) (wr : World) : Prop := ∃ (O' : Lb) (nb : List Nat), nb.length = k ∧ Aft (fun _ => True) M O w M O' wr ∧ (wr.heap[d]? = some (.cells #[.pointer (some ⟨H, 0, none⟩), .int .i64 0, pv, .slice none 0 0, .bool false] 105 (0, 0)) ∧ O' d = some 0) ∧ (wr.heap[H]? = some (.cells #[.int .i64 0, .int .i64 0, .int .i64 0, .int .i64 0, .int .i64 0, .int .i64 0, .int .i64 0, .bool false, .slice none 0 0, .pointer none] 100 (0, 0)) ∧ O' H = some 2) ∧ wr.ownsRow w.heap.size 106 1 pv k (nb.map (fun b => Value.pointer (some ⟨b, 0, none⟩))) ∧ (∀ j b, nb[j]? = some b → wr.heap[b]? = some (.cells #[.int .i64 0, .int .i64 0, .slice none 0 0, .int .i64 (j : Nat), .bool true, .int .i64 0, .int .i64 0, .slice none 0 0, .slice none 0 0, .slice none 0 0] 110 (0, 0)) ∧ O' b = some (3 + j)) ∧ (∀ g, pv.ownBlock = some g → O' g = none ∧ M g = none)
theorem NI.fin {w wr : World} {M : Fz} {O : Lb} {H d n : Nat} {pv : Value} (h : NI w M O H d n pv wr) : ∃ nb M' O', Aft (fun _ => True) M O w M' O' wr ∧ G wr M' O' d nb (Cl.begin n) := by
  obtain ⟨O', nb, hl, a, ⟨hd, od⟩, ⟨hH, oH⟩, hr, hn, hg⟩ := h
  obtain ⟨M2, q1, q2, q3, q4⟩ := RowM.freeze hr a.inn (fun g hg' => (hg g hg').2)
  have a2 : Aft (fun _ => True) M O w M2 O' wr := a.freezes q1 q2 (fun b hb => (q4 b hb).imp id (fun h => (row_lt hr h).1)) (fun b l hbl => by
    cases e : M2 b with
    | none => rfl
    | some o =>
      rcases q4 b (by rw [e]; simp) with h1 | h1
      · exact absurd (a.ok b l hbl).1 h1
      · have := (hg b h1).1; rw [this] at hbl; cases hbl)
  refine ⟨nb, M2, O', a2, H, pv, .slice none 0 0, [], [], [], ?_⟩
  subst hl
  exact
    { st := a2.sta
      blk := hd
      own := od
      peers := q3
      len := by simp [Cl.begin]
      nodes := fun k b p hb hp => by
        have hk : k < nb.length := (List.getElem?_eq_some_iff.1 hb).1
        have e : p = { Peer.zero with up := true } := by
          have := (List.getElem?_eq_some_iff.1 hp).2
          rw [← this]
          simp [Cl.begin]
        subst e
        exact ⟨[], .slice none 0 0, .slice none 0 0, .slice none 0 0, .slice none 0 0,
          { blk := (hn k b hb).1
            own := (hn k b hb).2
            log := World.ownsRow_nil _ _ _ _
            recs := rfl
            data := by simp
            votes := World.ownsRow_nil _ _ _ _
            next := World.ownsRow_nil _ _ _ _
            mat := World.ownsRow_nil _ _ _ _
            lab := by intro v hv g hg'; simp at hv; subst hv; simp [Value.ownBlock] at hg'
            apart := by simp [Value.ownBlock] }⟩
      post :=
        { len := rfl
          nodup := by simp
          lab := by intro b hb; simp at hb; subst hb; exact oH
          blk := fun i b x hb hx => by
            cases i with
            | zero =>
              obtain rfl : H = b := by simpa using hb
              obtain rfl : mv0 = x := by simpa using hx
              exact hH
            | succ i => simp at hb
          logs := by simp }
      nets := rfl
      chos := ⟨World.ownsRow_nil _ _ _ _, by simp [Value.ownBlock], by simp⟩
      chosen := rfl }
theorem NI.step {w wr : World} {M : Fz} {O : Lb} {H d k : Nat} {po : Option Addr} {pn pc : Nat} (h : NI w M O H d k (.slice po pn pc) wr) {V1 V2 : World} (hV1 : wr.alloc (.cells #[.int .i64 0, .int .i64 0, .slice none 0 0, .int .i64 (k : Nat), .bool true, .int .i64 0, .int .i64 0, .slice none 0 0, .slice none 0 0, .slice none 0 0] 110) = V1) (hV2 : V1.alloc (.cells #[.pointer (some ⟨wr.heap.size, 0, none⟩)] 106) = V2) :
    ∃ ys, V2.ownsRow w.heap.size 106 1 (.slice po pn pc) k ys ∧ (∀ j u, ([.pointer (some ⟨wr.heap.size, 0, none⟩)] : List Value)[j]? = some u → V2.cell? ((⟨V1.heap.size, 0, none⟩ : Addr).add j) = some u) ∧ w.heap.size ≤ V2.heap.size ∧
      ∀ g cap w2, w2.ownsRow w.heap.size 106 1 (.slice (some ⟨g, 0, none⟩) (k + 1) cap) (k + 1) (ys ++ [.pointer (some ⟨wr.heap.size, 0, none⟩)]) → V2.grownBy w2 (Value.slice po pn pc).ownBlock → ((Value.slice po pn pc).ownBlock = some g ∨ g = V2.heap.size) → w2.heap[d]? = some (.cells #[.pointer (some ⟨H, 0, none⟩), .int .i64 0, .slice po pn pc, .slice none 0 0, .bool false] 105 (0, 0)) ∧ NI w M O H d (k + 1) (.slice (some ⟨g, 0, none⟩) (k + 1) cap) (w2.setCell ⟨d, 2, none⟩ (.slice (some ⟨g, 0, none⟩) (k + 1) cap)) := by
  obtain ⟨O', nb, hl, a, ⟨hd, od⟩, ⟨hH, oH⟩, hr, hn, hg⟩ := h
  have e1 : V1.heap.size = wr.heap.size + 1 := by rw [← hV1]; exact World.size_alloc ..
  have e2 : V2.heap.size = wr.heap.size + 2 := by rw [← hV2, World.size_alloc, e1]
  have b1 : Below wr.heap.size wr V1 := by rw [← hV1]; exact more (Below.refl _ _) _
  have b2 : Below V1.heap.size V1 V2 := by rw [← hV2]; exact more (Below.refl _ _) _
  have b12 : Below wr.heap.size wr V2 := b1.trans (b2.mono (by omega))
  have hB1 : V1.heap[wr.heap.size]? = some (.cells #[.int .i64 0, .int .i64 0, .slice none 0 0, .int .i64 (k : Nat), .bool true, .int .i64 0, .int .i64 0, .slice none 0 0, .slice none 0 0, .slice none 0 0] 110 (0, 0)) := by rw [← hV1]; exact heap_alloc_new wr _
  have hB2 : V2.heap[wr.heap.size]? = some (.cells #[.int .i64 0, .int .i64 0, .slice none 0 0, .int .i64 (k : Nat), .bool true, .int .i64 0, .int .i64 0, .slice none 0 0, .slice none 0 0, .slice none 0 0] 110 (0, 0)) := (b2.block _ (by omega)).trans hB1
  have hA2 : V2.heap[V1.heap.size]? = some (.cells #[.pointer (some ⟨wr.heap.size, 0, none⟩)] 106 (0, 0)) := by rw [← hV2]; exact heap_alloc_new V1 _
  refine ⟨nb.map (fun b => Value.pointer (some ⟨b, 0, none⟩)), row_kept hr (fun g hg' => b12.block g (row_lt hr hg').2), ?_, by have := a.size; omega, ?_⟩
  · intro j u hu
    rw [pile.add_at, Nat.zero_add]
    exact cell_of hA2 (by simpa using hu)
  intro g cap w2 p1 p2 p3
  have dlt := (a.ok d 0 od).2
  have Hlt := (a.ok H 2 oH).2
  have key : ∀ (x : Nat) (o : Obj), V2.heap[x]? = some o → (∀ cur t, o = .cells cur t (0, 0) → t ≠ 106) → (∃ cur t, o = .cells cur t (0, 0)) → w2.heap[x]? = some o := fun x o hx ht ⟨cur, t, ho⟩ => by
    refine (p2.block x (Array.getElem?_eq_some_iff.1 hx).1 (fun e => ?_)).trans hx
    subst ho
    have hlt : x < wr.heap.size := (row_lt hr e.symm).2
    exact type_ne hr ((b12.block x hlt).symm.trans hx) (ht cur t rfl) e.symm
  have hd2 : w2.heap[d]? = some (.cells #[.pointer (some ⟨H, 0, none⟩), .int .i64 0, .slice po pn pc, .slice none 0 0, .bool false] 105 (0, 0)) := key d _ ((b12.block d dlt).trans hd) (fun cur t e => by simp only [Obj.cells.injEq] at e; rw [← e.2.1]; decide) ⟨_, _, rfl⟩
  refine ⟨hd2, ?_⟩
  have a1 := a.below b12
  have hMB : M wr.heap.size = none := a.inn.fresh (Nat.le_refl _)
  have hsz := a.size
  have aL := Aft.label a1 (b := wr.heap.size) (l := 3 + k) hsz (by omega) hMB trivial
  have oLne : ∀ x, x ≠ wr.heap.size → grp.lab O' wr.heap.size (3 + k) x = O' x := fun x hx => by simp [grp.lab, hx]
  have oLeq : grp.lab O' wr.heap.size (3 + k) wr.heap.size = some (3 + k) := by simp [grp.lab]
  have aG := Aft.grownNew aL p2 (fun x hx => ⟨(row_lt hr hx).1, (hg x hx).2⟩)
  have odL : grp.lab O' wr.heap.size (3 + k) d = some 0 := by rw [oLne d (by omega)]; exact od
  have aS := aG.set odL trivial 2 (.slice (some ⟨g, 0, none⟩) (k + 1) cap)
  have other : ∀ (x : Nat) (o : Obj), w2.heap[x]? = some o → x ≠ d → (w2.setCell ⟨d, 2, none⟩ (.slice (some ⟨g, 0, none⟩) (k + 1) cap)).heap[x]? = some o := fun x o hx hne => (Below.heap_setCell w2 ⟨d, 2, none⟩ _ x hne).trans hx
  refine ⟨grp.lab O' wr.heap.size (3 + k), nb ++ [wr.heap.size], by simp [hl], aS, ⟨set_at hd2 2 _ (by simp), odL⟩, ⟨other H _ (key H _ ((b12.block H Hlt).trans hH) (fun cur t e => by simp only [Obj.cells.injEq] at e; rw [← e.2.1]; decide) ⟨_, _, rfl⟩) (fun e => by rw [e] at oH; rw [oH] at od; cases od), by rw [oLne H (by omega)]; exact oH⟩, ?_, ?_, ?_⟩
  · refine row_kept (by rw [List.map_append]; exact p1) (fun g' hg' => ?_)
    refine Below.heap_setCell w2 ⟨d, 2, none⟩ _ g' (fun e => ?_)
    rw [show g' = d from e] at hg'
    exact type_ne p1 hd2 (by decide) hg'
  · intro j b hb
    rcases Nat.lt_trichotomy j nb.length with hj | hj | hj
    · rw [List.getElem?_append_left hj] at hb
      obtain ⟨hb1, hb2⟩ := hn j b hb
      have blt := (a.ok b _ hb2).2
      refine ⟨other b _ (key b _ ((b12.block b blt).trans hb1) (fun cur t e => by simp only [Obj.cells.injEq] at e; rw [← e.2.1]; decide) ⟨_, _, rfl⟩) (fun e => by rw [e] at hb2; rw [hb2] at od; simp at od), by rw [oLne b (by omega)]; exact hb2⟩
    · subst hj
      obtain rfl : wr.heap.size = b := by simpa using hb
      rw [hl]
      exact ⟨other _ _ (key _ _ hB2 (fun cur t e => by simp only [Obj.cells.injEq] at e; rw [← e.2.1]; decide) ⟨_, _, rfl⟩) (by omega), oLeq⟩
    · rw [List.getElem?_eq_none_iff.2 (by simp; omega)] at hb
      cases hb
  · intro g' hg'
    obtain rfl : g = g' := by simpa [Value.ownBlock] using hg'
    rcases p3 with p3 | p3
    · have := (row_lt hr p3).2
      exact ⟨by rw [oLne g (by omega)]; exact (hg g p3).1, (hg g p3).2⟩
    · refine ⟨?_, a1.inn.fresh (by omega)⟩
      cases e : grp.lab O' wr.heap.size (3 + k) g with
      | none => rfl
      | some l => have := (aL.ok g l e).2; omega

set_option maxRecDepth 20000 in
set_option maxHeartbeats 2000000 in
theorem newGroup_any (w : World) (M : Fz) (O : Lb) (st : Sta M O w) (n : Nat) (hn7 : n ≤ 7) :
    Calls Try.prog 19 #[.int .i64 n] w fun r w' => ∃ d nb M' O', r = .returned (.pointer (some ⟨d, 0, none⟩)) ∧ Aft (fun _ => True) M O w M' O' w' ∧ G w' M' O' d nb (Cl.begin n) := by
  obtain ⟨H, hH⟩ : ∃ H, H = w.heap.size := ⟨_, rfl⟩
  obtain ⟨W1, hW1⟩ : ∃ W, w.alloc (.cells #[.int .i64 0, .int .i64 0, .int .i64 0, .int .i64 0, .int .i64 0, .int .i64 0, .int .i64 0, .bool false, .slice none 0 0, .pointer none] 100) = W := ⟨_, rfl⟩
  obtain ⟨W2, hW2⟩ : ∃ W, W1.alloc (.cells #[.pointer (some ⟨w.heap.size, 0, none⟩), .int .i64 0, .slice none 0 0, .slice none 0 0, .bool false] 105) = W := ⟨_, rfl⟩
  have e1 : W1.heap.size = w.heap.size + 1 := by rw [← hW1]; exact World.size_alloc ..
  have e2 : W2.heap.size = w.heap.size + 2 := by rw [← hW2, World.size_alloc, e1]
  have H0 : Hid (NI w M O H W1.heap.size 0 (.slice none 0 0) W2) := by
    have b1 : Below w.heap.size w W1 := by rw [← hW1]; exact more (Below.refl _ _) _
    have b2 : Below W1.heap.size W1 W2 := by rw [← hW2]; exact more (Below.refl _ _) _
    have a0 : Aft (fun _ => True) M O w M O W2 := (Aft.refl _ st).below (b1.trans (b2.mono (by omega)))
    have aL := Aft.label (Aft.label a0 (b := H) (l := 2) (by omega) (by omega) (st.inn.fresh (by omega)) trivial) (b := W1.heap.size) (l := 0) (by omega) (by omega) (st.inn.fresh (by omega)) trivial
    refine ⟨_, [], rfl, aL, ⟨?_, by simp [grp.lab]⟩, ⟨?_, ?_⟩, World.ownsRow_nil _ _ _ _, by simp, by simp [Value.ownBlock]⟩
    · rw [← hW2, hH]; exact heap_alloc_new W1 _
    · rw [hH]
      refine (b2.block _ (by omega)).trans ?_
      rw [← hW1]; exact heap_alloc_new w _
    · have : H ≠ W1.heap.size := by omega
      simp [grp.lab, this]
  have HE : Hid (∀ v wr, NI w M O H W1.heap.size n v wr → ∃ nb M' O', Aft (fun _ => True) M O w M' O' wr ∧ G wr M' O' W1.heap.size nb (Cl.begin n)) := fun v wr h => h.fin
  obtain ⟨i0, hii, hz0, hz1, hz2⟩ := info_parts info52
  have HI3 : Hid (Try.prog.info? 106 = some i0 ∧ i0.zero = some (.pointer none) ∧ i0.size = 1 ∧ i0.bytes = 8) := ⟨hii, hz0, hz1, hz2⟩
  obtain ⟨D, hD⟩ : ∃ D, W1.heap.size = D := ⟨_, rfl⟩
  rw [hD] at H0 HE
  have HS : Hid (∀ k v wr, NI w M O H D k v wr → (∃ po pc, v = .slice po k pc) ∧ wr.heap[D]? = some (.cells #[.pointer (some ⟨H, 0, none⟩), .int .i64 0, v, .slice none 0 0, .bool false] 105 (0, 0))) := fun k v wr h => by
    obtain ⟨O', nb, hl, a, ⟨hd, od⟩, _, hr, _⟩ := h
    exact ⟨own_slice hr, hd⟩
  clear st hii hz0 hz1 hz2 e1 e2
  go_enter Try.func19, Try.ntmps19
  go_wp2
  go_loopw [11] (fun i wr => ∃ (k : Nat) (v : Value), k ≤ n ∧ i = .int .i64 k ∧ Hid (NI w M O H D k v wr)) (fun i _ => n - (intOf i).toNat)
  case atStart => exact ⟨0, _, Nat.zero_le _, rfl, H0⟩
  case round =>
    clear hW1 hW2 hH
    obtain ⟨k, v, hk, rfl, HR⟩ := hrel
    by_cases hlt : k < n
    · have hltI : (k : Int) < n := by omega
      obtain ⟨⟨po, pc, rfl⟩, hd⟩ := HS.out _ _ _ HR.out
      have c2 := cell_of (i := 2) hd (v := .slice po k pc) rfl
      obtain ⟨V1, hV1⟩ : ∃ V, wr.alloc (.cells #[.int .i64 0, .int .i64 0, .slice none 0 0, .int .i64 (k : Nat), .bool true, .int .i64 0, .int .i64 0, .slice none 0 0, .slice none 0 0, .slice none 0 0] 110) = V := ⟨_, rfl⟩
      obtain ⟨V2, hV2⟩ : ∃ V, V1.alloc (.cells #[.pointer (some ⟨wr.heap.size, 0, none⟩)] 106) = V := ⟨_, rfl⟩
      have HJ := hide (HR.out.step hV1 hV2)
      clear hd
      go_wp2_with (at_builtin; obtain ⟨ys, y1, y2, y3, y4⟩ := HJ.out; refine wpList_append_lies _ rfl _ _ 103 rfl w.heap.size 106 i0 (.pointer none) 1 8 Try.underlying103 HI3.out.1 HI3.out.2.1 HI3.out.2.2.1 HI3.out.2.2.2 rfl (by decide) _ k ys rfl y1 ⟨V1.heap.size, 0, none⟩ 1 1 [.pointer (some ⟨wr.heap.size, 0, none⟩)] rfl rfl y2 (fun u' hu' => by simp only [List.mem_cons, List.not_mem_nil, or_false] at hu'; rcases hu' with rfl; rfl) (by decide) (by unfold maxLen; omega) (by omega) y3 _ rfl ?_; intro g2 cap2 w2 z1 z2 z3 z4; obtain ⟨hd2, hN⟩ := y4 g2 cap2 w2 z1 z2 z3; have HN := hide hN; have t0 := cell_of (i := 2) hd2 (v := .slice po k pc) rfl; have t1 := frozen_of hd2 2; clear z1 z2 z3 z4 y1 y2 y3 y4 hd2 hN)
      go_roundw
      case rel => exact ⟨k + 1, _, by omega, by go_num, HN⟩
      case measure => simp [intOf]; omega
    · have hlt2 : ¬ (k : Int) < n := by omega
      obtain rfl : k = n := by omega
      go_wp2
      go_ret
      obtain ⟨nb, M', O', h1, h2⟩ := HE.out _ _ HR.out
      exact ⟨D, rfl, nb, M', O', h1, h2⟩
end Go.Proofs.Ytklkglbimjajnaa.new

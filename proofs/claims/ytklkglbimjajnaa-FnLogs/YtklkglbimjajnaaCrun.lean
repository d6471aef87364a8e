/- A run of a cluster. -/
import Derived.Test.YtklkglbimjajnaaGt8
import Derived.Test.YtklkglbimjajnaaNew
import Derived.Test.YtklkglbimjajnaaHappen
namespace Go.Proofs.Ytklkglbimjajnaa.crun
open Go.ChangeShapes Go.WideShapes Go.ChangeAt Go.RowKit
open Go.Proofs.Ytklkglbimjajnaa.Raft Go.Proofs.Ytklkglbimjajnaa.mem Go.Proofs.Ytklkglbimjajnaa.grp Go.Proofs.Ytklkglbimjajnaa.look Go.Proofs.Ytklkglbimjajnaa.ndw Go.Proofs.Ytklkglbimjajnaa.grant Go.Proofs.Ytklkglbimjajnaa.stand Go.Proofs.Ytklkglbimjajnaa.rows2 Go.Proofs.Ytklkglbimjajnaa.clone Go.Proofs.Ytklkglbimjajnaa.behind Go.Proofs.Ytklkglbimjajnaa.post Go.Proofs.Ytklkglbimjajnaa.copy Go.Proofs.Ytklkglbimjajnaa.msgs Go.Proofs.Ytklkglbimjajnaa.postb Go.Proofs.Ytklkglbimjajnaa.ntold Go.Proofs.Ytklkglbimjajnaa.gtold Go.Proofs.Ytklkglbimjajnaa.gt8 Go.Proofs.Ytklkglbimjajnaa.new Go.Proofs.Ytklkglbimjajnaa.happen
set_option linter.unusedVariables false

theorem info3 : (Try.prog.info? 3).map (fun i => (i.zero, i.size, i.bytes)) = some (some (.int .i64 0), 1, 8) := by kernel_rfl
/-- An event and the value of its data. -/
structure EV where
  e : Ev
  dv : Value
def evCells (x : EV) : List Value := [.int .i64 x.e.kind, .int .i64 x.e.n, x.dv]
/-- Events that are read in frozen memory. -/
def EvsV (M : Fz) (v : Value) (us : List EV) : Prop := RowM M v us.length 3 (us.flatMap evCells) ∧ ∀ x ∈ us, BytesM M x.dv x.e.data
def ints (l : List Int) : List Value := l.map (fun i => Value.int .i64 i)
theorem run_snoc : ∀ (es : List Ev) (e : Ev) (c : Cl), c.run (es ++ [e]) = (((c.run es).1.event e).1, (c.run es).2 ++ [((c.run es).1.event e).2])
  | [], e, c => by simp [Cl.run]
  | a :: es, e, c => by simp [Cl.run, run_snoc es e]
theorem run_len : ∀ (es : List Ev) (c : Cl), (c.run es).2.length = es.length
  | [], c => rfl
  | a :: es, c => by simp [Cl.run, run_len es]
theorem run_take (es : List Ev) (k : Nat) (e : Ev) (h : es[k]? = some e) (c : Cl) : c.run (es.take (k + 1)) = (((c.run (es.take k)).1.event e).1, (c.run (es.take k)).2 ++ [((c.run (es.take k)).1.event e).2]) := by
  rw [List.take_add_one, h]
  exact run_snoc _ _ _
theorem good_run {n : Nat} : ∀ (es : List Ev) (c : Cl), Raft.Good n c → Raft.Good n (c.run es).1
  | [], _, h => h
  | e :: es, _, h => good_run es _ (h.event e)
theorem lb_run {n : Nat} : ∀ (es : List Ev) (c : Cl), LB n c → LB n (c.run es).1
  | [], _, h => h
  | e :: es, _, h => lb_run es _ (h.event e)
/-- A row that is nobody's grew: the group is as it was. -/
theorem G.grown {w w' : World} {M : Fz} {O : Lb} {d : Nat} {nb : List Nat} {c : Cl} {row : Option Nat} (h : G w M O d nb c) (p : w.grownBy w' row) (hr : ∀ g, row = some g → O g = none ∧ M g = none) : G w' M O d nb c := by
  obtain ⟨hd, pv, cv, bs, us, cs, h⟩ := h
  have hk : ∀ l x, O x = some l → w'.heap[x]? = w.heap[x]? := fun l x hx => p.block x (h.st.ok x l hx).2 (fun e => by have := (hr x e.symm).1; rw [hx] at this; cases this)
  exact ⟨hd, pv, cv, bs, us, cs,
    { st := ⟨h.st.inn.grown p (fun k e => (hr k e).2), fun b l hb => ⟨(h.st.ok b l hb).1, Nat.lt_of_lt_of_le (h.st.ok b l hb).2 p.size⟩⟩
      blk := (hk _ d h.own).trans h.blk
      own := h.own
      peers := h.peers
      len := h.len
      nodes := fun j b p' hb hp => by
        obtain ⟨us', lv, vv, nv, mv, hnd⟩ := h.nodes j b p' hb hp
        exact ⟨us', lv, vv, nv, mv, hnd.keep (fun x hx => hk _ x hx) (Le.refl _) (fun _ hx => hx)⟩
      post := h.post.keep (fun x hx => hk _ x hx) (Le.refl _) (fun _ hx => hx)
      nets := h.nets
      chos := h.chos.keep (fun x hx => hk _ x hx) (Le.refl _) (fun _ hx => hx)
      chosen := h.chosen }⟩
def noLb : Lb := fun _ => none
theorem noSta {M : Fz} {w : World} (h : In M w) : Sta M noLb w := ⟨h, fun b l hb => by cases hb⟩
theorem aft_below {M M' : Fz} {O' : Lb} {w w' : World} (h : Aft (fun _ => True) M noLb w M' O' w') : Below w.heap.size w w' := ⟨h.os, h.tape, h.output, h.size, fun k hk => h.keep k hk (fun l hl => by cases hl)⟩
/-- So many events happened, and their codes. -/
def CI (W : World) (M : Fz) (d : Nat) (c : Cl) (ks : List Int) (k : Nat) (v : Value) (wr : World) : Prop := ∃ M' O' nb, Aft (fun _ => True) M noLb W M' O' wr ∧ G wr M' O' d nb c ∧ wr.ownsRow W.heap.size 3 1 v k (ints ks) ∧ ∀ g, v.ownBlock = some g → O' g = none ∧ M' g = none
theorem CI.below {W : World} {M : Fz} {d : Nat} {c : Cl} {ks : List Int} {k : Nat} {v : Value} {wr : World} (h : CI W M d c ks k v wr) : Below W.heap.size W wr := by
  obtain ⟨M', O', nb, a, _⟩ := h
  exact aft_below a
theorem CI.step {W : World} {M : Fz} {d : Nat} {c : Cl} {ks : List Int} {k : Nat} {so : Option Addr} {sn sc : Nat} {wr : World} (h : CI W M d c ks k (.slice so sn sc) wr) {n : Nat} (h1 : 1 ≤ n) (h7 : n ≤ 7) (hg : Raft.Good n c) (e : Ev) (eo : Option Addr) (el ec : Nat) (hd : BytesM M (.slice eo el ec) e.data) {X : World} (hX : wr.alloc (.cells #[.int .i64 e.kind, .int .i64 e.n, .slice eo el ec] 58) = X) :
    Calls Try.prog 20 #[.pointer (some ⟨d, 0, none⟩), .agg #[.int .i64 e.kind, .int .i64 e.n, .slice eo el ec]] X fun r w5 => ∃ Y, r = .returned (.int .i64 (c.event e).2) ∧ w5.alloc (.cells #[.int .i64 (c.event e).2] 3) = Y ∧
      Hid (∃ ys, Y.ownsRow W.heap.size 3 1 (.slice so sn sc) k ys ∧ (∀ j u, ([.int .i64 (c.event e).2] : List Value)[j]? = some u → Y.cell? ((⟨w5.heap.size, 0, none⟩ : Addr).add j) = some u) ∧ W.heap.size ≤ Y.heap.size ∧
        ∀ g cap w', w'.ownsRow W.heap.size 3 1 (.slice (some ⟨g, 0, none⟩) (k + 1) cap) (k + 1) (ys ++ [.int .i64 (c.event e).2]) → Y.grownBy w' (Value.slice so sn sc).ownBlock → ((Value.slice so sn sc).ownBlock = some g ∨ g = Y.heap.size) → CI W M d (c.event e).1 (ks ++ [(c.event e).2]) (k + 1) (.slice (some ⟨g, 0, none⟩) (k + 1) cap) w') := by
  obtain ⟨M', O', nb, a, hG, hr, hf⟩ := h
  have bX : Below wr.heap.size wr X := by rw [← hX]; exact more (Below.refl _ _) _
  have aX := a.below bX
  refine (happen_any X M' O' d nb c (hG.below bX) n h1 h7 hg e eo el ec (hd.le a.le)).mono ?_
  rintro r w5 ⟨rfl, M2, O2, a5, hG5⟩
  obtain ⟨Y, hY⟩ : ∃ Y, w5.alloc (.cells #[.int .i64 (c.event e).2] 3) = Y := ⟨_, rfl⟩
  have bY : Below w5.heap.size w5 Y := by rw [← hY]; exact more (Below.refl _ _) _
  have hBY : Y.heap[w5.heap.size]? = some (.cells #[.int .i64 (c.event e).2] 3 (0, 0)) := by rw [← hY]; exact heap_alloc_new w5 _
  have aY := (aX.trans a5).below bY
  have old : ∀ g, (Value.slice so sn sc).ownBlock = some g → g < X.heap.size ∧ O2 g = none ∧ M2 g = none ∧ Y.heap[g]? = wr.heap[g]? := fun g hg' => by
    have hl := (row_lt hr hg').2
    have hlX : g < X.heap.size := Nat.lt_of_lt_of_le hl bX.size
    obtain ⟨o1, m1⟩ := hf g hg'
    refine ⟨hlX, (a5.lab g hlX).trans o1, ?_, ?_⟩
    · cases em : M2 g with
      | none => rfl
      | some o =>
        rcases a5.newM g (by rw [em]; simp) with g' | g'
        · exact absurd m1 g'
        · omega
    · exact (bY.block g (Nat.lt_of_lt_of_le hlX a5.size)).trans ((a5.keep g hlX (fun l hl' => by rw [o1] at hl'; cases hl')).trans (bX.block g hl))
  refine ⟨Y, rfl, hY, ints ks, row_kept hr (fun g hg' => (old g hg').2.2.2), ?_, aY.size, ?_⟩
  · intro j u hu
    rw [pile.add_at, Nat.zero_add]
    exact cell_of hBY (by simpa using hu)
  · intro g cap w' p1 p2 p3
    have hfr : ∀ x, (Value.slice so sn sc).ownBlock = some x → O2 x = none ∧ M2 x = none := fun x hx => ⟨(old x hx).2.1, (old x hx).2.2.1⟩
    refine ⟨M2, O2, nb, new.Aft.grownNew aY p2 (fun x hx => ⟨(row_lt hr hx).1, (hfr x hx).2⟩), crun.G.grown (hG5.below bY) p2 hfr, by simpa [ints] using p1, ?_⟩
    intro g' hg'
    obtain rfl : g = g' := by simpa [Value.ownBlock] using hg'
    rcases p3 with p3 | p3
    · exact hfr g p3
    · refine ⟨?_, aY.inn.fresh (by omega)⟩
      cases eo2 : O2 g with
      | none => rfl
      | some l => have := (aY.ok g l eo2).2; omega
/-- What a run answers. -/
def RunE (w : World) (M : Fz) (c : Cl) (ks : List Int) (r : Ending) (w' : World) : Prop :=
  ∃ (p1 : Option Addr) (p2 p3 : Nat) (n1 : Option Addr) (n2 n3 : Nat) (c1 : Option Addr) (c2 c3 : Nat) (k1 : Option Addr) (k3 : Nat), r = .returned (.tuple #[.agg #[.slice p1 p2 p3, .slice n1 n2 n3, .slice c1 c2 c3, .bool c.conflict], .slice k1 ks.length k3, .int .i64 0]) ∧ ∃ M', FP w M w' M' ∧ CluV M' c (.slice p1 p2 p3) (.slice n1 n2 n3) (.slice c1 c2 c3) ∧ RowM M' (.slice k1 ks.length k3) ks.length 1 (ints ks)

set_option maxRecDepth 20000 in
set_option maxHeartbeats 2000000 in
theorem crun_good (w : World) (M : Fz) (hI : In M w) (n : Nat) (h1 : 1 ≤ n) (h7 : n ≤ 7) (vo : Option Addr) (vn vc : Nat) (us : List EV) (hv : EvsV M (.slice vo vn vc) us) (hl : us.length ≤ 300) :
    Calls Try.prog 8 #[.int .i64 n, .slice vo vn vc] w fun r w' => RunE w M ((Cl.begin n).run (us.map (·.e))).1 ((Cl.begin n).run (us.map (·.e))).2 r w' := by
  obtain ⟨W, hW⟩ : ∃ W, w.alloc (.cells #[.slice none 0 0, .slice none 0 0, .slice none 0 0, .bool false] 30) = W := ⟨_, rfl⟩
  have bW : Below w.heap.size w W := by rw [← hW]; exact more (Below.refl _ _) _
  have sW : W.heap.size = w.heap.size + 1 := by rw [← hW]; exact World.size_alloc ..
  have hbx : W.heap[w.heap.size]? = some (.cells #[.slice none 0 0, .slice none 0 0, .slice none 0 0, .bool false] 30 (0, 0)) := by rw [← hW]; exact heap_alloc_new w _
  have hIW : In M W := hI.below bW
  obtain ⟨⟨vo', vc', ev, hvc1, hvc2, hvl, hvn, hve⟩, hvb⟩ := hv
  obtain ⟨rfl, rfl, rfl⟩ : vo' = vo ∧ us.length = vn ∧ vc' = vc := by simp only [Value.slice.injEq] at ev; exact ⟨ev.1.symm, ev.2.1.symm, ev.2.2.symm⟩
  obtain ⟨L, eL⟩ : ∃ L, us.length = L := ⟨_, rfl⟩
  obtain ⟨es, ees⟩ : ∃ es, us.map (·.e) = es := ⟨_, rfl⟩
  have eLs : es.length = L := by rw [← ees, List.length_map, eL]
  rw [eL, ees]
  have HNew : Hid (∀ wx, Below W.heap.size W wx → Calls Try.prog 19 #[.int .i64 n] wx fun r w' => ∃ d, r = .returned (.pointer (some ⟨d, 0, none⟩)) ∧ Hid (CI W M d (Cl.begin n) [] 0 (.slice none 0 0) w')) := fun wx hx => by
    refine (newGroup_any wx M noLb (noSta (hIW.below hx)) n h7).mono ?_
    rintro r w' ⟨d, nb, M', O', rfl, a, hG⟩
    have b9 := aft_below a
    have a9 : Aft (fun _ => True) M noLb W M' O' w' :=
      { os := a.os.trans hx.os, tape := a.tape.trans hx.tape, output := a.output.trans hx.output, size := Nat.le_trans hx.size a.size, le := a.le, inn := a.inn,
        lab := fun b hb => a.lab b (Nat.lt_of_lt_of_le hb hx.size), ok := a.ok, newM := fun b hb => (a.newM b hb).imp id (fun h => Nat.le_trans hx.size h), newL := fun _ _ _ _ => trivial, keep := fun b hb hk => (a.keep b (Nat.lt_of_lt_of_le hb hx.size) hk).trans (hx.block b hb) }
    exact ⟨d, rfl, M', O', nb, a9, hG, World.ownsRow_nil _ _ _ _, by simp [Value.ownBlock]⟩
  have HCell : Hid (∀ k, k < L → ∃ eb off x eo el ec, vo' = some ⟨eb, off, none⟩ ∧ us[k]? = some x ∧ x.dv = .slice eo el ec ∧ BytesM M (.slice eo el ec) x.e.data ∧ es[k]? = some x.e ∧ ∀ wr, Below W.heap.size W wr → (wr.cell? ⟨eb, off + k * 3, none⟩ = some (.int .i64 x.e.kind) ∧ wr.cell? ⟨eb, off + k * 3 + 1, none⟩ = some (.int .i64 x.e.n) ∧ wr.cell? ⟨eb, off + k * 3 + 2, none⟩ = some (.slice eo el ec))) := fun k hk => by
    obtain ⟨x, hx⟩ : ∃ x, us[k]? = some x := ⟨_, List.getElem?_eq_getElem (by omega)⟩
    have hbx := hvb x (List.mem_of_getElem? hx)
    obtain ⟨eb, off, rfl, hc⟩ := hve (by omega)
    obtain ⟨⟨eo, ec, edv, _⟩, _⟩ := id hbx
    have hf := fun i hi => flat_get evCells 3 (fun _ => rfl) us k i x hx hi
    have z0 := hc (k * 3 + 0) (.int .i64 x.e.kind) (by rw [hf 0 (by decide)]; rfl)
    have z1 := hc (k * 3 + 1) (.int .i64 x.e.n) (by rw [hf 1 (by decide)]; rfl)
    have z2 := hc (k * 3 + 2) x.dv (by rw [hf 2 (by decide)]; rfl)
    rw [edv] at z2
    exact ⟨eb, off, x, eo, _, ec, rfl, hx, edv, edv ▸ hbx, by rw [← ees, List.getElem?_map, hx]; rfl, fun wr hb => ⟨(hIW.below hb).cell z0, (hIW.below hb).cell z1, (hIW.below hb).cell z2⟩⟩
  have HG : Hid (∀ k, Raft.Good n ((Cl.begin n).run (es.take k)).1) := fun k => good_run _ _ (Raft.Good.begin n)
  have HTk : Hid (∀ k e, es[k]? = some e → (Cl.begin n).run (es.take (k + 1)) = ((((Cl.begin n).run (es.take k)).1.event e).1, ((Cl.begin n).run (es.take k)).2 ++ [(((Cl.begin n).run (es.take k)).1.event e).2])) := fun k e h => run_take es k e h _
  have HB : Hid (Bd ((Cl.begin n).run es).1 ∧ LB n ((Cl.begin n).run es).1) := ⟨(good_run _ _ (Raft.Good.begin n)).1, lb_run _ _ (LB.begin n)⟩
  obtain ⟨C, eC⟩ : ∃ C, ((Cl.begin n).run es).1 = C := ⟨_, rfl⟩
  obtain ⟨K, eK⟩ : ∃ K, ((Cl.begin n).run es).2 = K := ⟨_, rfl⟩
  have hKL : K.length = L := by rw [← eK, run_len, eLs]
  have HEnd : Hid (∀ d v wr, CI W M d ((Cl.begin n).run (es.take L)).1 ((Cl.begin n).run (es.take L)).2 L v wr → CI W M d C K L v wr) := fun d v wr h => by rw [← eLs, List.take_length, eC, eK, eLs] at h; exact h
  rw [eC] at HB
  rw [eC, eK]
  -- the end
  have HTold : Hid (∀ d so sc wr, CI W M d C K L (.slice so L sc) wr → Calls Try.prog 21 #[.pointer (some ⟨d, 0, none⟩)] wr fun r w5 => ∃ (p1 : Option Addr) (p2 p3 : Nat) (n1 : Option Addr) (n2 n3 : Nat) (c1 : Option Addr) (c2 c3 : Nat), r = .returned (.agg #[.slice p1 p2 p3, .slice n1 n2 n3, .slice c1 c2 c3, .bool C.conflict]) ∧ w5.heap[w.heap.size]? = some (.cells #[.slice none 0 0, .slice none 0 0, .slice none 0 0, .bool false] 30 (0, 0)) ∧ Hid (RunE w M C K (.returned (.tuple #[.agg #[.slice p1 p2 p3, .slice n1 n2 n3, .slice c1 c2 c3, .bool C.conflict], .slice so L sc, .int .i64 0])) (sets w5 w.heap.size [(0, .slice p1 p2 p3), (1, .slice n1 n2 n3), (2, .slice c1 c2 c3), (3, .bool C.conflict)]))) := fun d so sc wr h => by
    obtain ⟨M', O', nb, a, hG, hr, hf⟩ := h
    refine (gtold_any wr M' O' d nb C hG HB.out.1 n h1 h7 HB.out.2).mono ?_
    rintro r w5 ⟨p1, p2, p3, n1, n2, n3, c1, c2, c3, rfl, M2, f5, hC⟩
    have b5 : Below W.heap.size W w5 := (aft_below a).trans (f5.below.mono a.size)
    have hr5 : w5.ownsRow W.heap.size 3 1 (.slice so L sc) L (ints K) := row_kept hr (fun g hg => f5.below.block g (row_lt hr hg).2)
    obtain ⟨M3, q1, q2, q3, q4⟩ := RowM.freeze hr5 f5.inn (fun g hg => by
      cases em : M2 g with
      | none => rfl
      | some o =>
        rcases f5.new g (by rw [em]; simp) with g' | g'
        · exact absurd (hf g hg).2 g'
        · have := (row_lt hr hg).2; omega)
    have hw9 : w5.heap[w.heap.size]? = some (.cells #[.slice none 0 0, .slice none 0 0, .slice none 0 0, .bool false] 30 (0, 0)) := (b5.block _ (by omega)).trans hbx
    have hnew : ∀ b, M3 b ≠ none → M b ≠ none ∨ W.heap.size ≤ b := fun b hb => by
      rcases q4 b hb with g | g
      · rcases f5.new b g with g' | g'
        · exact a.newM b g'
        · exact .inr (Nat.le_trans a.size g')
      · exact .inr (row_lt hr5 g).1
    refine ⟨p1, p2, p3, n1, n2, n3, c1, c2, c3, rfl, hw9, p1, p2, p3, n1, n2, n3, c1, c2, c3, so, sc, by rw [hKL], M3, ⟨(a.le.trans f5.le).trans q1, ?_, sets_belowB (Nat.le_refl _) _ _ (bW.trans (b5.mono bW.size)), fun b hb => (hnew b hb).imp id (fun h => by omega)⟩, ?_, by rw [hKL]; exact q3⟩
    · intro x o hx
      refine (sets_ne _ w5 ?_).trans (q2 x o hx)
      rintro rfl
      rcases hnew _ (by rw [hx]; simp) with g' | g'
      · exact g' (hI.fresh (Nat.le_refl _))
      · omega
    · obtain ⟨ps, us2, e1, e2, e3, e4, e5⟩ := hC
      exact ⟨ps, us2, e1, ⟨e2.1.le q1, fun x hx => PeerM.le (e2.2 x hx) q1⟩, e3, e4.le q1, e5.le q1⟩
  obtain ⟨i0, hii, hz0, hz1, hz2⟩ := info_parts info3
  have HI3 : Hid (Try.prog.info? 3 = some i0 ∧ i0.zero = some (.int .i64 0) ∧ i0.size = 1 ∧ i0.bytes = 8) := ⟨hii, hz0, hz1, hz2⟩
  have hL1 : ¬ ((4096 : Int) < L) := by omega
  have hL2 : ¬ ((300 : Int) < L) := by omega
  have hn1 : ¬ ((n : Int) < 1) := by omega
  have hn2 : ¬ ((7 : Int) < n) := by omega
  clear hii hz0 hz1 hz2 hve hvb hvn hvl hvc1 hIW hI ees eLs eC eK hKL HB hl ev eL bW sW hbx
  go_enter Try.func8, Try.ntmps8
  go_wp2_with (go_at_call 19; refine (HNew.out _ (Below.refl _ _)).mono ?_; rintro rr w1 ⟨d, rfl, HC1⟩)
  go_loopw [8, 30] (fun v i wr => ∃ (k : Nat) (so : Option Addr) (sc : Nat), k ≤ L ∧ v = .slice so k sc ∧ i = .int .i64 k ∧ Hid (CI W M d ((Cl.begin n).run (es.take k)).1 ((Cl.begin n).run (es.take k)).2 k v wr)) (fun _ i _ => L - (intOf i).toNat)
  case atStart => exact ⟨0, none, 0, Nat.zero_le _, rfl, rfl, HC1⟩
  case round =>
    obtain ⟨k, so, sc, hk, rfl, rfl, HR⟩ := hrel
    by_cases hlt : k < L
    · have hltI : (k : Int) < L := by omega
      obtain ⟨eb, off, x, eo, el, ec, rfl, hx, edv, hbt, hxe, hfar⟩ := HCell.out k hlt
      obtain ⟨q0, q1, q2⟩ := hfar wr HR.out.below
      obtain ⟨X, hX⟩ : ∃ X, wr.alloc (.cells #[.int .i64 x.e.kind, .int .i64 x.e.n, .slice eo el ec] 58) = X := ⟨_, rfl⟩
      have HJ := hide (CI.step HR.out h1 h7 (HG.out k) x.e eo el ec hbt hX)
      have hbox : X.heap[wr.heap.size]? = some (.cells #[.int .i64 x.e.kind, .int .i64 x.e.n, .slice eo el ec] 58 (0, 0)) := by rw [← hX]; exact heap_alloc_new wr _
      have s0 := cell_of (i := 0) hbox (v := .int .i64 x.e.kind) rfl
      have s1 := cell_of (i := 1) hbox (v := .int .i64 x.e.n) rfl
      have s2 := cell_of (i := 2) hbox (v := .slice eo el ec) rfl
      have HK1 := hide (HTk.out k x.e hxe)
      obtain ⟨CD, eCD⟩ : ∃ CD, (((Cl.begin n).run (es.take k)).1.event x.e).2 = CD := ⟨_, rfl⟩
      rw [eCD] at HJ HK1
      clear hx edv hbt hxe hfar hbox HCell HNew HG HTk HEnd HTold eCD
      go_wp2_with (first
        | (go_at_call 20; refine HJ.out.mono ?_; rintro rr w5 ⟨Y, rfl, hY, HE⟩)
        | (at_builtin; obtain ⟨ys, y1, y2, y3, y4⟩ := HE.out; refine wpList_append_lies _ rfl _ _ 31 rfl W.heap.size 3 i0 (.int .i64 0) 1 8 Try.underlying31 HI3.out.1 HI3.out.2.1 HI3.out.2.2.1 HI3.out.2.2.2 rfl (by decide) _ k ys rfl y1 ⟨w5.heap.size, 0, none⟩ 1 1 [.int .i64 CD] rfl rfl y2 (fun u' hu' => by simp only [List.mem_cons, List.not_mem_nil, or_false] at hu'; rcases hu' with rfl; rfl) (by decide) (by unfold maxLen; omega) (by omega) y3 _ rfl ?_; intro g2 cap2 w2 z1 z2 z3 z4; have HN := hide (y4 g2 cap2 w2 z1 z2 z3); clear z1 z2 z3 z4 y1 y2 y3 y4))
      go_roundw
      case rel => exact ⟨k + 1, _, _, by omega, rfl, by go_num, by rw [HK1.out]; exact HN⟩
      case measure => simp [intOf]; omega
    · have hlt2 : ¬ (k : Int) < L := by omega
      obtain rfl : k = L := by omega
      have HE0 := hide (HTold.out d so sc wr (HEnd.out _ _ _ HR.out))
      clear HCell HNew HG HTk HEnd HTold
      go_wp2_with (go_at_call 21; refine HE0.out.mono ?_; rintro rr w5 ⟨p1, p2, p3, n1, n2, n3, c1, c2, c3, rfl, hw9, HE⟩; have z0 := cell_of (i := 0) hw9 (v := .slice none 0 0) rfl; have z1 := cell_of (i := 1) hw9 (v := .slice none 0 0) rfl; have z2 := cell_of (i := 2) hw9 (v := .slice none 0 0) rfl; have z3 := cell_of (i := 3) hw9 (v := .bool false) rfl; have f0 := frozen_of hw9 0; have f1 := frozen_of hw9 1; have f2 := frozen_of hw9 2; have f3 := frozen_of hw9 3; have HW9 := hide hw9; clear hw9)
      obtain ⟨WF, hWF⟩ : ∃ WF, sets w5 w.heap.size [(0, .slice p1 p2 p3), (1, .slice n1 n2 n3), (2, .slice c1 c2 c3), (3, .bool C.conflict)] = WF := ⟨_, rfl⟩
      have hblk : WF.heap[w.heap.size]? = some (.cells #[.slice p1 p2 p3, .slice n1 n2 n3, .slice c1 c2 c3, .bool C.conflict] 30 (0, 0)) := by
        rw [← hWF]
        have q2 := sets_at [(0, .slice p1 p2 p3), (1, .slice n1 n2 n3), (2, .slice c1 c2 c3), (3, .bool C.conflict)] HW9.out
        have e : setsA #[.slice none 0 0, .slice none 0 0, .slice none 0 0, .bool false] [(0, .slice p1 p2 p3), (1, .slice n1 n2 n3), (2, .slice c1 c2 c3), (3, .bool C.conflict)] = #[.slice p1 p2 p3, .slice n1 n2 n3, .slice c1 c2 c3, .bool C.conflict] := by simp [setsA]
        rw [e] at q2
        exact q2
      have k0 := cell_of (i := 0) hblk (v := .slice p1 p2 p3) rfl
      have k1 := cell_of (i := 1) hblk (v := .slice n1 n2 n3) rfl
      have k2 := cell_of (i := 2) hblk (v := .slice c1 c2 c3) rfl
      have k3 := cell_of (i := 3) hblk (v := .bool C.conflict) rfl
      have HT2 := HE.out
      rw [hWF] at HT2
      simp only [sets] at hWF
      rw [hWF]
      refine bodyPost_ret (v := .tuple #[.agg #[.slice p1 p2 p3, .slice n1 n2 n3, .slice c1 c2 c3, .bool C.conflict], .slice so k sc, .int .i64 0]) ?_ rfl HT2
      simp [results, Try.results8, go_sem, k0, k1, k2, k3]
end Go.Proofs.Ytklkglbimjajnaa.crun

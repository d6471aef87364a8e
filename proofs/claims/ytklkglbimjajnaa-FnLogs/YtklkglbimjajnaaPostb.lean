/- A letter is looked at; one is taken out. -/
import Derived.Test.YtklkglbimjajnaaPost
namespace Go.Proofs.Ytklkglbimjajnaa.postb
open Go.ChangeShapes Go.WideShapes Go.ChangeAt Go.RowKit
open Go.Proofs.Ytklkglbimjajnaa.Raft Go.Proofs.Ytklkglbimjajnaa.mem Go.Proofs.Ytklkglbimjajnaa.grp Go.Proofs.Ytklkglbimjajnaa.look Go.Proofs.Ytklkglbimjajnaa.ndw Go.Proofs.Ytklkglbimjajnaa.grant Go.Proofs.Ytklkglbimjajnaa.post
set_option linter.unusedVariables false

theorem map_erase {α β : Type} (f : α → β) : ∀ (l : List α) (i : Nat), (l.eraseIdx i).map f = (l.map f).eraseIdx i
  | [], _ => rfl
  | x :: l, 0 => rfl
  | x :: l, i + 1 => by simp [map_erase f l i]
section
variable {w w' : World} {M M' : Fz} {O O' : Lb} {d hd : Nat} {nb : List Nat} {c : Cl} {pv cv : Value} {bs : List Nat} {us : List MV} {cs : List RV}
/-- All blocks of the group are as they were. -/
theorem Gr.same (h : Gr w M O d hd nb c pv cv bs us cs) (hI : In M w') (hs : w.heap.size ≤ w'.heap.size) (hk : ∀ b l, O b = some l → w'.heap[b]? = w.heap[b]?) : Gr w' M O d hd nb c pv cv bs us cs where
  st := ⟨hI, fun b l hb => ⟨(h.st.ok b l hb).1, Nat.lt_of_lt_of_le (h.st.ok b l hb).2 hs⟩⟩
  blk := (hk d 0 h.own).trans h.blk
  own := h.own
  peers := h.peers
  len := h.len
  nodes := fun j b p hb hp => by
    obtain ⟨us', lv, vv, nv, mv, hnd⟩ := h.nodes j b p hb hp
    exact ⟨us', lv, vv, nv, mv, hnd.keep (fun x hx => hk x _ hx) (Le.refl _) (fun _ hx => hx)⟩
  post := h.post.keep (fun x hx => hk x _ hx) (Le.refl _) (fun _ hx => hx)
  nets := h.nets
  chos := h.chos.keep (fun x hx => hk x _ hx) (Le.refl _) (fun _ hx => hx)
  chosen := h.chosen
theorem Aft.setNew {S : Nat → Prop} (h : Aft S M O w M' O' w') {b : Nat} (hb : w.heap.size ≤ b) (hm : M' b = none) (i : Nat) (v : Value) : Aft S M O w M' O' (w'.setCell ⟨b, i, none⟩ v) where
  os := h.os
  tape := h.tape
  output := h.output
  size := by simpa using h.size
  le := h.le
  inn := h.inn.set hm v
  lab := h.lab
  ok := fun b' l' hl' => ⟨(h.ok b' l' hl').1, by simpa using (h.ok b' l' hl').2⟩
  newM := h.newM
  newL := h.newL
  keep := fun b' hlt hk => (Below.heap_setCell w' ⟨b, i, none⟩ v b' (fun e => by have e : b' = b := e; omega)).trans (h.keep b' hlt hk)
theorem setsNew {S : Nat → Prop} {b : Nat} (hb : w.heap.size ≤ b) (hm : M' b = none) : ∀ (l : List (Nat × Value)) {w' : World}, Aft S M O w M' O' w' → Aft S M O w M' O' (sets w' b l)
  | [], _, h => h
  | (i, v) :: l, _, h => setsNew hb hm l (Aft.setNew h hb hm i v)

/-- A letter is taken out: the one ahead of it leads to the one behind it. -/
theorem Gr.taken (h : Gr w M O d hd nb c pv cv bs us cs) {W : World} (hW : Below w.heap.size w W) {i b t : Nat} (hb : (hd :: bs)[i]? = some b) (ht : bs[i]? = some t) :
    Gr ((W.setCell ⟨b, 9, none⟩ (ptr bs[i + 1]?)).setCell ⟨d, 1, none⟩ (.int .i64 ((us.length : Int) - 1))) M O d hd nb { c with net := c.net.eraseIdx i } pv cv (bs.eraseIdx i) (us.eraseIdx i) cs ∧
    Aft (fun l => l < 3) M O w M O ((W.setCell ⟨b, 9, none⟩ (ptr bs[i + 1]?)).setCell ⟨d, 1, none⟩ (.int .i64 ((us.length : Int) - 1))) := by
  have hlen := h.post.len
  have hit := (List.getElem?_eq_some_iff.1 ht).1
  have hbO : O b = some 2 := h.post.lab b (List.mem_iff_getElem?.2 ⟨_, hb⟩)
  have hbl : b < w.heap.size := (h.st.ok b 2 hbO).2
  have hdl : d < w.heap.size := Gr.lt h
  have hbd : b ≠ d := fun e => by rw [e, h.own] at hbO; cases hbO
  have a1 : Aft (fun l => l < 3) M O w M O W := (Aft.refl _ h.st).below hW
  have a3 := (a1.set (b := b) (l := 2) hbO (by decide) 9 (ptr bs[i + 1]?)).set (b := d) (l := 0) h.own (by decide) 1 (.int .i64 ((us.length : Int) - 1))
  refine ⟨?_, a3⟩
  have hd2 : W.heap[d]? = some (.cells #[.pointer (some ⟨hd, 0, none⟩), .int .i64 us.length, pv, cv, .bool c.conflict] 105 (0, 0)) := (hW.block d hdl).trans h.blk
  refine h.part (c' := { c with net := c.net.eraseIdx i }) a3 rfl ?_ ?_ ?_ ?_ h.chosen
  · have h1 : (W.setCell ⟨b, 9, none⟩ (ptr bs[i + 1]?)).heap[d]? = some (.cells #[.pointer (some ⟨hd, 0, none⟩), .int .i64 us.length, pv, cv, .bool c.conflict] 105 (0, 0)) := (Below.heap_setCell _ _ _ d (fun e => hbd e.symm)).trans hd2
    have h2 := set_at h1 1 (.int .i64 ((us.length : Int) - 1)) rfl
    rw [h2]
    have e : ((us.eraseIdx i).length : Int) = (us.length : Int) - 1 := by rw [List.length_eraseIdx_of_lt (by omega)]; omega
    rw [e]
    rfl
  · have hold : ∀ y ∈ hd :: bs, y < w.heap.size ∧ y ≠ d := fun y hy => ⟨(h.st.ok y 2 (h.post.lab y hy)).2, fun e => by have := h.post.lab y hy; rw [e, h.own] at this; cases this⟩
    have hsub : ∀ y, y ∈ hd :: bs.eraseIdx i → y ∈ hd :: bs := fun y hy => by
      rcases List.mem_cons.1 hy with e | e
      · exact List.mem_cons.2 (.inl e)
      · exact List.mem_cons.2 (.inr (List.mem_of_mem_eraseIdx e))
    refine ⟨by rw [List.length_eraseIdx_of_lt hit, List.length_eraseIdx_of_lt (by omega)]; omega, ?_, fun y hy => h.post.lab y (hsub y hy), ?_, fun y hy => h.post.logs y (List.mem_of_mem_eraseIdx hy)⟩
    · have := h.post.nodup
      rw [List.nodup_cons] at this ⊢
      exact ⟨fun hm => this.1 (List.mem_of_mem_eraseIdx hm), this.2.sublist (List.eraseIdx_sublist _ _)⟩
    · intro j y x hy hx
      have key : ∀ j', (hd :: bs)[j']? = some y → (mv0 :: us)[j']? = some x → (j' ≠ i ∧ bs[j']? = (bs.eraseIdx i)[j]?) ∨ (j' = i ∧ (bs.eraseIdx i)[j]? = bs[i + 1]?) → ((W.setCell ⟨b, 9, none⟩ (ptr bs[i + 1]?)).setCell ⟨d, 1, none⟩ (.int .i64 ((us.length : Int) - 1))).heap[y]? = some (.cells (letter x (bs.eraseIdx i)[j]?) 100 (0, 0)) := fun j' q1 q2 q3 => by
        have hym := hold y (List.mem_iff_getElem?.2 ⟨j', q1⟩)
        have hblk := (hW.block y hym.1).trans (h.post.blk j' y x q1 q2)
        rw [Below.heap_setCell _ _ _ y hym.2]
        rcases q3 with ⟨q3, q4⟩ | ⟨q3, q4⟩
        · have hyb : y ≠ b := fun e' => by
            subst e'
            exact q3 ((List.getElem?_inj (List.getElem?_eq_some_iff.1 q1).1 h.post.nodup).1 (by rw [q1, hb]))
          rw [Below.heap_setCell _ _ _ y hyb, hblk, q4]
        · subst q3
          have e' : y = b := by rw [hb] at q1; exact (Option.some.inj q1).symm
          subst e'
          rw [q4]
          exact set_at hblk 9 _ rfl
      rcases Nat.lt_trichotomy j i with hji | hji | hji
      · refine key j ?_ ?_ (.inl ⟨by omega, ?_⟩)
        · cases j with
          | zero => exact hy
          | succ j => rw [List.getElem?_cons_succ, List.getElem?_eraseIdx_of_lt (by omega)] at hy; exact hy
        · cases j with
          | zero => exact hx
          | succ j => rw [List.getElem?_cons_succ, List.getElem?_eraseIdx_of_lt (by omega)] at hx; exact hx
        · rw [List.getElem?_eraseIdx_of_lt hji]
      · subst hji
        refine key j ?_ ?_ (.inr ⟨rfl, by rw [List.getElem?_eraseIdx_of_ge (Nat.le_refl _)]⟩)
        · cases j with
          | zero => exact hy
          | succ j => rw [List.getElem?_cons_succ, List.getElem?_eraseIdx_of_lt (by omega)] at hy; exact hy
        · cases j with
          | zero => exact hx
          | succ j => rw [List.getElem?_cons_succ, List.getElem?_eraseIdx_of_lt (by omega)] at hx; exact hx
      · cases j with
        | zero => omega
        | succ j =>
          rw [List.getElem?_cons_succ, List.getElem?_eraseIdx_of_ge (by omega)] at hy hx
          exact key (j + 2) hy hx (.inl ⟨by omega, by rw [List.getElem?_eraseIdx_of_ge (by omega)]⟩)
  · rw [← h.nets]; exact map_erase _ us i
  · have hk : ∀ x', O x' = some 1 → ((W.setCell ⟨b, 9, none⟩ (ptr bs[i + 1]?)).setCell ⟨d, 1, none⟩ (.int .i64 ((us.length : Int) - 1))).heap[x']? = w.heap[x']? := fun x' hx' => by
      rw [Below.heap_setCell _ _ _ x' (fun e => by have e : x' = d := e; rw [e, h.own] at hx'; cases hx'), Below.heap_setCell _ _ _ x' (fun e => by have e : x' = b := e; rw [e, hbO] at hx'; cases hx')]
      exact hW.block x' (h.st.ok x' 1 hx').2
    exact h.chos.keep hk (Le.refl _) (fun _ hx' => hx')
end
set_option maxRecDepth 20000 in
set_option maxHeartbeats 1600000 in
/-- The walk: b ahead of the letter t, nx behind it. -/
theorem take_core (w W : World) (hW : w.alloc (.cells #[.int .i64 0, .int .i64 0, .int .i64 0, .int .i64 0, .int .i64 0, .int .i64 0, .int .i64 0, .bool false, .slice none 0 0] 98) = W) (d b t i U : Nat) (np : Option Addr) (x : MV) (o : Option Addr) (n lc : Nat) (hU : 1 ≤ U) (hU2 : U ≤ 200)
    (c1 : W.cell? ⟨d, 1, none⟩ = some (.int .i64 U)) (f1 : W.frozen? ⟨d, 1, none⟩ = false) (cb : W.cell? ⟨b, 9, none⟩ = some (.pointer (some ⟨t, 0, none⟩))) (fb : W.frozen? ⟨b, 9, none⟩ = false)
    (ct : W.heap[t]? = some (.cells #[.int .i64 x.m.kind, .int .i64 x.m.frm, .int .i64 x.m.to, .int .i64 x.m.term, .int .i64 x.m.a, .int .i64 x.m.b, .int .i64 x.m.c, .bool x.m.ok, .slice o n lc, .pointer np] 100 (0, 0)))
    (hbt : ¬ (b = t)) (hdt : ¬ (d = t)) (hbd : ¬ (b = d)) (hb : b < w.heap.size) (ht : t < w.heap.size) (hd : d < w.heap.size)
    (HA : Hid (Calls Try.prog 132 #[.pointer (some ⟨d, 0, none⟩), .int .i64 i] W fun r w' => r = .returned (.pointer (some ⟨b, 0, none⟩)) ∧ w' = W)) :
    Calls Try.prog 91 #[.pointer (some ⟨d, 0, none⟩), .int .i64 i] w fun r w' => r = .returned (.agg #[.int .i64 x.m.kind, .int .i64 x.m.frm, .int .i64 x.m.to, .int .i64 x.m.term, .int .i64 x.m.a, .int .i64 x.m.b, .int .i64 x.m.c, .bool x.m.ok, .slice o n lc]) ∧ w' = sets ((W.setCell ⟨b, 9, none⟩ (.pointer np)).setCell ⟨d, 1, none⟩ (.int .i64 ((U : Int) - 1))) w.heap.size [(0, .int .i64 x.m.kind), (1, .int .i64 x.m.frm), (2, .int .i64 x.m.to), (3, .int .i64 x.m.term), (4, .int .i64 x.m.a), (5, .int .i64 x.m.b), (6, .int .i64 x.m.c), (7, .bool x.m.ok), (8, .slice o n lc)] := by
  have k0 : W.cell? ⟨t, 0, none⟩ = some (.int .i64 x.m.kind) := cell_of ct rfl
  have k1 : W.cell? ⟨t, 1, none⟩ = some (.int .i64 x.m.frm) := cell_of ct rfl
  have k2 : W.cell? ⟨t, 2, none⟩ = some (.int .i64 x.m.to) := cell_of ct rfl
  have k3 : W.cell? ⟨t, 3, none⟩ = some (.int .i64 x.m.term) := cell_of ct rfl
  have k4 : W.cell? ⟨t, 4, none⟩ = some (.int .i64 x.m.a) := cell_of ct rfl
  have k5 : W.cell? ⟨t, 5, none⟩ = some (.int .i64 x.m.b) := cell_of ct rfl
  have k6 : W.cell? ⟨t, 6, none⟩ = some (.int .i64 x.m.c) := cell_of ct rfl
  have k7 : W.cell? ⟨t, 7, none⟩ = some (.bool x.m.ok) := cell_of ct rfl
  have k8 : W.cell? ⟨t, 8, none⟩ = some (.slice o n lc) := cell_of ct rfl
  have k9 : W.cell? ⟨t, 9, none⟩ = some (.pointer np) := cell_of ct rfl
  have hnb : ¬ (w.heap.size = b) := by omega
  have hnd : ¬ (w.heap.size = d) := by omega
  have hnt : ¬ (w.heap.size = t) := by omega
  have hbn : ¬ (b = w.heap.size) := by omega
  have hdn : ¬ (d = w.heap.size) := by omega
  have htb : ¬ (t = b) := fun e => hbt e.symm
  have htd : ¬ (t = d) := fun e => hdt e.symm
  have hdb : ¬ (d = b) := fun e => hbd e.symm
  have hUI : (1 : Int) ≤ U := by omega
  have hUI2 : (U : Int) ≤ 200 := by omega
  have hbx : W.heap[w.heap.size]? = some (.cells #[.int .i64 0, .int .i64 0, .int .i64 0, .int .i64 0, .int .i64 0, .int .i64 0, .int .i64 0, .bool false, .slice none 0 0] 98 (0, 0)) := by rw [← hW]; exact heap_alloc_new w _
  have z0 := cell_of (i := 0) hbx (v := .int .i64 0) rfl
  have z1 := cell_of (i := 1) hbx (v := .int .i64 0) rfl
  have z2 := cell_of (i := 2) hbx (v := .int .i64 0) rfl
  have z3 := cell_of (i := 3) hbx (v := .int .i64 0) rfl
  have z4 := cell_of (i := 4) hbx (v := .int .i64 0) rfl
  have z5 := cell_of (i := 5) hbx (v := .int .i64 0) rfl
  have z6 := cell_of (i := 6) hbx (v := .int .i64 0) rfl
  have z7 := cell_of (i := 7) hbx (v := .bool false) rfl
  have z8 := cell_of (i := 8) hbx (v := .slice none 0 0) rfl
  have y0 := frozen_of hbx 0
  have y1 := frozen_of hbx 1
  have y2 := frozen_of hbx 2
  have y3 := frozen_of hbx 3
  have y4 := frozen_of hbx 4
  have y5 := frozen_of hbx 5
  have y6 := frozen_of hbx 6
  have y7 := frozen_of hbx 7
  have y8 := frozen_of hbx 8
  have HBX := hide hbx
  clear ct hbx
  go_enter Try.func91, Try.ntmps91
  go_wp2_with (go_at_call 132; refine HA.out.mono ?_; rintro e w' ⟨rfl, hw'⟩; have hw2 := hw'.symm; subst hw2; clear hw')
  obtain ⟨WF, hWF⟩ : ∃ WF, sets ((W.setCell ⟨b, 9, none⟩ (.pointer np)).setCell ⟨d, 1, none⟩ (.int .i64 ((U : Int) - 1))) w.heap.size [(0, .int .i64 x.m.kind), (1, .int .i64 x.m.frm), (2, .int .i64 x.m.to), (3, .int .i64 x.m.term), (4, .int .i64 x.m.a), (5, .int .i64 x.m.b), (6, .int .i64 x.m.c), (7, .bool x.m.ok), (8, .slice o n lc)] = WF := ⟨_, rfl⟩
  have hblk : WF.heap[w.heap.size]? = some (.cells #[.int .i64 x.m.kind, .int .i64 x.m.frm, .int .i64 x.m.to, .int .i64 x.m.term, .int .i64 x.m.a, .int .i64 x.m.b, .int .i64 x.m.c, .bool x.m.ok, .slice o n lc] 98 (0, 0)) := by
    rw [← hWF]
    have q1 : ((W.setCell ⟨b, 9, none⟩ (.pointer np)).setCell ⟨d, 1, none⟩ (.int .i64 ((U : Int) - 1))).heap[w.heap.size]? = some (.cells #[.int .i64 0, .int .i64 0, .int .i64 0, .int .i64 0, .int .i64 0, .int .i64 0, .int .i64 0, .bool false, .slice none 0 0] 98 (0, 0)) := by
      rw [Below.heap_setCell _ _ _ _ hnd, Below.heap_setCell _ _ _ _ hnb]
      exact HBX.out
    have q2 := sets_at [(0, .int .i64 x.m.kind), (1, .int .i64 x.m.frm), (2, .int .i64 x.m.to), (3, .int .i64 x.m.term), (4, .int .i64 x.m.a), (5, .int .i64 x.m.b), (6, .int .i64 x.m.c), (7, .bool x.m.ok), (8, .slice o n lc)] q1
    have e : setsA #[.int .i64 0, .int .i64 0, .int .i64 0, .int .i64 0, .int .i64 0, .int .i64 0, .int .i64 0, .bool false, .slice none 0 0] [(0, .int .i64 x.m.kind), (1, .int .i64 x.m.frm), (2, .int .i64 x.m.to), (3, .int .i64 x.m.term), (4, .int .i64 x.m.a), (5, .int .i64 x.m.b), (6, .int .i64 x.m.c), (7, .bool x.m.ok), (8, .slice o n lc)] = #[.int .i64 x.m.kind, .int .i64 x.m.frm, .int .i64 x.m.to, .int .i64 x.m.term, .int .i64 x.m.a, .int .i64 x.m.b, .int .i64 x.m.c, .bool x.m.ok, .slice o n lc] := by simp [setsA]
    rw [e] at q2
    exact q2
  have g0 := cell_of (i := 0) hblk (v := .int .i64 x.m.kind) rfl
  have g1 := cell_of (i := 1) hblk (v := .int .i64 x.m.frm) rfl
  have g2 := cell_of (i := 2) hblk (v := .int .i64 x.m.to) rfl
  have g3 := cell_of (i := 3) hblk (v := .int .i64 x.m.term) rfl
  have g4 := cell_of (i := 4) hblk (v := .int .i64 x.m.a) rfl
  have g5 := cell_of (i := 5) hblk (v := .int .i64 x.m.b) rfl
  have g6 := cell_of (i := 6) hblk (v := .int .i64 x.m.c) rfl
  have g7 := cell_of (i := 7) hblk (v := .bool x.m.ok) rfl
  have g8 := cell_of (i := 8) hblk (v := .slice o n lc) rfl
  unfold sets at hWF
  simp only [sets] at hWF
  rw [hWF]
  refine bodyPost_ret (v := .agg #[.int .i64 x.m.kind, .int .i64 x.m.frm, .int .i64 x.m.to, .int .i64 x.m.term, .int .i64 x.m.a, .int .i64 x.m.b, .int .i64 x.m.c, .bool x.m.ok, .slice o n lc]) ?_ rfl ⟨rfl, ?_⟩
  · simp [results, Try.results91, go_sem, g0, g1, g2, g3, g4, g5, g6, g7, g8]
  · rw [← hWF]; rfl
/-- Behind a letter that was taken out. -/
def TakenE (M : Fz) (O : Lb) (w : World) (d : Nat) (nb : List Nat) (c' : Cl) (m : Msg) (r : Ending) (w' : World) : Prop :=
  ∃ (o : Option Addr) (n lc : Nat), r = .returned (.agg #[.int .i64 m.kind, .int .i64 m.frm, .int .i64 m.to, .int .i64 m.term, .int .i64 m.a, .int .i64 m.b, .int .i64 m.c, .bool m.ok, .slice o n lc]) ∧ RecsM M (.slice o n lc) m.log ∧ Did M O w d nb c' w'
theorem recs_slice {M : Fz} {v : Value} {l : List Rc} (h : RecsM M v l) : ∃ o n c, v = .slice o n c := by
  obtain ⟨us, _, ⟨ao, cap, e, _⟩, _⟩ := h
  exact ⟨_, _, _, e⟩
theorem takeOut_any (w : World) (M : Fz) (O : Lb) (d : Nat) (nb : List Nat) (c : Cl) (h : G w M O d nb c) (i : Nat) (m : Msg) (hm : c.net[i]? = some m) (hU : c.net.length ≤ 200) :
    Calls Try.prog 91 #[.pointer (some ⟨d, 0, none⟩), .int .i64 i] w fun r w' => TakenE M O w d nb { c with net := c.net.eraseIdx i } m r w' := by
  obtain ⟨hd, pv, cv, bs, us, cs, h⟩ := h
  have hil := (List.getElem?_eq_some_iff.1 hm).1
  have hnl : c.net.length = us.length := by rw [← h.nets]; simp
  have hlen := h.post.len
  rw [← h.nets, List.getElem?_map, Option.map_eq_some_iff] at hm
  obtain ⟨x, hx, rfl⟩ := hm
  obtain ⟨b, hb⟩ : ∃ b, (hd :: bs)[i]? = some b := ⟨_, List.getElem?_eq_getElem (by simp; omega)⟩
  obtain ⟨t, ht⟩ : ∃ t, bs[i]? = some t := ⟨_, List.getElem?_eq_getElem (by omega)⟩
  have hlog := h.post.logs x (List.mem_iff_getElem?.2 ⟨i, hx⟩)
  obtain ⟨o, n, lc, ho⟩ := recs_slice hlog
  obtain ⟨W, hW⟩ : ∃ W, w.alloc (.cells #[.int .i64 0, .int .i64 0, .int .i64 0, .int .i64 0, .int .i64 0, .int .i64 0, .int .i64 0, .bool false, .slice none 0 0] 98) = W := ⟨_, rfl⟩
  have bW : Below w.heap.size w W := by rw [← hW]; exact more (Below.refl _ _) _
  have hRW : Gr W M O d hd nb c pv cv bs us cs := h.keep ((Aft.refl _ h.st).below bW)
  have hbm : b ∈ hd :: bs := List.mem_iff_getElem?.2 ⟨_, hb⟩
  have htm : t ∈ hd :: bs := List.mem_cons.2 (.inr (List.mem_iff_getElem?.2 ⟨_, ht⟩))
  have hbO := h.post.lab b hbm
  have htO := h.post.lab t htm
  have ht1 : (hd :: bs)[i + 1]? = some t := ht
  have hbt : ¬ (b = t) := fun e => by
    subst e
    have := (List.getElem?_inj (j := i + 1) (List.getElem?_eq_some_iff.1 hb).1 h.post.nodup).1 (by rw [hb, ht1])
    omega
  have hne : ∀ y, O y = some 2 → y ≠ d := fun y hy e => by rw [e, h.own] at hy; cases hy
  have hct := hRW.post.blk (i + 1) t x ht1 hx
  have hcb := Pst.nx hRW.post hb
  rw [ht] at hcb
  have hca := Gr.ca hRW
  refine (take_core w W hW d b t i us.length (bs[i + 1]?.map fun b => ⟨b, 0, none⟩) x o n lc (by omega) (by omega) hca.1.2.1 hca.2.2.1 hcb.1 hcb.2 (by rw [hct]; simp [letter, ho]) hbt (fun e => hne t htO e.symm) (hne b hbO) (h.st.ok b 2 hbO).2 (h.st.ok t 2 htO).2 (Gr.lt h)
    (ahead_any W M O d hd bs us hca.1.1 hRW.post i b hb (by omega))).mono ?_
  rintro r w' ⟨rfl, rfl⟩
  obtain ⟨h1, h2⟩ := Gr.taken h bW hb ht
  have hfr := h.st.fresh (Nat.le_refl w.heap.size)
  have a := setsNew (b := w.heap.size) (Nat.le_refl _) hfr.2 [(0, .int .i64 x.m.kind), (1, .int .i64 x.m.frm), (2, .int .i64 x.m.to), (3, .int .i64 x.m.term), (4, .int .i64 x.m.a), (5, .int .i64 x.m.b), (6, .int .i64 x.m.c), (7, .bool x.m.ok), (8, .slice o n lc)] h2
  refine ⟨o, n, lc, rfl, by rw [← ho]; exact hlog, M, O, a.mono (fun _ _ => trivial), hd, pv, cv, bs.eraseIdx i, us.eraseIdx i, cs, ?_⟩
  refine Gr.same h1 a.inn ?_ (fun y l hy => sets_ne _ _ (fun e => by rw [e, hfr.1] at hy; cases hy))
  have := a.size
  have h3 := h1.st
  exact Nat.le_of_eq (by
    clear a h1 h2 this h3
    simp [sets])

set_option maxRecDepth 20000 in
set_option maxHeartbeats 1600000 in
theorem peek_core (w W : World) (hW : w.alloc (.cells #[.int .i64 0, .int .i64 0, .int .i64 0, .int .i64 0, .int .i64 0, .int .i64 0, .int .i64 0, .bool false, .slice none 0 0] 98) = W) (d b t i : Nat) (np : Option Addr) (x : MV) (o : Option Addr) (n lc : Nat)
    (cb : W.cell? ⟨b, 9, none⟩ = some (.pointer (some ⟨t, 0, none⟩)))
    (ct : W.heap[t]? = some (.cells #[.int .i64 x.m.kind, .int .i64 x.m.frm, .int .i64 x.m.to, .int .i64 x.m.term, .int .i64 x.m.a, .int .i64 x.m.b, .int .i64 x.m.c, .bool x.m.ok, .slice o n lc, .pointer np] 100 (0, 0))) (ht : t < w.heap.size)
    (HA : Hid (Calls Try.prog 132 #[.pointer (some ⟨d, 0, none⟩), .int .i64 i] W fun r w' => r = .returned (.pointer (some ⟨b, 0, none⟩)) ∧ w' = W)) :
    Calls Try.prog 93 #[.pointer (some ⟨d, 0, none⟩), .int .i64 i] w fun r w' => r = .returned (.agg #[.int .i64 x.m.kind, .int .i64 x.m.frm, .int .i64 x.m.to, .int .i64 x.m.term, .int .i64 x.m.a, .int .i64 x.m.b, .int .i64 x.m.c, .bool x.m.ok, .slice o n lc]) ∧ w' = sets W w.heap.size [(0, .int .i64 x.m.kind), (1, .int .i64 x.m.frm), (2, .int .i64 x.m.to), (3, .int .i64 x.m.term), (4, .int .i64 x.m.a), (5, .int .i64 x.m.b), (6, .int .i64 x.m.c), (7, .bool x.m.ok), (8, .slice o n lc)] := by
  have k0 : W.cell? ⟨t, 0, none⟩ = some (.int .i64 x.m.kind) := cell_of ct rfl
  have k1 : W.cell? ⟨t, 1, none⟩ = some (.int .i64 x.m.frm) := cell_of ct rfl
  have k2 : W.cell? ⟨t, 2, none⟩ = some (.int .i64 x.m.to) := cell_of ct rfl
  have k3 : W.cell? ⟨t, 3, none⟩ = some (.int .i64 x.m.term) := cell_of ct rfl
  have k4 : W.cell? ⟨t, 4, none⟩ = some (.int .i64 x.m.a) := cell_of ct rfl
  have k5 : W.cell? ⟨t, 5, none⟩ = some (.int .i64 x.m.b) := cell_of ct rfl
  have k6 : W.cell? ⟨t, 6, none⟩ = some (.int .i64 x.m.c) := cell_of ct rfl
  have k7 : W.cell? ⟨t, 7, none⟩ = some (.bool x.m.ok) := cell_of ct rfl
  have k8 : W.cell? ⟨t, 8, none⟩ = some (.slice o n lc) := cell_of ct rfl
  have k9 : W.cell? ⟨t, 9, none⟩ = some (.pointer np) := cell_of ct rfl
  have hnt : ¬ (w.heap.size = t) := by omega
  have hbx : W.heap[w.heap.size]? = some (.cells #[.int .i64 0, .int .i64 0, .int .i64 0, .int .i64 0, .int .i64 0, .int .i64 0, .int .i64 0, .bool false, .slice none 0 0] 98 (0, 0)) := by rw [← hW]; exact heap_alloc_new w _
  have z0 := cell_of (i := 0) hbx (v := .int .i64 0) rfl
  have z1 := cell_of (i := 1) hbx (v := .int .i64 0) rfl
  have z2 := cell_of (i := 2) hbx (v := .int .i64 0) rfl
  have z3 := cell_of (i := 3) hbx (v := .int .i64 0) rfl
  have z4 := cell_of (i := 4) hbx (v := .int .i64 0) rfl
  have z5 := cell_of (i := 5) hbx (v := .int .i64 0) rfl
  have z6 := cell_of (i := 6) hbx (v := .int .i64 0) rfl
  have z7 := cell_of (i := 7) hbx (v := .bool false) rfl
  have z8 := cell_of (i := 8) hbx (v := .slice none 0 0) rfl
  have y0 := frozen_of hbx 0
  have y1 := frozen_of hbx 1
  have y2 := frozen_of hbx 2
  have y3 := frozen_of hbx 3
  have y4 := frozen_of hbx 4
  have y5 := frozen_of hbx 5
  have y6 := frozen_of hbx 6
  have y7 := frozen_of hbx 7
  have y8 := frozen_of hbx 8
  have HBX := hide hbx
  clear ct hbx
  go_enter Try.func93, Try.ntmps93
  go_wp2_with (go_at_call 132; refine HA.out.mono ?_; rintro e w' ⟨rfl, hw'⟩; have hw2 := hw'.symm; subst hw2; clear hw')
  obtain ⟨WF, hWF⟩ : ∃ WF, sets W w.heap.size [(0, .int .i64 x.m.kind), (1, .int .i64 x.m.frm), (2, .int .i64 x.m.to), (3, .int .i64 x.m.term), (4, .int .i64 x.m.a), (5, .int .i64 x.m.b), (6, .int .i64 x.m.c), (7, .bool x.m.ok), (8, .slice o n lc)] = WF := ⟨_, rfl⟩
  have hblk : WF.heap[w.heap.size]? = some (.cells #[.int .i64 x.m.kind, .int .i64 x.m.frm, .int .i64 x.m.to, .int .i64 x.m.term, .int .i64 x.m.a, .int .i64 x.m.b, .int .i64 x.m.c, .bool x.m.ok, .slice o n lc] 98 (0, 0)) := by
    rw [← hWF]
    have q2 := sets_at [(0, .int .i64 x.m.kind), (1, .int .i64 x.m.frm), (2, .int .i64 x.m.to), (3, .int .i64 x.m.term), (4, .int .i64 x.m.a), (5, .int .i64 x.m.b), (6, .int .i64 x.m.c), (7, .bool x.m.ok), (8, .slice o n lc)] HBX.out
    have e : setsA #[.int .i64 0, .int .i64 0, .int .i64 0, .int .i64 0, .int .i64 0, .int .i64 0, .int .i64 0, .bool false, .slice none 0 0] [(0, .int .i64 x.m.kind), (1, .int .i64 x.m.frm), (2, .int .i64 x.m.to), (3, .int .i64 x.m.term), (4, .int .i64 x.m.a), (5, .int .i64 x.m.b), (6, .int .i64 x.m.c), (7, .bool x.m.ok), (8, .slice o n lc)] = #[.int .i64 x.m.kind, .int .i64 x.m.frm, .int .i64 x.m.to, .int .i64 x.m.term, .int .i64 x.m.a, .int .i64 x.m.b, .int .i64 x.m.c, .bool x.m.ok, .slice o n lc] := by simp [setsA]
    rw [e] at q2
    exact q2
  have g0 := cell_of (i := 0) hblk (v := .int .i64 x.m.kind) rfl
  have g1 := cell_of (i := 1) hblk (v := .int .i64 x.m.frm) rfl
  have g2 := cell_of (i := 2) hblk (v := .int .i64 x.m.to) rfl
  have g3 := cell_of (i := 3) hblk (v := .int .i64 x.m.term) rfl
  have g4 := cell_of (i := 4) hblk (v := .int .i64 x.m.a) rfl
  have g5 := cell_of (i := 5) hblk (v := .int .i64 x.m.b) rfl
  have g6 := cell_of (i := 6) hblk (v := .int .i64 x.m.c) rfl
  have g7 := cell_of (i := 7) hblk (v := .bool x.m.ok) rfl
  have g8 := cell_of (i := 8) hblk (v := .slice o n lc) rfl
  simp only [sets] at hWF
  rw [hWF]
  refine bodyPost_ret (v := .agg #[.int .i64 x.m.kind, .int .i64 x.m.frm, .int .i64 x.m.to, .int .i64 x.m.term, .int .i64 x.m.a, .int .i64 x.m.b, .int .i64 x.m.c, .bool x.m.ok, .slice o n lc]) ?_ rfl ⟨rfl, ?_⟩
  · simp [results, Try.results93, go_sem, g0, g1, g2, g3, g4, g5, g6, g7, g8]
  · rw [← hWF]; rfl
/-- Behind a letter that was looked at. -/
def PeekE (M : Fz) (w : World) (m : Msg) (r : Ending) (w' : World) : Prop :=
  ∃ (o : Option Addr) (n lc : Nat), r = .returned (.agg #[.int .i64 m.kind, .int .i64 m.frm, .int .i64 m.to, .int .i64 m.term, .int .i64 m.a, .int .i64 m.b, .int .i64 m.c, .bool m.ok, .slice o n lc]) ∧ RecsM M (.slice o n lc) m.log ∧ Below w.heap.size w w'
theorem sets_below (w W : World) (h : Below w.heap.size w W) : ∀ (l : List (Nat × Value)) (W' : World), Below w.heap.size w W' → Below w.heap.size w (sets W' w.heap.size l)
  | [], _, h => h
  | (i, v) :: l, _, h => sets_below w W ‹_› l _ (h.setCell (Nat.le_refl _) v)
theorem peek_any (w : World) (M : Fz) (O : Lb) (d : Nat) (nb : List Nat) (c : Cl) (h : G w M O d nb c) (i : Nat) (m : Msg) (hm : c.net[i]? = some m) (hU : c.net.length ≤ 200) :
    Calls Try.prog 93 #[.pointer (some ⟨d, 0, none⟩), .int .i64 i] w fun r w' => PeekE M w m r w' := by
  obtain ⟨hd, pv, cv, bs, us, cs, h⟩ := h
  have hil := (List.getElem?_eq_some_iff.1 hm).1
  have hnl : c.net.length = us.length := by rw [← h.nets]; simp
  have hlen := h.post.len
  rw [← h.nets, List.getElem?_map, Option.map_eq_some_iff] at hm
  obtain ⟨x, hx, rfl⟩ := hm
  obtain ⟨b, hb⟩ : ∃ b, (hd :: bs)[i]? = some b := ⟨_, List.getElem?_eq_getElem (by simp; omega)⟩
  obtain ⟨t, ht⟩ : ∃ t, bs[i]? = some t := ⟨_, List.getElem?_eq_getElem (by omega)⟩
  have hlog := h.post.logs x (List.mem_iff_getElem?.2 ⟨i, hx⟩)
  obtain ⟨o, n, lc, ho⟩ := recs_slice hlog
  obtain ⟨W, hW⟩ : ∃ W, w.alloc (.cells #[.int .i64 0, .int .i64 0, .int .i64 0, .int .i64 0, .int .i64 0, .int .i64 0, .int .i64 0, .bool false, .slice none 0 0] 98) = W := ⟨_, rfl⟩
  have bW : Below w.heap.size w W := by rw [← hW]; exact more (Below.refl _ _) _
  have hRW : Gr W M O d hd nb c pv cv bs us cs := h.keep ((Aft.refl _ h.st).below bW)
  have htm : t ∈ hd :: bs := List.mem_cons.2 (.inr (List.mem_iff_getElem?.2 ⟨_, ht⟩))
  have htO := h.post.lab t htm
  have ht1 : (hd :: bs)[i + 1]? = some t := ht
  have hct := hRW.post.blk (i + 1) t x ht1 hx
  have hcb := Pst.nx hRW.post hb
  rw [ht] at hcb
  have hca := Gr.ca hRW
  refine (peek_core w W hW d b t i (bs[i + 1]?.map fun b => ⟨b, 0, none⟩) x o n lc hcb.1 (by rw [hct]; simp [letter, ho]) (h.st.ok t 2 htO).2
    (ahead_any W M O d hd bs us hca.1.1 hRW.post i b hb (by omega))).mono ?_
  rintro r w' ⟨rfl, rfl⟩
  exact ⟨o, n, lc, rfl, by rw [← ho]; exact hlog, sets_below w W bW _ _ bW⟩
end Go.Proofs.Ytklkglbimjajnaa.postb

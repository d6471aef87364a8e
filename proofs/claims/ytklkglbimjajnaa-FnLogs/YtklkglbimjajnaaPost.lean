/- The letters on their way: what stands ahead of a place, one more, one taken out. -/
import Derived.Test.YtklkglbimjajnaaGrant
namespace Go.Proofs.Ytklkglbimjajnaa.post
open Go.ChangeShapes Go.WideShapes Go.ChangeAt Go.RowKit
open Go.Proofs.Ytklkglbimjajnaa.Raft Go.Proofs.Ytklkglbimjajnaa.mem Go.Proofs.Ytklkglbimjajnaa.grp Go.Proofs.Ytklkglbimjajnaa.look Go.Proofs.Ytklkglbimjajnaa.ndw Go.Proofs.Ytklkglbimjajnaa.grant
set_option linter.unusedVariables false

/-- The pointer to a letter, or none. -/
def ptr (o : Option Nat) : Value := .pointer (o.map fun b => ⟨b, 0, none⟩)
section
variable {w : World} {M : Fz} {O : Lb} {hd : Nat} {bs : List Nat} {us : List MV}
theorem Pst.nx (h : Pst w M O hd bs us) {i b : Nat} (hb : (hd :: bs)[i]? = some b) : w.cell? ⟨b, 9, none⟩ = some (ptr bs[i]?) ∧ w.frozen? ⟨b, 9, none⟩ = false := by
  have hlt := (List.getElem?_eq_some_iff.1 hb).1
  have hl := h.len
  obtain ⟨x, hx⟩ : ∃ x, (mv0 :: us)[i]? = some x := ⟨_, List.getElem?_eq_getElem (by simp at hlt ⊢; omega)⟩
  have := h.blk i b x hb hx
  exact ⟨cell_of this rfl, frozen_of this 9⟩
end

theorem ahead_any (w : World) (M : Fz) (O : Lb) (d hd : Nat) (bs : List Nat) (us : List MV) (c0 : w.cell? ⟨d, 0, none⟩ = some (.pointer (some ⟨hd, 0, none⟩))) (h : Pst w M O hd bs us) (i b : Nat) (hb : (hd :: bs)[i]? = some b) (hi : i ≤ 1000) :
    Calls Try.prog 132 #[.pointer (some ⟨d, 0, none⟩), .int .i64 i] w fun r w' => r = .returned (.pointer (some ⟨b, 0, none⟩)) ∧ w' = w := by
  have HB := hide hb
  have HX : Hid (∀ (j x : Nat), (hd :: bs)[j]? = some x → w.cell? ⟨x, 9, none⟩ = some (ptr bs[j]?)) := fun j x hx => (Pst.nx h hx).1
  clear h hb
  go_enter Try.func132, Try.ntmps132
  go_wp2
  go_loop [5, 11] (fun p jv => ∃ j x : Nat, j ≤ i ∧ jv = .int .i64 j ∧ p = .pointer (some ⟨x, 0, none⟩) ∧ Hid ((hd :: bs)[j]? = some x)) (fun _ jv => i - (intOf jv).toNat)
  case atStart => exact ⟨0, hd, Nat.zero_le _, rfl, rfl, rfl⟩
  case round =>
    obtain ⟨j, x, hj, rfl, rfl, HJ⟩ := hrel
    by_cases hlt : j < i
    · have hltI : (j : Int) < i := by omega
      obtain ⟨y, hy⟩ : ∃ y, bs[j]? = some y := by
        have := (List.getElem?_eq_some_iff.1 HB.out).1
        exact ⟨_, List.getElem?_eq_getElem (by simp at this; omega)⟩
      have c9 := HX.out j x HJ.out
      rw [hy] at c9
      simp only [ptr, Option.map_some] at c9
      have HY : Hid ((hd :: bs)[j + 1]? = some y) := hy
      clear hy
      go_wp2
      go_round
      case rel => exact ⟨j + 1, y, by omega, by go_num, rfl, HY⟩
      case measure => simp [intOf]; omega
    · have hltI : ¬ (j : Int) < i := by omega
      obtain rfl : j = i := by omega
      have e : x = b := by have h1 := HJ.out; have h2 := HB.out; rw [h1] at h2; exact Option.some.inj h2
      subst e
      go_wp2
      go_ret
      exact ⟨rfl, rfl⟩
section
variable {w w' : World} {M M' : Fz} {O O' : Lb} {d hd : Nat} {nb : List Nat} {c : Cl} {pv cv : Value} {bs : List Nat} {us : List MV} {cs : List RV}
theorem Gr.ca (h : Gr w M O d hd nb c pv cv bs us cs) : (w.cell? ⟨d, 0, none⟩ = some (.pointer (some ⟨hd, 0, none⟩)) ∧ w.cell? ⟨d, 1, none⟩ = some (.int .i64 us.length) ∧ w.cell? ⟨d, 2, none⟩ = some pv ∧ w.cell? ⟨d, 3, none⟩ = some cv ∧ w.cell? ⟨d, 4, none⟩ = some (.bool c.conflict)) ∧
    (w.frozen? ⟨d, 0, none⟩ = false ∧ w.frozen? ⟨d, 1, none⟩ = false ∧ w.frozen? ⟨d, 2, none⟩ = false ∧ w.frozen? ⟨d, 3, none⟩ = false ∧ w.frozen? ⟨d, 4, none⟩ = false) :=
  ⟨⟨cell_of h.blk rfl, cell_of h.blk rfl, cell_of h.blk rfl, cell_of h.blk rfl, cell_of h.blk rfl⟩, ⟨frozen_of h.blk _, frozen_of h.blk _, frozen_of h.blk _, frozen_of h.blk _, frozen_of h.blk _⟩⟩
theorem Gr.lt (h : Gr w M O d hd nb c pv cv bs us cs) : d < w.heap.size := (h.st.ok d 0 h.own).2

/-- One letter more: a new block, and the last one leads to it. -/
theorem Gr.sent (h : Gr w M O d hd nb c pv cv bs us cs) (x : MV) (hx : RecsM M x.lv x.m.log) {W : World} (hW : Below w.heap.size w W) {l : Nat} (hl : (hd :: bs)[us.length]? = some l) :
    Gr (((W.alloc (.cells (letter x none) 100)).setCell ⟨l, 9, none⟩ (.pointer (some ⟨W.heap.size, 0, none⟩))).setCell ⟨d, 1, none⟩ (.int .i64 ((us.length : Int) + 1))) M (lab O W.heap.size 2) d hd nb { c with net := c.net ++ [x.m] } pv cv (bs ++ [W.heap.size]) (us ++ [x]) cs ∧
    Aft (fun l => l < 3) M O w M (lab O W.heap.size 2) (((W.alloc (.cells (letter x none) 100)).setCell ⟨l, 9, none⟩ (.pointer (some ⟨W.heap.size, 0, none⟩))).setCell ⟨d, 1, none⟩ (.int .i64 ((us.length : Int) + 1))) := by
  have hsz := hW.size
  have hlen := h.post.len
  have hlO : O l = some 2 := h.post.lab l (List.mem_iff_getElem?.2 ⟨_, hl⟩)
  have hll : l < w.heap.size := (h.st.ok l 2 hlO).2
  have hdl : d < w.heap.size := Gr.lt h
  have hld : l ≠ d := fun e => by rw [e, h.own] at hlO; cases hlO
  have a1 : Aft (fun l => l < 3) M O w M O (W.alloc (.cells (letter x none) 100)) := ((Aft.refl _ h.st).below hW).alloc _
  have a2 := a1.label (b := W.heap.size) (l := 2) hsz (by simp) (h.st.inn.fresh hsz) (by decide)
  have a3 := (a2.set (b := l) (l := 2) (by rw [lab_ne O 2 (by omega)]; exact hlO) (by decide) 9 (.pointer (some ⟨W.heap.size, 0, none⟩))).set (b := d) (l := 0) (by rw [lab_ne O 2 (by omega)]; exact h.own) (by decide) 1 (.int .i64 ((us.length : Int) + 1))
  refine ⟨?_, a3⟩
  obtain ⟨W2, hW2⟩ : ∃ W2, W2 = W.alloc (.cells (letter x none) 100) := ⟨_, rfl⟩
  rw [← hW2] at a3 ⊢
  have hb2 : Below w.heap.size w W2 := by rw [hW2]; exact hW.alloc hsz _
  have hd2 : W2.heap[d]? = some (.cells #[.pointer (some ⟨hd, 0, none⟩), .int .i64 us.length, pv, cv, .bool c.conflict] 105 (0, 0)) := (hb2.block d hdl).trans h.blk
  refine h.part (c' := { c with net := c.net ++ [x.m] }) a3 rfl ?_ ?_ ?_ ?_ h.chosen
  · have h1 : (W2.setCell ⟨l, 9, none⟩ (.pointer (some ⟨W.heap.size, 0, none⟩))).heap[d]? = some (.cells #[.pointer (some ⟨hd, 0, none⟩), .int .i64 us.length, pv, cv, .bool c.conflict] 105 (0, 0)) := (Below.heap_setCell _ _ _ d (fun e => hld e.symm)).trans hd2
    have h2 := set_at h1 1 (.int .i64 ((us.length : Int) + 1)) rfl
    rw [h2]
    simp
  · have hkeep : ∀ b, b ≠ l → b ≠ d → ((W2.setCell ⟨l, 9, none⟩ (.pointer (some ⟨W.heap.size, 0, none⟩))).setCell ⟨d, 1, none⟩ (.int .i64 ((us.length : Int) + 1))).heap[b]? = W2.heap[b]? := fun b h1 h2 => by
      rw [Below.heap_setCell _ _ _ b h2, Below.heap_setCell _ _ _ b h1]
    have hold : ∀ b ∈ hd :: bs, b < w.heap.size ∧ b ≠ d := fun b hb => ⟨(h.st.ok b 2 (h.post.lab b hb)).2, fun e => by have := h.post.lab b hb; rw [e, h.own] at this; cases this⟩
    refine ⟨by simp [hlen], ?_, ?_, ?_, ?_⟩
    · rw [← List.cons_append, List.nodup_append]
      refine ⟨h.post.nodup, by simp, fun a ha b hb => ?_⟩
      simp only [List.mem_singleton] at hb
      have := (hold a ha).1
      omega
    · intro b hb
      rw [← List.cons_append, List.mem_append] at hb
      rcases hb with hb | hb
      · rw [lab_ne O 2 (by have := (hold b hb).1; omega)]; exact h.post.lab b hb
      · simp only [List.mem_singleton] at hb
        subst hb; exact lab_at _ _ _
    · intro i b y hb hy
      rw [← List.cons_append] at hb hy
      rcases Nat.lt_or_ge i (us.length + 1) with hi | hi
      · rw [List.getElem?_append_left (by simp; omega)] at hb hy
        have hbm := hold b (List.mem_iff_getElem?.2 ⟨i, hb⟩)
        have hblk := (hb2.block b hbm.1).trans (h.post.blk i b y hb hy)
        by_cases e : i = us.length
        · subst e
          have el : b = l := by rw [hl] at hb; exact (Option.some.inj hb).symm
          subst el
          rw [Below.heap_setCell _ _ _ b hbm.2]
          have h3 := set_at hblk 9 (.pointer (some ⟨W.heap.size, 0, none⟩)) rfl
          rw [h3]
          have e1 : bs[us.length]? = none := List.getElem?_eq_none (by omega)
          have e2 : (bs ++ [W.heap.size])[us.length]? = some W.heap.size := by rw [List.getElem?_append_right (by omega)]; simp [hlen]
          rw [e1, e2]
          rfl
        · have hbl : b ≠ l := fun e' => by
            subst e'
            have h5 := (List.getElem?_eq_some_iff.1 hb).1
            exact e ((List.getElem?_inj h5 h.post.nodup).1 (by rw [hb, hl]))
          rw [hkeep b hbl hbm.2, hblk, List.getElem?_append_left (by omega)]
      · have hi2 : i = us.length + 1 := by
          have := (List.getElem?_eq_some_iff.1 hy).1
          simp at this
          omega
        subst hi2
        rw [List.getElem?_append_right (by simp [hlen])] at hb
        rw [List.getElem?_append_right (by simp)] at hy
        simp [hlen] at hb hy
        subst hb hy
        rw [hkeep _ (by omega) (by omega), hW2, heap_alloc_new]
        have e1 : (bs ++ [W.heap.size])[us.length + 1]? = none := List.getElem?_eq_none (by simp [hlen])
        rw [e1]
    · intro y hy
      rcases List.mem_append.1 hy with hy | hy
      · exact h.post.logs y hy
      · simp only [List.mem_singleton] at hy
        subst hy; exact hx
  · simp [h.nets]
  · have hk : ∀ x', O x' = some 1 → ((W2.setCell ⟨l, 9, none⟩ (.pointer (some ⟨W.heap.size, 0, none⟩))).setCell ⟨d, 1, none⟩ (.int .i64 ((us.length : Int) + 1))).heap[x']? = w.heap[x']? := fun x' hx' => by
      rw [Below.heap_setCell _ _ _ x' (fun e => by have e : x' = d := e; rw [e, h.own] at hx'; cases hx'), Below.heap_setCell _ _ _ x' (fun e => by have e : x' = l := e; rw [e, hlO] at hx'; cases hx')]
      exact hb2.block x' (h.st.ok x' 1 hx').2
    exact h.chos.keep hk (Le.refl _) (fun x' hx' => by rw [lab_ne O 2 (by have := (h.st.ok x' 1 hx').2; omega)]; exact hx')
end
theorem sendC (c : Cl) (m : Msg) (h : c.net.length < 200) : c.send m = { c with net := c.net ++ [m] } := by unfold Cl.send; rw [if_pos h]

set_option maxRecDepth 20000 in
set_option maxHeartbeats 4000000 in
theorem send_any (w : World) (M : Fz) (O : Lb) (d : Nat) (nb : List Nat) (c : Cl) (h : G w M O d nb c) (m : Msg) (o : Option Addr) (n lc : Nat) (hlv : RecsM M (.slice o n lc) m.log) :
    Calls Try.prog 92 #[.pointer (some ⟨d, 0, none⟩), .agg #[.int .i64 m.kind, .int .i64 m.frm, .int .i64 m.to, .int .i64 m.term, .int .i64 m.a, .int .i64 m.b, .int .i64 m.c, .bool m.ok, .slice o n lc]] w fun r w' => r = .returned (.tuple #[]) ∧ Did M O w d nb (c.send m) w' := by
  obtain ⟨hd, pv, cv, bs, us, cs, h⟩ := h
  obtain ⟨W, hW⟩ : ∃ W, w.alloc (.cells #[.int .i64 m.kind, .int .i64 m.frm, .int .i64 m.to, .int .i64 m.term, .int .i64 m.a, .int .i64 m.b, .int .i64 m.c, .bool m.ok, .slice o n lc] 98) = W := ⟨_, rfl⟩
  have bW : Below w.heap.size w W := by rw [← hW]; exact more (Below.refl _ _) _
  have zW : W.heap.size = w.heap.size + 1 := by rw [← hW]; simp
  have hbox : W.heap[w.heap.size]? = some (.cells #[.int .i64 m.kind, .int .i64 m.frm, .int .i64 m.to, .int .i64 m.term, .int .i64 m.a, .int .i64 m.b, .int .i64 m.c, .bool m.ok, .slice o n lc] 98 (0, 0)) := by rw [← hW]; exact heap_alloc_new w _
  have hnl : c.net.length = us.length := by rw [← h.nets]; simp
  have hRW : Gr W M O d hd nb c pv cv bs us cs := h.keep ((Aft.refl _ h.st).below bW)
  obtain ⟨⟨c0, c1, _⟩, ⟨_, f1, _⟩⟩ := Gr.ca hRW
  by_cases hroom : us.length < 200
  · obtain ⟨l, hl⟩ : ∃ l, (hd :: bs)[us.length]? = some l := ⟨_, List.getElem?_eq_getElem (by simp [h.post.len])⟩
    have hnone : bs[us.length]? = none := List.getElem?_eq_none (by rw [h.post.len]; exact Nat.le_refl _)
    obtain ⟨c9, f9⟩ := Pst.nx hRW.post hl
    rw [hnone] at c9
    simp only [ptr, Option.map_none] at c9
    have hlO : O l = some 2 := h.post.lab l (List.mem_iff_getElem?.2 ⟨_, hl⟩)
    have hll : l < W.heap.size := (hRW.st.ok l 2 hlO).2
    have hdl : d < W.heap.size := Gr.lt hRW
    have hld : ¬ (l = d) := fun e => by rw [e, h.own] at hlO; cases hlO
    have hne1 : W.heap.size ≠ l := by omega
    have hne2 : W.heap.size ≠ d := by omega
    have hne3 : ¬ (d = l) := fun e => hld e.symm
    have hne4 : W.heap.size ≠ w.heap.size := by omega
    have hll0 : l < w.heap.size := (h.st.ok l 2 hlO).2
    have hne5 : ¬ (l = w.heap.size) := by omega
    have hne6 : ¬ (w.heap.size = l) := by omega
    have HA : Hid (∀ wx, Below W.heap.size W wx → Calls Try.prog 132 #[.pointer (some ⟨d, 0, none⟩), .int .i64 us.length] wx fun r w' => r = .returned (.pointer (some ⟨l, 0, none⟩)) ∧ w' = wx) := fun wx hb => by
      have hx : Gr wx M O d hd nb c pv cv bs us cs := hRW.keep ((Aft.refl _ hRW.st).below hb)
      exact ahead_any wx M O d hd bs us (Gr.ca hx).1.1 hx.post us.length l hl (by omega)
    have HF : Hid (Did M O w d nb (c.send m) (((W.alloc (.cells #[.int .i64 m.kind, .int .i64 m.frm, .int .i64 m.to, .int .i64 m.term, .int .i64 m.a, .int .i64 m.b, .int .i64 m.c, .bool m.ok, .slice o n lc, .pointer none] 100)).setCell ⟨l, 9, none⟩ (.pointer (some ⟨W.heap.size, 0, none⟩))).setCell ⟨d, 1, none⟩ (.int .i64 ((us.length : Int) + 1)))) := by
      obtain ⟨h1, h2⟩ := Gr.sent h ⟨m, .slice o n lc⟩ hlv bW hl
      rw [sendC c m (by omega)]
      exact ⟨M, _, h2.mono (fun _ _ => trivial), hd, pv, cv, _, _, cs, h1⟩
    have HS : Hid (∀ wx, Below W.heap.size W wx → (wx.cell? ⟨d, 1, none⟩ = some (.int .i64 us.length) ∧ wx.cell? ⟨w.heap.size, 0, none⟩ = some (.int .i64 m.kind) ∧ wx.cell? ⟨w.heap.size, 1, none⟩ = some (.int .i64 m.frm) ∧ wx.cell? ⟨w.heap.size, 2, none⟩ = some (.int .i64 m.to) ∧ wx.cell? ⟨w.heap.size, 3, none⟩ = some (.int .i64 m.term) ∧ wx.cell? ⟨w.heap.size, 4, none⟩ = some (.int .i64 m.a) ∧ wx.cell? ⟨w.heap.size, 5, none⟩ = some (.int .i64 m.b) ∧ wx.cell? ⟨w.heap.size, 6, none⟩ = some (.int .i64 m.c) ∧ wx.cell? ⟨w.heap.size, 7, none⟩ = some (.bool m.ok) ∧ wx.cell? ⟨w.heap.size, 8, none⟩ = some (.slice o n lc)) ∧ Below W.heap.size W wx) := fun wx hb => by
      have hk := kept hb hbox (Nat.le_refl _)
      have hx : Gr wx M O d hd nb c pv cv bs us cs := hRW.keep ((Aft.refl _ hRW.st).below hb)
      exact ⟨⟨(Gr.ca hx).1.2.1, cell_of hk rfl, cell_of hk rfl, cell_of hk rfl, cell_of hk rfl, cell_of hk rfl, cell_of hk rfl, cell_of hk rfl, cell_of hk rfl, cell_of hk rfl⟩, hb⟩
    have hrI : (us.length : Int) < 200 := by omega
    have hal : ∀ ob, Gr (W.alloc ob) M O d hd nb c pv cv bs us cs := fun ob => hRW.keep (((Aft.refl _ hRW.st)).alloc ob)
    have c9a : ∀ ob, (W.alloc ob).cell? ⟨l, 9, none⟩ = some (.pointer none) := fun ob => by
      have := (Pst.nx (hal ob).post hl).1
      rw [hnone] at this
      exact this
    have f9a : ∀ ob, (W.alloc ob).frozen? ⟨l, 9, none⟩ = false := fun ob => (Pst.nx (hal ob).post hl).2
    have c1a : ∀ ob, (W.alloc ob).cell? ⟨d, 1, none⟩ = some (.int .i64 us.length) := fun ob => (Gr.ca (hal ob)).1.2.1
    have f1a : ∀ ob, (W.alloc ob).frozen? ⟨d, 1, none⟩ = false := fun ob => (Gr.ca (hal ob)).2.2.1
    clear hal
    clear h hRW hbox hl hnone hnl hlv c0 zW bW hll hdl hlO hll0
    generalize us.length = U at *
    go_enter Try.func92, Try.ntmps92
    go_wp2
    obtain ⟨⟨_, s0, s1, s2, s3, s4, s5, s6, s7, s8⟩, _⟩ := HS.out _ (Below.refl _ W)
    go_region_law (first | (go_simp; go_at_call 132; refine (HA.out _ (by first | exact Below.refl _ _ | exact (Below.refl _ _).drew | exact more (Below.refl _ _) _ | exact (more (Below.refl _ _) _).drew | exact more (Below.refl _ _).drew _)).mono ?_; rintro rr w1 ⟨rfl, hw1⟩; have hw2 := hw1.symm; subst hw2; clear hw1))
    all_goals
      go_wp2
      go_end0
      exact ⟨rfl, HF.out.drew⟩
  · have hrI : ¬ (us.length : Int) < 200 := by omega
    have HF : Hid (Did M O w d nb (c.send m) W) := by
      have e : c.send m = c := by unfold Cl.send; rw [if_neg (by omega)]
      rw [e]
      exact ⟨M, O, (Aft.refl _ h.st).below bW, hd, pv, cv, bs, us, cs, hRW⟩
    clear h hRW hbox hnl hlv c0 zW bW
    generalize us.length = U at *
    go_enter Try.func92, Try.ntmps92
    go_wp2
    go_end0
    exact ⟨rfl, HF.out⟩
end Go.Proofs.Ytklkglbimjajnaa.post

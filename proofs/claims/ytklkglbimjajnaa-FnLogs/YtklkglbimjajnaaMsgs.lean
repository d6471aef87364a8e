/- The messages in memory of their own. -/
import Derived.Test.YtklkglbimjajnaaCopy
import Derived.Test.YtklkglbimjajnaaPost
namespace Go.Proofs.Ytklkglbimjajnaa.msgs
open Go.ChangeShapes Go.WideShapes Go.ChangeAt Go.RowKit
open Go.Proofs.Ytklkglbimjajnaa.Raft Go.Proofs.Ytklkglbimjajnaa.mem Go.Proofs.Ytklkglbimjajnaa.grp Go.Proofs.Ytklkglbimjajnaa.look Go.Proofs.Ytklkglbimjajnaa.ndw Go.Proofs.Ytklkglbimjajnaa.grant Go.Proofs.Ytklkglbimjajnaa.stand Go.Proofs.Ytklkglbimjajnaa.rows2 Go.Proofs.Ytklkglbimjajnaa.clone Go.Proofs.Ytklkglbimjajnaa.behind Go.Proofs.Ytklkglbimjajnaa.post Go.Proofs.Ytklkglbimjajnaa.copy
set_option linter.unusedVariables false
theorem info44 : (Try.prog.info? 98).map (fun i => (i.zero, i.size, i.bytes)) = some (some (.agg #[.int .i64 0, .int .i64 0, .int .i64 0, .int .i64 0, .int .i64 0, .int .i64 0, .int .i64 0, .bool false, .slice none 0 0]), 9, 88) := by kernel_rfl

/-- Behind a copy of messages. -/
def MsE (w : World) (M : Fz) (l : List Msg) (r : Ending) (w' : World) : Prop :=
  ∃ (M' : Fz) (o : Option Addr) (n lc : Nat), r = .returned (.slice o n lc) ∧ Le M M' ∧ In M' w' ∧ (∃ us, us.map (·.m) = l ∧ MsgsV M' (.slice o n lc) us) ∧ Below w.heap.size w w' ∧ ∀ b, M' b ≠ none → M b ≠ none ∨ w.heap.size ≤ b
/-- What is copied so far. -/
def MI (w : World) (M : Fz) (us : List MV) (k : Nat) (v : Value) (wr : World) : Prop := ∃ (M' : Fz) (us' : List MV), us'.map (·.m) = (us.take k).map (·.m) ∧ Le M M' ∧ In M' wr ∧ wr.ownsRow w.heap.size 98 9 v k (us'.flatMap msgCells) ∧ (∀ g, v.ownBlock = some g → M' g = none) ∧ (∀ x ∈ us', RecsM M' x.lv x.m.log) ∧ Below w.heap.size w wr ∧ (∀ b, M' b ≠ none → M b ≠ none ∨ w.heap.size ≤ b)
theorem MI.fin {w wr : World} {M : Fz} {us : List MV} {v : Value} (h : MI w M us us.length v wr) : MsE w M (us.map (·.m)) (.returned v) wr := by
  obtain ⟨M', us', e, h1, h2, h3, h4, h5, h6, h7⟩ := h
  rw [List.take_length] at e
  obtain ⟨M2, q1, q2, q3, q4⟩ := RowM.freeze h3 h2 h4
  obtain ⟨o, c, rfl⟩ := own_slice h3
  have hl : us.length = us'.length := by have := congrArg List.length e; simpa using this.symm
  rw [hl] at q3
  refine ⟨M2, o, us.length, c, rfl, h1.trans q1, q2, ⟨us', e, by rw [hl]; exact q3, fun x hx => (h5 x hx).le q1⟩, h6, fun b hb => ?_⟩
  rcases q4 b hb with g | g
  · exact h7 b g
  · exact .inr (row_lt h3 g).1
/-- One message more. -/
theorem MI.step {w wr : World} {M : Fz} {us : List MV} {k : Nat} {v : Value} (h : MI w M us k v wr) {x : MV} (hx : us[k]? = some x) (hd : RecsM M x.lv x.m.log) (hlen : x.m.log.length ≤ 1000) {ro : Option Addr} {rn rc : Nat} (hdv : x.lv = .slice ro rn rc) {W1 : World} (hW1 : wr.alloc (.cells #[.int .i64 x.m.kind, .int .i64 x.m.frm, .int .i64 x.m.to, .int .i64 x.m.term, .int .i64 x.m.a, .int .i64 x.m.b, .int .i64 x.m.c, .bool x.m.ok, .slice ro rn rc] 98) = W1) :
    Calls Try.prog 47 #[.slice ro rn rc] W1 fun r w5 => ∃ (o5 : Option Addr) (n5 c5 : Nat) (X Y : World), r = .returned (.slice o5 n5 c5) ∧ w5.setCell ⟨wr.heap.size, 8, none⟩ (.slice o5 n5 c5) = X ∧ X.alloc (.cells #[.int .i64 x.m.kind, .int .i64 x.m.frm, .int .i64 x.m.to, .int .i64 x.m.term, .int .i64 x.m.a, .int .i64 x.m.b, .int .i64 x.m.c, .bool x.m.ok, .slice o5 n5 c5] 98) = Y ∧
      (((w5.cell? ⟨wr.heap.size, 0, none⟩ = some (.int .i64 x.m.kind) ∧ w5.cell? ⟨wr.heap.size, 1, none⟩ = some (.int .i64 x.m.frm) ∧ w5.cell? ⟨wr.heap.size, 2, none⟩ = some (.int .i64 x.m.to) ∧ w5.cell? ⟨wr.heap.size, 3, none⟩ = some (.int .i64 x.m.term) ∧ w5.cell? ⟨wr.heap.size, 4, none⟩ = some (.int .i64 x.m.a) ∧ w5.cell? ⟨wr.heap.size, 5, none⟩ = some (.int .i64 x.m.b) ∧ w5.cell? ⟨wr.heap.size, 6, none⟩ = some (.int .i64 x.m.c) ∧ w5.cell? ⟨wr.heap.size, 7, none⟩ = some (.bool x.m.ok) ∧ w5.cell? ⟨wr.heap.size, 8, none⟩ = some (.slice ro rn rc)) ∧ w5.frozen? ⟨wr.heap.size, 8, none⟩ = false) ∧
       (X.cell? ⟨wr.heap.size, 0, none⟩ = some (.int .i64 x.m.kind) ∧ X.cell? ⟨wr.heap.size, 1, none⟩ = some (.int .i64 x.m.frm) ∧ X.cell? ⟨wr.heap.size, 2, none⟩ = some (.int .i64 x.m.to) ∧ X.cell? ⟨wr.heap.size, 3, none⟩ = some (.int .i64 x.m.term) ∧ X.cell? ⟨wr.heap.size, 4, none⟩ = some (.int .i64 x.m.a) ∧ X.cell? ⟨wr.heap.size, 5, none⟩ = some (.int .i64 x.m.b) ∧ X.cell? ⟨wr.heap.size, 6, none⟩ = some (.int .i64 x.m.c) ∧ X.cell? ⟨wr.heap.size, 7, none⟩ = some (.bool x.m.ok) ∧ X.cell? ⟨wr.heap.size, 8, none⟩ = some (.slice o5 n5 c5))) ∧
      Hid (∃ ys, Y.ownsRow w.heap.size 98 9 v k ys ∧ (∀ j u, ([.int .i64 x.m.kind, .int .i64 x.m.frm, .int .i64 x.m.to, .int .i64 x.m.term, .int .i64 x.m.a, .int .i64 x.m.b, .int .i64 x.m.c, .bool x.m.ok, .slice o5 n5 c5] : List Value)[j]? = some u → Y.cell? ((⟨X.heap.size, 0, none⟩ : Addr).add j) = some u) ∧ w.heap.size ≤ Y.heap.size ∧
        ∀ g cap w', w'.ownsRow w.heap.size 98 9 (.slice (some ⟨g, 0, none⟩) (k + 1) cap) (k + 1) (ys ++ [.int .i64 x.m.kind, .int .i64 x.m.frm, .int .i64 x.m.to, .int .i64 x.m.term, .int .i64 x.m.a, .int .i64 x.m.b, .int .i64 x.m.c, .bool x.m.ok, .slice o5 n5 c5]) → Y.grownBy w' v.ownBlock → (v.ownBlock = some g ∨ g = Y.heap.size) → MI w M us (k + 1) (.slice (some ⟨g, 0, none⟩) (k + 1) cap) w') := by
  obtain ⟨M', us', e, h1, h2, h3, h4, h5, h6, h7⟩ := h
  have b1 : Below wr.heap.size wr W1 := by rw [← hW1]; exact more (Below.refl _ _) _
  have e1 : W1.heap.size = wr.heap.size + 1 := by rw [← hW1]; exact World.size_alloc ..
  have hB1 : W1.heap[wr.heap.size]? = some (.cells #[.int .i64 x.m.kind, .int .i64 x.m.frm, .int .i64 x.m.to, .int .i64 x.m.term, .int .i64 x.m.a, .int .i64 x.m.b, .int .i64 x.m.c, .bool x.m.ok, .slice ro rn rc] 98 (0, 0)) := by rw [← hW1]; exact heap_alloc_new wr _
  have hIW := h2.below b1
  obtain ⟨rs, er, hr1, hr2⟩ := hd.le h1
  rw [hdv] at hr1
  refine (copyRecs_any W1 M' (.slice ro rn rc) rs hIW (RecsR.row hIW hr1) hr2 (by rw [← List.length_map (f := fun (x : RV) => x.r), er]; exact hlen)).mono ?_
  rintro r w5 ⟨M2, o5, n5, c5, rfl, q1, q2, q3, b5, q4⟩
  rw [er] at q3
  have b5w : Below wr.heap.size wr w5 := b1.trans (b5.mono (by omega))
  have hB5 : w5.heap[wr.heap.size]? = some (.cells #[.int .i64 x.m.kind, .int .i64 x.m.frm, .int .i64 x.m.to, .int .i64 x.m.term, .int .i64 x.m.a, .int .i64 x.m.b, .int .i64 x.m.c, .bool x.m.ok, .slice ro rn rc] 98 (0, 0)) := (b5.block _ (by omega)).trans hB1
  have s5 := b5.size
  obtain ⟨X, hX⟩ : ∃ X, w5.setCell ⟨wr.heap.size, 8, none⟩ (.slice o5 n5 c5) = X := ⟨_, rfl⟩
  obtain ⟨Y, hY⟩ : ∃ Y, X.alloc (.cells #[.int .i64 x.m.kind, .int .i64 x.m.frm, .int .i64 x.m.to, .int .i64 x.m.term, .int .i64 x.m.a, .int .i64 x.m.b, .int .i64 x.m.c, .bool x.m.ok, .slice o5 n5 c5] 98) = Y := ⟨_, rfl⟩
  have bX : Below wr.heap.size wr X := by rw [← hX]; exact b5w.setCell (Nat.le_refl _) _
  have sX : X.heap.size = w5.heap.size := by rw [← hX]; simp [World.setCell]
  have hBX : X.heap[wr.heap.size]? = some (.cells #[.int .i64 x.m.kind, .int .i64 x.m.frm, .int .i64 x.m.to, .int .i64 x.m.term, .int .i64 x.m.a, .int .i64 x.m.b, .int .i64 x.m.c, .bool x.m.ok, .slice o5 n5 c5] 98 (0, 0)) := by
    rw [← hX]
    exact set_at hB5 8 _ (by simp)
  have bY : Below wr.heap.size wr Y := by rw [← hY]; exact bX.alloc (by omega) _
  have sY : Y.heap.size = X.heap.size + 1 := by rw [← hY]; exact World.size_alloc ..
  have hBY : Y.heap[X.heap.size]? = some (.cells #[.int .i64 x.m.kind, .int .i64 x.m.frm, .int .i64 x.m.to, .int .i64 x.m.term, .int .i64 x.m.a, .int .i64 x.m.b, .int .i64 x.m.c, .bool x.m.ok, .slice o5 n5 c5] 98 (0, 0)) := by rw [← hY]; exact heap_alloc_new X _
  have hMB : M2 wr.heap.size = none := by
    cases em : M2 wr.heap.size with
    | none => rfl
    | some o =>
      rcases q4 wr.heap.size (by rw [em]; simp) with g | g
      · exact absurd (h2.fresh (Nat.le_refl _)) g
      · omega
  have hIX : In M2 X := by rw [← hX]; exact q2.set hMB _
  have hIY : In M2 Y := by rw [← hY]; exact hIX.below (more (Below.refl _ _) _)
  have hvM : ∀ g, v.ownBlock = some g → M2 g = none := fun g hg => by
    cases em : M2 g with
    | none => rfl
    | some o =>
      rcases q4 g (by rw [em]; simp) with g' | g'
      · exact absurd (h4 g hg) g'
      · have := (row_lt h3 hg).2; omega
  refine ⟨o5, n5, c5, X, Y, rfl, hX, hY, ⟨⟨⟨cell_of hB5 rfl, cell_of hB5 rfl, cell_of hB5 rfl, cell_of hB5 rfl, cell_of hB5 rfl, cell_of hB5 rfl, cell_of hB5 rfl, cell_of hB5 rfl, cell_of hB5 rfl⟩, frozen_of hB5 _⟩, cell_of hBX rfl, cell_of hBX rfl, cell_of hBX rfl, cell_of hBX rfl, cell_of hBX rfl, cell_of hBX rfl, cell_of hBX rfl, cell_of hBX rfl, cell_of hBX rfl⟩, us'.flatMap msgCells, row_kept h3 (fun g hg => bY.block g (row_lt h3 hg).2), ?_, Nat.le_trans h6.size bY.size, ?_⟩
  · intro j u hu
    rw [pile.add_at, Nat.zero_add]
    refine cell_of hBY ?_
    simpa using hu
  · intro g cap w' p1 p2 p3
    have hk : k < us.length := (List.getElem?_eq_some_iff.1 hx).1
    have hIw := hIY.grown p2 hvM
    refine ⟨M2, us' ++ [⟨x.m, .slice o5 n5 c5⟩], ?_, h1.trans q1, hIw, ?_, ?_, ?_, ?_, ?_⟩
    · rw [List.map_append, e, List.take_add_one, hx]
      simp
    · rw [List.flatMap_append]
      simpa [msgCells] using p1
    · intro g' hg'
      obtain rfl : g = g' := by simpa [Value.ownBlock] using hg'
      rcases p3 with p3 | p3
      · exact hvM g p3
      · exact hIY.fresh (by omega)
    · intro y hy
      rcases List.mem_append.1 hy with hy | hy
      · exact (h5 y hy).le q1
      · rw [List.mem_singleton.1 hy]
        exact q3
    · exact (h6.trans (bY.mono h6.size)).grown p2 (Nat.le_trans h6.size bY.size) (fun g' hg' => (row_lt h3 hg').1)
    · intro b hb
      rcases q4 b hb with g' | g'
      · exact h7 b g'
      · right
        have := h6.size
        omega
theorem MI.below {w wr : World} {M : Fz} {us : List MV} {k : Nat} {v : Value} (h : MI w M us k v wr) : Below w.heap.size w wr := by
  obtain ⟨_, _, _, _, _, _, _, _, hb, _⟩ := h
  exact hb

set_option maxRecDepth 20000 in
set_option maxHeartbeats 2000000 in
theorem messages_any (w : World) (M : Fz) (O : Lb) (d hd : Nat) (bs : List Nat) (us : List MV) (c0 : w.cell? ⟨d, 0, none⟩ = some (.pointer (some ⟨hd, 0, none⟩))) (st : Sta M O w) (h : Pst w M O hd bs us) (hl : us.length ≤ 200) (hg : ∀ x ∈ us, x.m.log.length ≤ 1000) :
    Calls Try.prog 46 #[.pointer (some ⟨d, 0, none⟩)] w fun r w' => MsE w M (us.map (·.m)) r w' := by
  have hI := st.inn
  have hlb := h.len
  obtain ⟨n, hn⟩ : ∃ n, n = us.length := ⟨_, rfl⟩
  have HFin : Hid (∀ v wr, MI w M us n v wr → MsE w M (us.map (·.m)) (.returned v) wr) := fun v wr h => by rw [hn] at h; exact h.fin
  have c9 : w.cell? ⟨hd, 9, none⟩ = some (ptr bs[0]?) := (Pst.nx h (i := 0) (b := hd) rfl).1
  have HCell : Hid (∀ k, k < n → ∃ b x ro rn rc, bs[k]? = some b ∧ us[k]? = some x ∧ x.lv = .slice ro rn rc ∧ RecsM M x.lv x.m.log ∧ x.m.log.length ≤ 1000 ∧ ∀ wr, Below w.heap.size w wr → (wr.cell? ⟨b, 0, none⟩ = some (.int .i64 x.m.kind) ∧ wr.cell? ⟨b, 1, none⟩ = some (.int .i64 x.m.frm) ∧ wr.cell? ⟨b, 2, none⟩ = some (.int .i64 x.m.to) ∧ wr.cell? ⟨b, 3, none⟩ = some (.int .i64 x.m.term) ∧ wr.cell? ⟨b, 4, none⟩ = some (.int .i64 x.m.a) ∧ wr.cell? ⟨b, 5, none⟩ = some (.int .i64 x.m.b) ∧ wr.cell? ⟨b, 6, none⟩ = some (.int .i64 x.m.c) ∧ wr.cell? ⟨b, 7, none⟩ = some (.bool x.m.ok) ∧ wr.cell? ⟨b, 8, none⟩ = some (.slice ro rn rc)) ∧ wr.cell? ⟨b, 9, none⟩ = some (ptr bs[k + 1]?)) := fun k hk => by
    obtain ⟨x, hx⟩ : ∃ x, us[k]? = some x := ⟨_, List.getElem?_eq_getElem (by omega)⟩
    obtain ⟨b, hb⟩ : ∃ b, bs[k]? = some b := ⟨_, List.getElem?_eq_getElem (by omega)⟩
    have hblk := h.blk (k + 1) b x hb hx
    have hlg := h.logs x (List.mem_of_getElem? hx)
    obtain ⟨ro, rn, rc, e⟩ := (show ∃ o n c, x.lv = .slice o n c from by
      obtain ⟨us, _, ⟨ao, cap, e, _⟩, _⟩ := id hlg
      exact ⟨_, _, _, e⟩)
    have hlt : b < w.heap.size := (Array.getElem?_eq_some_iff.1 hblk).1
    refine ⟨b, x, ro, rn, rc, hb, hx, e, hlg, hg x (List.mem_of_getElem? hx), fun wr hbl => ?_⟩
    have hblk2 := (hbl.block b hlt).trans hblk
    unfold letter at hblk2
    rw [e] at hblk2
    exact ⟨⟨cell_of hblk2 rfl, cell_of hblk2 rfl, cell_of hblk2 rfl, cell_of hblk2 rfl, cell_of hblk2 rfl, cell_of hblk2 rfl, cell_of hblk2 rfl, cell_of hblk2 rfl, cell_of hblk2 rfl⟩, cell_of hblk2 rfl⟩
  have H0 : Hid (MI w M us 0 (.slice none 0 0) w) := ⟨M, [], rfl, Le.refl _, hI, World.ownsRow_nil _ _ _ _, by simp [Value.ownBlock], by simp, Below.refl _ _, fun b hb => .inl hb⟩
  obtain ⟨i0, hii, hz0, hz1, hz2⟩ := info_parts info44
  have HI3 : Hid (Try.prog.info? 98 = some i0 ∧ i0.zero = some (.agg #[.int .i64 0, .int .i64 0, .int .i64 0, .int .i64 0, .int .i64 0, .int .i64 0, .int .i64 0, .bool false, .slice none 0 0]) ∧ i0.size = 9 ∧ i0.bytes = 88) := ⟨hii, hz0, hz1, hz2⟩
  have HBn : Hid (bs[n]? = none) := by unfold Hid; rw [List.getElem?_eq_none_iff]; omega
  rw [← hn] at hl
  have HSl : Hid (∀ k v wr, MI w M us k v wr → ∃ o c, v = .slice o k c) := fun k v wr h => by
    obtain ⟨_, _, _, _, _, h3, _⟩ := h
    exact own_slice h3
  clear hI hn hii hz0 hz1 hz2 h st hg hlb
  go_enter Try.func46, Try.ntmps46
  go_wp2
  go_loopw [3, 4] (fun v p wr => ∃ (k : Nat) (o : Option Addr) (c : Nat), k ≤ n ∧ v = .slice o k c ∧ p = ptr bs[k]? ∧ Hid (MI w M us k v wr)) (fun v _ _ => match v with | .slice _ m _ => n - m | _ => 0)
  case atStart => exact ⟨0, none, 0, Nat.zero_le _, rfl, rfl, H0⟩
  case round =>
    obtain ⟨k, o, c, hk, rfl, rfl, HR⟩ := hrel
    by_cases hlt : k < n
    · obtain ⟨b, x, ro, rn, rc, hb, hx, edv, hdx, hlx, hfar⟩ := HCell.out k hlt
      obtain ⟨⟨q0, q1, q2, q3, q4, q5, q6, q7, q8⟩, _⟩ := hfar wr HR.out.below
      obtain ⟨W1, hW1⟩ : ∃ W1, wr.alloc (.cells #[.int .i64 x.m.kind, .int .i64 x.m.frm, .int .i64 x.m.to, .int .i64 x.m.term, .int .i64 x.m.a, .int .i64 x.m.b, .int .i64 x.m.c, .bool x.m.ok, .slice ro rn rc] 98) = W1 := ⟨_, rfl⟩
      have HJ := hide (HR.out.step hx hdx hlx edv hW1)
      have hbox : W1.heap[wr.heap.size]? = some (.cells #[.int .i64 x.m.kind, .int .i64 x.m.frm, .int .i64 x.m.to, .int .i64 x.m.term, .int .i64 x.m.a, .int .i64 x.m.b, .int .i64 x.m.c, .bool x.m.ok, .slice ro rn rc] 98 (0, 0)) := by rw [← hW1]; exact heap_alloc_new wr _
      have s0 := cell_of (i := 0) hbox (v := .int .i64 x.m.kind) rfl
      have s1 := cell_of (i := 1) hbox (v := .int .i64 x.m.frm) rfl
      have s2 := cell_of (i := 2) hbox (v := .int .i64 x.m.to) rfl
      have s3 := cell_of (i := 3) hbox (v := .int .i64 x.m.term) rfl
      have s4 := cell_of (i := 4) hbox (v := .int .i64 x.m.a) rfl
      have s5 := cell_of (i := 5) hbox (v := .int .i64 x.m.b) rfl
      have s6 := cell_of (i := 6) hbox (v := .int .i64 x.m.c) rfl
      have s7 := cell_of (i := 7) hbox (v := .bool x.m.ok) rfl
      have s8 := cell_of (i := 8) hbox (v := .slice ro rn rc) rfl
      have HNx : Hid (∀ wr, Below w.heap.size w wr → wr.cell? ⟨b, 9, none⟩ = some (ptr bs[k + 1]?)) := fun wr hb => (hfar wr hb).2
      have HPt : Hid (∀ q : Option Nat, ∃ o, ptr q = .pointer o) := fun q => ⟨_, rfl⟩
      rw [hb]
      obtain ⟨pn, hpn⟩ := HPt.out bs[k + 1]?
      have HPn := hide hpn
      rw [hpn] at HNx
      clear hx hdx edv hfar hbox hb hpn hlx
      simp only [ptr, Option.map_some]
      go_wp2_with (first
        | (go_at_call 47; refine HJ.out.mono ?_; rintro rr w5 ⟨o5, n5, c5, X, Y, rfl, hX, hY, ⟨⟨⟨t0, t1, t2, t3, t4, t5, t6, t7, t8⟩, t9⟩, u0, u1, u2, u3, u4, u5, u6, u7, u8⟩, HE⟩)
        | (at_builtin; obtain ⟨ys, y1, y2, y3, y4⟩ := HE.out; refine wpList_append_lies _ rfl _ _ 27 rfl w.heap.size 98 i0 (.agg #[.int .i64 0, .int .i64 0, .int .i64 0, .int .i64 0, .int .i64 0, .int .i64 0, .int .i64 0, .bool false, .slice none 0 0]) 9 88 Try.underlying27 HI3.out.1 HI3.out.2.1 HI3.out.2.2.1 HI3.out.2.2.2 rfl (by decide) _ k ys rfl y1 ⟨X.heap.size, 0, none⟩ 1 1 [.int .i64 x.m.kind, .int .i64 x.m.frm, .int .i64 x.m.to, .int .i64 x.m.term, .int .i64 x.m.a, .int .i64 x.m.b, .int .i64 x.m.c, .bool x.m.ok, .slice o5 n5 c5] rfl rfl y2 (fun u' hu' => by simp only [List.mem_cons, List.not_mem_nil, or_false] at hu'; rcases hu' with rfl | rfl | rfl | rfl | rfl | rfl | rfl | rfl | rfl <;> rfl) (by decide) (by unfold maxLen; omega) (by omega) y3 _ rfl ?_; intro g2 cap2 w2 z1 z2 z3 z4; have HN := hide (y4 g2 cap2 w2 z1 z2 z3); have t11 := HNx.out w2 HN.out.below; clear z1 z2 z3 z4 y1 y2 y3 y4))
      go_roundw
      case rel => exact ⟨k + 1, _, _, by omega, rfl, HPn.out.symm, HN⟩
      case measure => show n - (k + 1) < n - k; omega
    · obtain rfl : k = n := by omega
      rw [HBn.out]
      simp only [ptr, Option.map_none]
      go_wp2
      go_ret
      exact HFin.out _ _ HR.out
end Go.Proofs.Ytklkglbimjajnaa.msgs

/- Records in memory of their own. -/
import Derived.Test.YtklkglbimjajnaaBehind
import Derived.Test.YtklkglbimjajnaaJoin
import Derived.Deep.AppendLies
namespace Go.Proofs.Ytklkglbimjajnaa.copy
open Go.ChangeShapes Go.WideShapes Go.ChangeAt Go.RowKit
open Go.Proofs.Ytklkglbimjajnaa.Raft Go.Proofs.Ytklkglbimjajnaa.mem Go.Proofs.Ytklkglbimjajnaa.grp Go.Proofs.Ytklkglbimjajnaa.look Go.Proofs.Ytklkglbimjajnaa.ndw Go.Proofs.Ytklkglbimjajnaa.grant Go.Proofs.Ytklkglbimjajnaa.stand Go.Proofs.Ytklkglbimjajnaa.rows2 Go.Proofs.Ytklkglbimjajnaa.clone Go.Proofs.Ytklkglbimjajnaa.behind
open Go.Proofs.Ytklkglbimjajnaa.bytes (Rd Own)
open Go.Proofs.Ytklkglbimjajnaa.pile (RdA RdS Texts)
open Go.Proofs.Ytklkglbimjajnaa.join (join_own)
set_option linter.unusedVariables false

/-- Records that can be read. -/
def RecsR (w : World) (v : Value) (us : List RV) : Prop := ∃ ao cap, v = .slice ao us.length cap ∧ us.length ≤ cap ∧ cap ≤ maxLen ∧
  (0 < us.length → ∃ b off, ao = some ⟨b, off, none⟩ ∧ ∀ i u, (us.flatMap recCells)[i]? = some u → w.cell? ⟨b, off + i, none⟩ = some u)
theorem RecsR.own {w : World} {base : Nat} {v : Value} {us : List RV} (h : w.ownsRow base 38 3 v us.length (us.flatMap recCells)) : RecsR w v us := by
  obtain ⟨o, c, rfl⟩ := own_slice h
  obtain ⟨_, h1, h2⟩ := own_cap h
  refine ⟨o, c, rfl, h1, h2, fun hp => ?_⟩
  obtain ⟨g, cap, e, _, _, hc, _⟩ := own_at h hp
  simp only [Value.slice.injEq, true_and] at e
  obtain ⟨rfl, rfl⟩ := e
  exact ⟨g, 0, rfl, fun i u hu => by rw [Nat.zero_add]; exact hc i u hu⟩
theorem RecsR.row {M : Fz} {w : World} {v : Value} {us : List RV} (hI : In M w) (h : RowM M v us.length 3 (us.flatMap recCells)) : RecsR w v us := by
  obtain ⟨ao, cap, rfl, h1, h2, _, _, h5⟩ := h
  refine ⟨ao, cap, rfl, h1, h2, fun hp => ?_⟩
  obtain ⟨b, off, rfl, hc⟩ := h5 hp
  exact ⟨b, off, rfl, fun i u hu => hI.cell (hc i u hu)⟩
theorem bytes_rd {M : Fz} {w : World} {v : Value} {xs : List Int} (hI : In M w) (h : BytesM M v xs) : RdA w v xs := by
  obtain ⟨⟨ao, cap, rfl, h1, h2, h3, h4, h5⟩, hx⟩ := h
  refine ⟨⟨ao, cap, rfl, h1, h2, hx, fun hp => ?_⟩, fun n c e => ?_⟩
  · obtain ⟨b, off, rfl, hc⟩ := h5 hp
    refine ⟨b, off, rfl, fun i hi => hI.cell (hc i _ ?_)⟩
    rw [List.getElem?_map, List.getElem?_eq_getElem hi, List.getD_eq_getElem?_getD, List.getElem?_eq_getElem hi]
    rfl
  · simp only [Value.slice.injEq] at e
    obtain ⟨rfl, _, _⟩ := e
    obtain ⟨e1, e2⟩ := h4 rfl
    rw [e1, e2]
/-- What is copied so far. -/
def RI (w : World) (M : Fz) (us : List RV) (k : Nat) (v : Value) (wr : World) : Prop := ∃ (M' : Fz) (us' : List RV), us'.map (·.r) = (us.take k).map (·.r) ∧ Le M M' ∧ In M' wr ∧ wr.ownsRow w.heap.size 38 3 v k (us'.flatMap recCells) ∧ (∀ g, v.ownBlock = some g → M' g = none) ∧ (∀ x ∈ us', BytesM M' x.dv x.r.data ∧ x.r.data.length ≤ 1000) ∧ Below w.heap.size w wr ∧ (∀ b, M' b ≠ none → M b ≠ none ∨ w.heap.size ≤ b)
theorem RI.fin {w wr : World} {M : Fz} {us : List RV} {v : Value} (h : RI w M us us.length v wr) : BehE w M (us.map (·.r)) (.returned v) wr := by
  obtain ⟨M', us', e, h1, h2, h3, h4, h5, h6, h7⟩ := h
  rw [List.take_length] at e
  obtain ⟨M2, q1, q2, q3, q4⟩ := RowM.freeze h3 h2 h4
  obtain ⟨o, c, rfl⟩ := own_slice h3
  have hl : us.length = us'.length := by have := congrArg List.length e; simpa using this.symm
  rw [hl] at q3
  refine ⟨M2, o, us.length, c, rfl, h1.trans q1, q2, ⟨us', e, by rw [hl]; exact q3, fun x hx => ⟨(h5 x hx).1.le q1, (h5 x hx).2⟩⟩, h6, fun b hb => ?_⟩
  rcases q4 b hb with g | g
  · exact h7 b g
  · exact .inr (row_lt h3 g).1
/-- One record more. -/
theorem RI.step {w wr : World} {M : Fz} {us : List RV} {k : Nat} {v : Value} (h : RI w M us k v wr) {x : RV} (hx : us[k]? = some x) (hd : BytesM M x.dv x.r.data ∧ x.r.data.length ≤ 1000) {ro : Option Addr} {rn rc : Nat} (hdv : x.dv = .slice ro rn rc) {W1 W2 : World} (hW1 : wr.alloc (.cells #[.int .i64 x.r.term, .int .i64 x.r.index, .slice ro rn rc] 38) = W1) (hW2 : W1.alloc (.cells #[.slice ro rn rc] 22) = W2) :
    Calls Try.prog 97 #[.slice (some ⟨W1.heap.size, 0, none⟩) 1 1] W2 fun r w5 => ∃ (o5 : Option Addr) (n5 c5 : Nat) (X Y : World), r = .returned (.slice o5 n5 c5) ∧ w5.setCell ⟨wr.heap.size, 2, none⟩ (.slice o5 n5 c5) = X ∧ X.alloc (.cells #[.int .i64 x.r.term, .int .i64 x.r.index, .slice o5 n5 c5] 38) = Y ∧
      ((w5.cell? ⟨wr.heap.size, 0, none⟩ = some (.int .i64 x.r.term) ∧ w5.cell? ⟨wr.heap.size, 1, none⟩ = some (.int .i64 x.r.index) ∧ w5.cell? ⟨wr.heap.size, 2, none⟩ = some (.slice ro rn rc) ∧ w5.frozen? ⟨wr.heap.size, 2, none⟩ = false) ∧
       (X.cell? ⟨wr.heap.size, 0, none⟩ = some (.int .i64 x.r.term) ∧ X.cell? ⟨wr.heap.size, 1, none⟩ = some (.int .i64 x.r.index) ∧ X.cell? ⟨wr.heap.size, 2, none⟩ = some (.slice o5 n5 c5))) ∧
      Hid (∃ ys, Y.ownsRow w.heap.size 38 3 v k ys ∧ (∀ j u, ([.int .i64 x.r.term, .int .i64 x.r.index, .slice o5 n5 c5] : List Value)[j]? = some u → Y.cell? ((⟨X.heap.size, 0, none⟩ : Addr).add j) = some u) ∧ w.heap.size ≤ Y.heap.size ∧
        ∀ g cap w', w'.ownsRow w.heap.size 38 3 (.slice (some ⟨g, 0, none⟩) (k + 1) cap) (k + 1) (ys ++ [.int .i64 x.r.term, .int .i64 x.r.index, .slice o5 n5 c5]) → Y.grownBy w' v.ownBlock → (v.ownBlock = some g ∨ g = Y.heap.size) → RI w M us (k + 1) (.slice (some ⟨g, 0, none⟩) (k + 1) cap) w') := by
  obtain ⟨M', us', e, h1, h2, h3, h4, h5, h6, h7⟩ := h
  have b1 : Below wr.heap.size wr W1 := by rw [← hW1]; exact more (Below.refl _ _) _
  have e1 : W1.heap.size = wr.heap.size + 1 := by rw [← hW1]; exact World.size_alloc ..
  have e2 : W2.heap.size = wr.heap.size + 2 := by rw [← hW2, World.size_alloc, e1]
  have b2 : Below W1.heap.size W1 W2 := by rw [← hW2]; exact more (Below.refl _ _) _
  have hB1 : W1.heap[wr.heap.size]? = some (.cells #[.int .i64 x.r.term, .int .i64 x.r.index, .slice ro rn rc] 38 (0, 0)) := by rw [← hW1]; exact heap_alloc_new wr _
  have hB2 : W2.heap[W1.heap.size]? = some (.cells #[.slice ro rn rc] 22 (0, 0)) := by rw [← hW2]; exact heap_alloc_new W1 _
  have b12 : Below wr.heap.size wr W2 := b1.trans (b2.mono (by omega))
  have hdW : RdA W2 x.dv x.r.data := bytes_rd (h2.below b12) (hd.1.le h1)
  refine (join_own W2 (.slice (some ⟨W1.heap.size, 0, none⟩) 1 1) [x.dv] [x.r.data] ⟨_, 1, rfl, Nat.le_refl _, by simp [maxLen], fun _ => ⟨W1.heap.size, 0, rfl, fun i hi => ?_⟩⟩ ⟨rfl, fun i hi => ?_⟩ (by simp; omega)).mono ?_
  · obtain rfl : i = 0 := by simp at hi; omega
    rw [hdv]
    exact cell_of hB2 rfl
  · obtain rfl : i = 0 := by simp at hi; omega
    exact hdW
  rintro r w5 ⟨v5, rfl, ho5, b5⟩
  rw [show ([x.r.data] : List (List Int)).flatten = x.r.data from by simp] at ho5
  obtain ⟨o5, c5, rfl⟩ := own_slice ho5.2
  have b5w : Below wr.heap.size wr w5 := b12.trans (b5.mono (by omega))
  have hB5 : w5.heap[wr.heap.size]? = some (.cells #[.int .i64 x.r.term, .int .i64 x.r.index, .slice ro rn rc] 38 (0, 0)) := ((b5.block _ (by omega)).trans (b2.block _ (by omega))).trans hB1
  have s5 := b5.size
  obtain ⟨X, hX⟩ : ∃ X, w5.setCell ⟨wr.heap.size, 2, none⟩ (.slice o5 x.r.data.length c5) = X := ⟨_, rfl⟩
  obtain ⟨Y, hY⟩ : ∃ Y, X.alloc (.cells #[.int .i64 x.r.term, .int .i64 x.r.index, .slice o5 x.r.data.length c5] 38) = Y := ⟨_, rfl⟩
  have bX : Below wr.heap.size wr X := by rw [← hX]; exact b5w.setCell (Nat.le_refl _) _
  have sX : X.heap.size = w5.heap.size := by rw [← hX]; simp [World.setCell]
  have hBX : X.heap[wr.heap.size]? = some (.cells #[.int .i64 x.r.term, .int .i64 x.r.index, .slice o5 x.r.data.length c5] 38 (0, 0)) := by
    rw [← hX]
    exact set_at hB5 2 _ (by simp)
  have bY : Below wr.heap.size wr Y := by rw [← hY]; exact bX.alloc (by omega) _
  have sY : Y.heap.size = X.heap.size + 1 := by rw [← hY]; exact World.size_alloc ..
  have hBY : Y.heap[X.heap.size]? = some (.cells #[.int .i64 x.r.term, .int .i64 x.r.index, .slice o5 x.r.data.length c5] 38 (0, 0)) := by rw [← hY]; exact heap_alloc_new X _
  have h5M : ∀ g, (Value.slice o5 x.r.data.length c5).ownBlock = some g → M' g = none := fun g hg => h2.fresh (by have := (row_lt ho5.2 hg).1; omega)
  obtain ⟨M2, q1, q2, q3, q4⟩ := RowM.freeze ho5.2 (h2.below b5w) h5M
  have hMB : M2 wr.heap.size = none := by
    cases em : M2 wr.heap.size with
    | none => rfl
    | some o =>
      rcases q4 wr.heap.size (by rw [em]; simp) with g | g
      · exact absurd (h2.fresh (Nat.le_refl _)) g
      · have := (row_lt ho5.2 g).1; omega
  have hIX : In M2 X := by rw [← hX]; exact q2.set hMB _
  have hIY : In M2 Y := by rw [← hY]; exact hIX.below (more (Below.refl _ _) _)
  have hvM : ∀ g, v.ownBlock = some g → M2 g = none := fun g hg => by
    cases em : M2 g with
    | none => rfl
    | some o =>
      rcases q4 g (by rw [em]; simp) with g' | g'
      · exact absurd (h4 g hg) g'
      · have := (row_lt ho5.2 g').1; have := (row_lt h3 hg).2; omega
  refine ⟨o5, _, c5, X, Y, rfl, hX, hY, ⟨⟨cell_of hB5 rfl, cell_of hB5 rfl, cell_of hB5 rfl, frozen_of hB5 _⟩, cell_of hBX rfl, cell_of hBX rfl, cell_of hBX rfl⟩, us'.flatMap recCells, row_kept h3 (fun g hg => bY.block g (row_lt h3 hg).2), ?_, Nat.le_trans h6.size bY.size, ?_⟩
  · intro j u hu
    have e9 : ((⟨X.heap.size, 0, none⟩ : Addr).add j) = ⟨X.heap.size, j, none⟩ := by
      rw [pile.add_at, Nat.zero_add]
    rw [e9]
    refine cell_of hBY ?_
    simpa using hu
  · intro g cap w' p1 p2 p3
    have hk : k < us.length := (List.getElem?_eq_some_iff.1 hx).1
    have hIw := hIY.grown p2 hvM
    refine ⟨M2, us' ++ [⟨x.r, .slice o5 x.r.data.length c5⟩], ?_, h1.trans q1, hIw, ?_, ?_, ?_, ?_, ?_⟩
    · rw [List.map_append, e, List.take_add_one, hx]
      simp
    · rw [List.flatMap_append]
      simpa [recCells] using p1
    · intro g' hg'
      obtain rfl : g = g' := by simpa [Value.ownBlock] using hg'
      rcases p3 with p3 | p3
      · exact hvM g p3
      · exact hIY.fresh (by omega)
    · intro y hy
      rcases List.mem_append.1 hy with hy | hy
      · exact ⟨(h5 y hy).1.le q1, (h5 y hy).2⟩
      · rw [List.mem_singleton.1 hy]
        exact ⟨⟨q3, ho5.1⟩, hd.2⟩
    · exact (h6.trans (bY.mono h6.size)).grown p2 (Nat.le_trans h6.size bY.size) (fun g' hg' => (row_lt h3 hg').1)
    · intro b hb
      rcases q4 b hb with g' | g'
      · exact h7 b g'
      · right
        have := (row_lt ho5.2 g').1
        have := h6.size
        omega

set_option maxRecDepth 20000 in
set_option maxHeartbeats 2000000 in
theorem copyRecs_any (w : World) (M : Fz) (v : Value) (us : List RV) (hI : In M w) (hv : RecsR w v us) (hd : ∀ x ∈ us, BytesM M x.dv x.r.data ∧ x.r.data.length ≤ 1000) (hl : us.length ≤ 1000) :
    Calls Try.prog 47 #[v] w fun r w' => BehE w M (us.map (·.r)) r w' := by
  obtain ⟨ao, cap, rfl, hc1, hc2, hcell⟩ := hv
  unfold maxLen at hc2
  obtain ⟨n, hn⟩ : ∃ n, n = us.length := ⟨_, rfl⟩
  have HL := hide hn
  have HFin : Hid (∀ v wr, RI w M us n v wr → BehE w M (us.map (·.r)) (.returned v) wr) := fun v wr h => by rw [hn] at h; exact h.fin
  have HCell : Hid (∀ k, k < n → ∃ g off x ro rn rc, ao = some ⟨g, off, none⟩ ∧ us[k]? = some x ∧ x.dv = .slice ro rn rc ∧ (BytesM M x.dv x.r.data ∧ x.r.data.length ≤ 1000) ∧ ∀ wr, Below w.heap.size w wr → (wr.cell? ⟨g, off + k * 3, none⟩ = some (.int .i64 x.r.term) ∧ wr.cell? ⟨g, off + k * 3 + 1, none⟩ = some (.int .i64 x.r.index) ∧ wr.cell? ⟨g, off + k * 3 + 2, none⟩ = some (.slice ro rn rc))) := fun k hk => by
    obtain ⟨x, hx⟩ : ∃ x, us[k]? = some x := ⟨_, List.getElem?_eq_getElem (by omega)⟩
    obtain ⟨g, off, rfl, hc⟩ := hcell (by omega)
    have hf := fun i hi => flat_get recCells 3 recCells_len us k i x hx hi
    have hdx := hd x (List.mem_of_getElem? hx)
    obtain ⟨⟨ao2, cp, e2, _⟩, _⟩ := id hdx.1
    have z0 := hc (k * 3 + 0) (.int .i64 x.r.term) (by rw [hf 0 (by decide)]; rfl)
    have z1 := hc (k * 3 + 1) (.int .i64 x.r.index) (by rw [hf 1 (by decide)]; rfl)
    have z2 := hc (k * 3 + 2) x.dv (by rw [hf 2 (by decide)]; rfl)
    rw [e2] at z2
    refine ⟨g, off, x, ao2, _, cp, rfl, hx, e2, hdx, fun wr hb => ⟨?_, ?_, ?_⟩⟩
    · exact (hb.cell (World.block_lt_of_cell? w _ z0)).trans z0
    · exact (hb.cell (World.block_lt_of_cell? w _ z1)).trans z1
    · exact (hb.cell (World.block_lt_of_cell? w _ z2)).trans z2
  have H0 : Hid (RI w M us 0 (.slice none 0 0) w) := ⟨M, [], rfl, Le.refl _, hI, World.ownsRow_nil _ _ _ _, by simp [Value.ownBlock], by simp, Below.refl _ _, fun b hb => .inl hb⟩
  obtain ⟨i0, hii, hz0, hz1, hz2⟩ := info_parts info35
  have HI3 : Hid (Try.prog.info? 38 = some i0 ∧ i0.zero = some (.agg #[.int .i64 0, .int .i64 0, .slice none 0 0]) ∧ i0.size = 3 ∧ i0.bytes = 40) := ⟨hii, hz0, hz1, hz2⟩
  rw [← hn] at hl hc1 ⊢
  clear hcell hd hI hn hii hz0 hz1 hz2
  go_enter Try.func47, Try.ntmps47
  go_wp2
  go_loopw [3, 8] (fun v i wr => ∃ k : Nat, k ≤ n ∧ i = .int .i64 k ∧ Hid (RI w M us k v wr)) (fun _ i _ => n - (intOf i).toNat)
  case atStart => exact ⟨0, Nat.zero_le _, rfl, H0⟩
  case round =>
    obtain ⟨k, hk, rfl, HR⟩ := hrel
    by_cases hlt : k < n
    · have hltI : (k : Int) < n := by omega
      obtain ⟨g, off, x, ro, rn, rc, rfl, hx, edv, hdx, hfar⟩ := HCell.out k hlt
      have hb0 : Below w.heap.size w wr := by obtain ⟨_, _, _, _, _, _, _, _, hb, _⟩ := HR.out; exact hb
      obtain ⟨q0, q1, q2⟩ := hfar wr hb0
      obtain ⟨W1, hW1⟩ : ∃ W1, wr.alloc (.cells #[.int .i64 x.r.term, .int .i64 x.r.index, .slice ro rn rc] 38) = W1 := ⟨_, rfl⟩
      obtain ⟨W2, hW2⟩ : ∃ W2, W1.alloc (.cells #[.slice ro rn rc] 22) = W2 := ⟨_, rfl⟩
      have HJ := hide (HR.out.step hx hdx edv hW1 hW2)
      have hbox : W1.heap[wr.heap.size]? = some (.cells #[.int .i64 x.r.term, .int .i64 x.r.index, .slice ro rn rc] 38 (0, 0)) := by rw [← hW1]; exact heap_alloc_new wr _
      have s0 := cell_of (i := 0) hbox (v := .int .i64 x.r.term) rfl
      have s1 := cell_of (i := 1) hbox (v := .int .i64 x.r.index) rfl
      have s2 := cell_of (i := 2) hbox (v := .slice ro rn rc) rfl
      clear hx hdx edv hfar hb0 hbox
      go_wp2_with (first
        | (go_at_call 97; refine HJ.out.mono ?_; rintro rr w5 ⟨o5, n5, c5, X, Y, rfl, hX, hY, ⟨⟨t0, t1, t2, t3⟩, u0, u1, u2⟩, HE⟩)
        | (at_builtin; obtain ⟨ys, y1, y2, y3, y4⟩ := HE.out; refine wpList_append_lies _ rfl _ _ 28 rfl w.heap.size 38 i0 (.agg #[.int .i64 0, .int .i64 0, .slice none 0 0]) 3 40 Try.underlying28 HI3.out.1 HI3.out.2.1 HI3.out.2.2.1 HI3.out.2.2.2 rfl (by decide) _ k ys rfl y1 ⟨X.heap.size, 0, none⟩ 1 1 [.int .i64 x.r.term, .int .i64 x.r.index, .slice o5 n5 c5] rfl rfl y2 (fun u' hu' => by simp only [List.mem_cons, List.not_mem_nil, or_false] at hu'; rcases hu' with rfl | rfl | rfl <;> rfl) (by decide) (by unfold maxLen; omega) (by omega) y3 _ rfl ?_; intro g2 cap2 w2 z1 z2 z3 z4; have HN := hide (y4 g2 cap2 w2 z1 z2 z3); clear z1 z2 z3 z4 y1 y2 y3 y4))
      go_roundw
      case rel => exact ⟨k + 1, by omega, by go_num, HN⟩
      case measure => simp [intOf]; omega
    · have hlt2 : ¬ (k : Int) < n := by omega
      obtain rfl : k = n := by omega
      go_wp2
      go_ret
      exact HFin.out _ _ HR.out
end Go.Proofs.Ytklkglbimjajnaa.copy

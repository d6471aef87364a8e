/- Contracts of the laws' own helpers on lists of bytes: how large they are, and a copy of them. -/
import Derived.Test.YtipcdioolafkpafLists
namespace Go.Proofs.Ytipcdioolafkpaf.sizes
open Go.ChangeShapes Go.WideShapes Go.ChangeAt Go.RowKit
open Go.Proofs.Ytipcdioolafkpaf.bytes Go.Proofs.Ytipcdioolafkpaf.pile Go.Proofs.Ytipcdioolafkpaf.reader Go.Proofs.Ytipcdioolafkpaf.lists
set_option linter.unusedVariables false

/-- An answer that is a list of lists of bytes, in memory of its own. -/
structure Ans (w : World) (base : Nat) (v : Value) (us : List Value) (xss : List (List Int)) : Prop where
  row : w.ownsRow base 22 1 v us.length us
  pile : Pile w base us xss
theorem Ans.rdS {w : World} {base : Nat} {v : Value} {us : List Value} {xss : List (List Int)} (h : Ans w base v us xss) : RdS w v us := row_rdS h.row
theorem Ans.texts {w : World} {base : Nat} {v : Value} {us : List Value} {xss : List (List Int)} (h : Ans w base v us xss) : Texts w us xss := h.pile.texts
theorem row_below {w w' : World} {base B : Nat} {a : Value} {us : List Value} {n : Nat} (h : w.ownsRow base 22 1 a n us) (hb : Below B w w') (hB : w.heap.size ≤ B) : w'.ownsRow base 22 1 a n us := by
  obtain ⟨h1, h2 | ⟨g, c, cur, rfl, hbg, hg, r⟩⟩ := h
  · exact ⟨h1, .inl h2⟩
  · exact ⟨h1, .inr ⟨g, c, cur, rfl, hbg, (hb.block g (Nat.lt_of_lt_of_le (Array.getElem?_eq_some_iff.1 hg).1 hB)).trans hg, r⟩⟩
theorem Ans.below {w w' : World} {base B : Nat} {v : Value} {us : List Value} {xss : List (List Int)} (h : Ans w base v us xss) (hb : Below B w w') (hB : w.heap.size ≤ B) : Ans w' base v us xss := ⟨row_below h.row hb hB, h.pile.below hb hB⟩
/-- It stays as it is where a row of elder memory is written. -/
theorem Ans.kept {w w' : World} {base : Nat} {v : Value} {us : List Value} {xss : List (List Int)} {row : Option Nat} (h : Ans w base v us xss) (hg : w.grownBy w' row) (hlt : ∀ k, row = some k → k < base) : Ans w' base v us xss where
  row := World.ownsRow.kept h.row hg (by
    cases hv : v.ownBlock with
    | none => exact .inl rfl
    | some k => exact .inr fun e => by have h1 := hlt k e.symm; have h2 := (World.ownsRow.lt h.row k hv).1; omega)
  pile := ⟨h.pile.1, fun i hi => own_kept (h.pile.2.1 i hi) hg (by
    cases hv : (us.getD i (.slice none 0 0)).ownBlock with
    | none => exact .inl rfl
    | some k => exact .inr fun e => by have h1 := hlt k e.symm; have h2 := ((h.pile.2.1 i hi).lt k hv).1; omega), h.pile.2.2⟩
/-- It lies all from base on: what leaves the blocks from base to its world's end alone leaves it alone. -/
theorem Ans.span {w w' : World} {base : Nat} {v : Value} {us : List Value} {xss : List (List Int)} (h : Ans w base v us xss) (hs : ∀ k, base ≤ k → k < w.heap.size → w'.heap[k]? = w.heap[k]?) : Ans w' base v us xss where
  row := by
    obtain ⟨h1, h2 | ⟨g, c, cur, rfl, hbg, hg, r⟩⟩ := h.row
    · exact ⟨h1, .inl h2⟩
    · exact ⟨h1, .inr ⟨g, c, cur, rfl, hbg, (hs g hbg (Array.getElem?_eq_some_iff.1 hg).1).trans hg, r⟩⟩
  pile := ⟨h.pile.1, fun i hi => ⟨(h.pile.2.1 i hi).1, by
    obtain ⟨h1, h2 | ⟨g, c, cur, hv, hbg, hg, r⟩⟩ := (h.pile.2.1 i hi).2
    · exact ⟨h1, .inl h2⟩
    · exact ⟨h1, .inr ⟨g, c, cur, hv, hbg, (hs g hbg (Array.getElem?_eq_some_iff.1 hg).1).trans hg, r⟩⟩⟩, h.pile.2.2⟩

set_option maxHeartbeats 400000 in
theorem sz_any (w : World) (a : Value) (xs : List Int) (n : Int) (h0 : 0 ≤ n) (h1 : n ≤ 1048576) (ha : Rd w a xs) :
    Calls Try.prog 49 #[a, .int .i64 n] w fun e w' => e = .returned (.int .i64 (if n < xs.length then -1 else n - xs.length)) ∧ w' = w := by
  obtain ⟨ao, ca, rfl, ha1, ha2, hx, ha3⟩ := ha
  unfold maxLen at ha2
  clear ha3 hx
  by_cases hc : n < xs.length
  · have hc' : n - (xs.length : Int) < 0 := by omega
    rw [if_pos hc]
    go_enter Try.func49, Try.ntmps49
    go_wp2
    go_ret
    exact ⟨rfl, rfl⟩
  · have hc' : ¬ n - (xs.length : Int) < 0 := by omega
    rw [if_neg hc]
    go_enter Try.func49, Try.ntmps49
    go_wp2
    go_ret
    exact ⟨rfl, rfl⟩

set_option maxHeartbeats 800000 in
theorem szs_any (w : World) (a : Value) (us : List Value) (xss : List (List Int)) (n : Int) (h0 : 0 ≤ n) (h1 : n ≤ 1048576) (ha : RdS w a us) (ht : Texts w us xss) :
    Calls Try.prog 22 #[a, .int .i64 n] w fun e w' => (∃ r : Int, e = .returned (.int .i64 r) ∧ (r < 0 ∨ (0 ≤ r ∧ r + us.length + xss.flatten.length = n))) ∧ w' = w := by
  have HT : Hid (Texts w us xss) := ht
  have hul : us.length = xss.length := ht.1
  have HU : Hid (us.length = xss.length) := hul
  clear ht hul
  obtain ⟨T, hT⟩ : ∃ T, T = xss.flatten.length := ⟨_, rfl⟩
  have HTT : Hid (T = xss.flatten.length) := hT
  rw [← hT]
  clear hT
  obtain ⟨ao, ca, rfl, ha1, ha2, ha3⟩ := ha
  unfold maxLen at ha2
  by_cases hc : n - (us.length : Int) < 0
  · go_enter Try.func22, Try.ntmps22
    go_wp2
    go_ret
    exact ⟨⟨_, rfl, .inl (by omega)⟩, rfl⟩
  · go_enter Try.func22, Try.ntmps22
    go_wp2
    go_loop [1, 5] (fun q' i => ∃ (k : Nat) (q : Int), k ≤ us.length ∧ i = .int .i64 k ∧ q' = .int .i64 q ∧ 0 ≤ q ∧ q ≤ 1048576 ∧ Hid (q + us.length + sizeTo xss k = n)) (fun _ i => us.length - (intOf i).toNat)
    case atStart => exact ⟨0, n - us.length, by omega, rfl, by go_num, by omega, by omega, hide (by simp [sizeTo])⟩
    case round =>
      obtain ⟨k, q, hk, rfl, rfl, hq0, hq1, HQ⟩ := hrel
      by_cases hlt : k < us.length
      · obtain ⟨ab, aoff, rfl, hca⟩ := ha3 (by omega)
        have hcl := hca k hlt
        clear hca ha3
        have HS : Hid (sizeTo xss (k + 1) = sizeTo xss k + (xss.getD k []).length) := sizeTo_succ (xss := xss) (k := k) (by rw [← HU.out]; exact hlt)
        have HC : Hid (Calls Try.prog 49 #[us.getD k (.slice none 0 0), .int .i64 q] w fun e w' => e = .returned (.int .i64 (if q < (xss.getD k []).length then -1 else q - (xss.getD k []).length)) ∧ w' = w) := sz_any w _ _ q hq0 hq1 (HT.out.2 k hlt).1
        generalize us.getD k (.slice none 0 0) = u at hcl HC
        generalize (xss.getD k []).length = L at HC HS
        by_cases hL : q < L
        · rw [if_pos hL] at HC
          go_wp2_with fail
          refine HC.out.mono ?_
          rintro e w1 ⟨rfl, rfl⟩
          go_wp2
          go_ret
          exact ⟨⟨_, rfl, .inl (by omega)⟩, rfl⟩
        · rw [if_neg hL] at HC
          have hL' : ¬ q - (L : Int) < 0 := by omega
          go_wp2_with fail
          refine HC.out.mono ?_
          rintro e w1 ⟨rfl, rfl⟩
          go_wp2
          go_round
          case rel => exact ⟨k + 1, q - L, by omega, by go_num, by go_num, by omega, by omega, hide (by have h1 := HQ.out; have h2 := HS.out; omega)⟩
          case measure => simp [intOf]; omega
      · have hkT : sizeTo xss k = T := by
          unfold sizeTo
          rw [HTT.out, List.take_of_length_le (by rw [← HU.out]; omega)]
        have HE : Hid (q + us.length + T = n) := by
          have := HQ.out
          rw [hkT] at this
          exact this
        clear hkT
        go_wp2
        go_ret
        exact ⟨⟨_, rfl, .inr ⟨hq0, HE.out⟩⟩, rfl⟩

theorem made_rows (n : Nat) : (madeCells (Value.slice none 0 0).cells (n * 1)).toList = List.replicate n (Value.slice none 0 0) := by
  rw [Nat.mul_one]
  exact (toList_madeCells_one (.slice none 0 0) n).trans (by simp)
theorem info22' : (Try.prog.info? 22).map (fun i => (i.zero, i.size, i.bytes)) = some (some (.slice none 0 0), 1, 24) := by kernel_rfl
theorem set_next {α : Type} (l : List α) (z u : α) (n k : Nat) (hl : l.length = k) (hk : k < n) : (l ++ List.replicate (n - k) z).set k u = (l ++ [u]) ++ List.replicate (n - (k + 1)) z := by
  have h2 : n - k = (n - (k + 1)) + 1 := by omega
  rw [List.set_append_right _ _ (by omega), hl, Nat.sub_self, h2, List.replicate_succ, List.set_cons_zero, List.append_assoc]
  rfl
theorem take_next {α : Type} (l : List α) (d : α) {k : Nat} (h : k < l.length) : l.take (k + 1) = l.take k ++ [l.getD k d] := by
  have e : l.getD k d = l[k] := by simp [List.getD_eq_getElem?_getD, h]
  rw [List.take_succ_eq_append_getElem h, e]

/-- A copy of lists. -/
def CopyOf (w : World) (xss : List (List Int)) (v : Value) (w' : World) : Prop := ∃ vs, Ans w' w.heap.size v vs xss ∧ Below w.heap.size w w'

set_option maxHeartbeats 1000000 in
theorem tos_own (w : World) (a : Value) (us : List Value) (xss : List (List Int)) (ha : RdS w a us) (ht : Texts w us xss) (hn : us.length ≤ 1048576) (hx : ∀ i, i < us.length → (xss.getD i []).length ≤ 281474976710656) :
    Calls Try.prog 24 #[a] w fun e w' => ∃ v, e = .returned v ∧ CopyOf w xss v w' := by
  have HT : Hid (Texts w us xss) := ht
  have HU : Hid (us.length = xss.length) := ht.1
  have HX : Hid (∀ i, i < us.length → (xss.getD i []).length ≤ 281474976710656) := hx
  clear ht hx
  obtain ⟨ao, ca, rfl, ha1, ha2, ha3⟩ := ha
  unfold maxLen at ha2
  obtain ⟨i0, hi, hz0, hz1, hz2⟩ := info_parts info22'
  have HI : Hid (Try.prog.info? 22 = some i0 ∧ i0.zero = some (.slice none 0 0) ∧ i0.size = 1 ∧ i0.bytes = 24) := ⟨hi, hz0, hz1, hz2⟩
  clear hi hz0 hz1 hz2
  go_enter Try.func24, Try.ntmps24
  go_wp2_with (at_make; refine wpList_make_full _ rfl _ _ 30 rfl w.heap.size 22 i0 (.slice none 0 0) 1 Try.underlying30 HI.out.1 HI.out.2.1 HI.out.2.2.1 .i64 .i64 _ _ us.length rfl rfl rfl rfl (by rw [HI.out.2.2.2]; omega) (by unfold maxLen; omega) (Nat.le_refl _) ?_; intro w1 hown1 hgrow1)
  rw [made_rows] at hown1
  have HW : Hid (w1.ownsRow w.heap.size 22 1 (.slice (some ⟨w.heap.size, 0, none⟩) us.length us.length) us.length (([] : List Value) ++ List.replicate (us.length - 0) (.slice none 0 0)) ∧ Below w.heap.size w w1) := by
    refine hide ⟨by simpa using hown1, (Below.refl _ _).grown hgrow1 (Nat.le_refl _) (by simp)⟩
  clear hown1 hgrow1 HI
  go_loopw [4] (fun i wr => ∃ (k : Nat) (vs : List Value), k ≤ us.length ∧ i = .int .i64 k ∧ Hid (vs.length = k ∧ wr.ownsRow w.heap.size 22 1 (.slice (some ⟨w.heap.size, 0, none⟩) us.length us.length) us.length (vs ++ List.replicate (us.length - k) (.slice none 0 0)) ∧ Pile wr w.heap.size vs (xss.take k) ∧ Below w.heap.size w wr)) (fun i _ => us.length - (intOf i).toNat)
  case atStart => exact ⟨0, [], by omega, rfl, hide ⟨rfl, HW.out.1, by simpa using Pile.nil w1 w.heap.size, HW.out.2⟩⟩
  case round =>
    clear HW
    obtain ⟨k, vs, hk, rfl, HR⟩ := hrel
    by_cases hlt : k < us.length
    · obtain ⟨ab, aoff, rfl, hca⟩ := ha3 (by omega)
      have hs0 := HR.out.2.2.2.size
      have hck := hca k hlt
      have hca' : wr.cell? ⟨ab, aoff + k, none⟩ = some (us.getD k (.slice none 0 0)) := (HR.out.2.2.2.cell (cell_lt hck)).trans hck
      have HC : Hid (Calls Try.prog 10 #[us.getD k (.slice none 0 0)] wr fun e w' => ∃ v, e = .returned v ∧ Own w' wr.heap.size v (xss.getD k []) ∧ Below wr.heap.size wr w') :=
        to_own wr _ _ (HX.out k hlt) ((HT.out.below HR.out.2.2.2 (Nat.le_refl _)).2 k hlt).1
      have HTk : Hid (xss.take (k + 1) = xss.take k ++ [xss.getD k []]) := take_next xss [] (by rw [← HU.out]; exact hlt)
      clear hca hck ha3
      generalize us.getD k (.slice none 0 0) = u at hca' HC
      generalize xss.getD k [] = ys at HC HTk
      go_wp2_with fail
      refine HC.out.mono ?_
      rintro e w2 ⟨u2, rfl, HO2, hb2⟩
      obtain ⟨o2, c2, hu2, _⟩ := HO2.rd
      subst hu2
      have s2 := hb2.size
      have hrow2 := row_below HR.out.2.1 hb2 (Nat.le_refl _)
      have hP2 := HR.out.2.2.1.below hb2 (Nat.le_refl _)
      have hcell := World.ownsRow.cellAt hrow2 k (by omega)
      rw [List.getElem?_append_right (by have := HR.out.1; omega), HR.out.1, Nat.sub_self] at hcell
      have hcell2 : w2.cell? ⟨w.heap.size, k, none⟩ = some (.slice none 0 0) := by
        rw [hcell, List.getElem?_replicate, if_pos (by omega)]
      have hfz := World.ownsRow.frozenAt hrow2 k
      have hst := (World.ownsRow.stored hrow2 k (.slice o2 ys.length c2)).1
      rw [set_next vs _ _ us.length k HR.out.1 hlt] at hst
      have HS : Hid ((vs ++ [Value.slice o2 ys.length c2]).length = k + 1 ∧ (w2.setCell ⟨w.heap.size, k, none⟩ (.slice o2 ys.length c2)).ownsRow w.heap.size 22 1 (.slice (some ⟨w.heap.size, 0, none⟩) us.length us.length) us.length ((vs ++ [Value.slice o2 ys.length c2]) ++ List.replicate (us.length - (k + 1)) (.slice none 0 0)) ∧ Pile (w2.setCell ⟨w.heap.size, k, none⟩ (.slice o2 ys.length c2)) w.heap.size (vs ++ [Value.slice o2 ys.length c2]) (xss.take (k + 1)) ∧ Below w.heap.size w (w2.setCell ⟨w.heap.size, k, none⟩ (.slice o2 ys.length c2))) := by
        obtain ⟨cur, hblk⟩ := own_typed hrow2 (g := w.heap.size) rfl
        refine hide ⟨by rw [List.length_append, HR.out.1]; rfl, hst, ?_, (HR.out.2.2.2.trans (hb2.mono hs0)).setCell (Nat.le_refl _) _⟩
        rw [HTk.out]
        refine pile_snoc ⟨hP2.1, fun i hi => own_setCell (hP2.2.1 i hi) (own_other (hP2.2.1 i hi).2 hblk (by decide)) _, hP2.2.2⟩ ((own_setCell HO2 (own_other HO2.2 hblk (by decide)) _).mono hs0) (fun i hi g hg hg2 => ?_)
        have h1 := ((HR.out.2.2.1.2.1 i hi).lt g hg).2
        have h2 := (HO2.lt g hg2).1
        omega
      clear hst hrow2 hP2 hcell HO2 hb2 HR HC
      go_wp2
      go_roundw
      case rel => exact ⟨k + 1, vs ++ [Value.slice o2 ys.length c2], by omega, by go_num, HS⟩
      case measure => simp [intOf]; omega
    · obtain rfl : k = us.length := by omega
      go_wp2
      go_ret
      refine ⟨_, rfl, vs, ⟨?_, ?_⟩, HR.out.2.2.2⟩
      · have := HR.out.2.1
        rw [Nat.sub_self, List.replicate_zero, List.append_nil] at this
        rw [HR.out.1]
        exact this
      · have := HR.out.2.2.1
        rwa [HU.out, List.take_length] at this
end Go.Proofs.Ytipcdioolafkpaf.sizes

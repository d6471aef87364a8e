/- The program's functions of a cluster that only look: the last index, a term, whether there is a record, votes had, who reaches an index, most. -/
import Derived.Test.YtklkglbimjajnaaGrp
import Derived.LoopTactic
namespace Go.Proofs.Ytklkglbimjajnaa.look
open Go.ChangeShapes Go.WideShapes Go.ChangeAt Go.RowKit
open Go.Proofs.Ytklkglbimjajnaa.Raft Go.Proofs.Ytklkglbimjajnaa.mem Go.Proofs.Ytklkglbimjajnaa.grp
set_option linter.unusedVariables false

/-- A peer's log, in its block: the cells of a record. -/
theorem Nd.logc {w : World} {M : Fz} {O : Lb} {b k : Nat} {p : Peer} {us : List RV} {lv vv nv mv : Value} (h : Nd w M O b k p us lv vv nv mv) {i : Nat} {r : Rc} (hi : p.log[i]? = some r) :
    ∃ g cap o n c, lv = .slice (some ⟨g, 0, none⟩) p.log.length cap ∧ p.log.length ≤ cap ∧ cap ≤ maxLen ∧ w.cell? ⟨g, i * 3, none⟩ = some (.int .i64 r.term) ∧ w.cell? ⟨g, i * 3 + 1, none⟩ = some (.int .i64 r.index) ∧ w.cell? ⟨g, i * 3 + 2, none⟩ = some (.slice o n c) ∧ BytesM M (.slice o n c) r.data ∧ r.data.length ≤ 1000 := by
  have hlen : us.length = p.log.length := by rw [← h.recs]; simp
  rw [← h.recs, List.getElem?_map, Option.map_eq_some_iff] at hi
  obtain ⟨x, hx, rfl⟩ := hi
  have hlt := (List.getElem?_eq_some_iff.1 hx).1
  obtain ⟨g, cap, e, h1, h2, h3, h4⟩ := own_at h.log (by omega)
  have hf := fun j hj => flat_get recCells 3 recCells_len us i j x hx hj
  obtain ⟨q1, q2⟩ := h.data x (List.mem_iff_getElem?.2 ⟨i, hx⟩)
  obtain ⟨⟨ao, cp, e2, _⟩, _⟩ := id q1
  refine ⟨g, cap, ao, _, cp, by rw [e, hlen], by omega, h2, ?_, ?_, ?_, by rw [← e2]; exact q1, q2⟩
  · have := h3 (i * 3 + 0) (.int .i64 x.r.term) (by rw [hf 0 (by decide)]; rfl)
    simpa using this
  · exact h3 (i * 3 + 1) (.int .i64 x.r.index) (by rw [hf 1 (by decide)]; rfl)
  · rw [← e2]; exact h3 (i * 3 + 2) x.dv (by rw [hf 2 (by decide)]; rfl)
theorem Nd.logs {w : World} {M : Fz} {O : Lb} {b k : Nat} {p : Peer} {us : List RV} {lv vv nv mv : Value} (h : Nd w M O b k p us lv vv nv mv) : ∃ o c, lv = .slice o p.log.length c ∧ p.log.length ≤ c ∧ c ≤ maxLen := by
  have hlen : us.length = p.log.length := by rw [← h.recs]; simp
  obtain ⟨o, c, e⟩ := own_slice h.log
  have h1 := h.log
  rw [e] at h1
  obtain ⟨_, h2, h3⟩ := own_cap h1
  exact ⟨o, c, by rw [e, hlen], by omega, h3⟩

theorem last_any (w : World) (M : Fz) (O : Lb) (b k : Nat) (p : Peer) (h : Nod w M O b k p) :
    Calls Try.prog 138 #[.pointer (some ⟨b, 0, none⟩)] w fun r w' => r = .returned (.int .i64 (p.log.length : Nat)) ∧ w' = w := by
  obtain ⟨us, lv, vv, nv, mv, h⟩ := h
  obtain ⟨o, c, rfl, h1, h2⟩ := Nd.logs h
  unfold maxLen at h2
  have c2 := cell_of (i := 2) h.blk rfl
  clear h
  go_enter Try.func138, Try.ntmps138
  go_wp2
  go_ret
  exact ⟨rfl, rfl⟩

theorem term_any (w : World) (M : Fz) (O : Lb) (b k : Nat) (p : Peer) (h : Nod w M O b k p) (i : Nat) (hi : i ≤ p.log.length) :
    Calls Try.prog 148 #[.pointer (some ⟨b, 0, none⟩), .int .i64 i] w fun r w' => r = .returned (.int .i64 (termAt p.log i : Nat)) ∧ w' = w := by
  obtain ⟨us, lv, vv, nv, mv, h⟩ := h
  cases i with
  | zero =>
    have HT : Hid ((termAt p.log 0 : Nat) = 0) := by unfold Hid termAt; rw [if_pos rfl]
    clear h
    go_enter Try.func148, Try.ntmps148
    go_wp2
    go_ret
    exact ⟨by rw [HT.out]; rfl, rfl⟩
  | succ i =>
    obtain ⟨r, hr⟩ : ∃ r, p.log[i]? = some r := ⟨_, List.getElem?_eq_getElem (by omega)⟩
    obtain ⟨g, cap, o, n, c, rfl, h1, h2, q0, _⟩ := Nd.logc h hr
    have HT : Hid ((termAt p.log (i + 1) : Nat) = r.term) := by
      unfold Hid termAt
      rw [if_neg (by omega), Nat.add_sub_cancel, hr]
    unfold maxLen at h2
    have c2 := cell_of (i := 2) h.blk rfl
    have e1 : ¬ ((i : Int) + 1 = 0) := by omega
    clear h hr
    go_enter Try.func148, Try.ntmps148
    go_wp2
    go_ret
    exact ⟨by rw [HT.out]; rfl, rfl⟩

theorem has_any (w : World) (M : Fz) (O : Lb) (b k : Nat) (p : Peer) (h : Nod w M O b k p) (i t : Nat) :
    Calls Try.prog 145 #[.pointer (some ⟨b, 0, none⟩), .int .i64 i, .int .i64 t] w fun r w' => r = .returned (.bool (decide (i ≤ p.log.length ∧ termAt p.log i = t))) ∧ w' = w := by
  have HL := last_any w M O b k p h
  by_cases hi : i ≤ p.log.length
  · have HT := term_any w M O b k p h i hi
    have hiI : (i : Int) ≤ p.log.length := by omega
    have HE : Hid (decide (i ≤ p.log.length ∧ termAt p.log i = t) = ((termAt p.log i : Int) == (t : Int))) := by
      unfold Hid
      by_cases e : termAt p.log i = t
      · simp [hi, e]
      · have : ¬ ((termAt p.log i : Int) = t) := by omega
        simp [e, this]
    rw [HE.out]
    clear hi
    generalize termAt p.log i = T at *
    generalize p.log.length = L at *
    clear HE
    go_enter Try.func145, Try.ntmps145
    go_wp2_with (first | (refine HL.mono ?_; rintro e w' ⟨rfl, rfl⟩) | (refine HT.mono ?_; rintro e w' ⟨rfl, rfl⟩))
    go_ret
    exact ⟨rfl, rfl⟩
  · have hiI : ¬ (i : Int) ≤ p.log.length := by omega
    have HE : Hid (decide (i ≤ p.log.length ∧ termAt p.log i = t) = false) := by
      unfold Hid
      simp [hi]
    rw [HE.out]
    clear hi HE
    generalize p.log.length = L at *
    go_enter Try.func145, Try.ntmps145
    go_wp2_with (first | (refine HL.mono ?_; rintro e w' ⟨rfl, rfl⟩))
    go_ret
    exact ⟨rfl, rfl⟩

theorem lastTerm_at (l : List Rc) : lastTerm l = termAt l l.length := by
  unfold lastTerm termAt
  cases e : l.getLast? with
  | none =>
    have : l = [] := List.getLast?_eq_none_iff.1 e
    subst this
    rfl
  | some r =>
    have hne : l ≠ [] := fun h => by subst h; cases e
    have hpos : 0 < l.length := List.length_pos_iff.2 hne
    rw [if_neg (by omega)]
    rw [List.getLast?_eq_getElem?] at e
    rw [e]

theorem notAhead_any (w : World) (M : Fz) (O : Lb) (b k : Nat) (p : Peer) (h : Nod w M O b k p) (i t : Nat) :
    Calls Try.prog 155 #[.pointer (some ⟨b, 0, none⟩), .int .i64 i, .int .i64 t] w fun r w' => r = .returned (.bool (decide (lastTerm p.log < t ∨ t = lastTerm p.log ∧ p.log.length ≤ i))) ∧ w' = w := by
  have HL := last_any w M O b k p h
  have HT := term_any w M O b k p h p.log.length (Nat.le_refl _)
  rw [lastTerm_at]
  generalize termAt p.log p.log.length = T at *
  generalize p.log.length = L at *
  by_cases h1 : T < t
  · have hI : (T : Int) < t := by omega
    have HE : Hid (decide (T < t ∨ t = T ∧ L ≤ i) = true) := by unfold Hid; simp [h1]
    rw [HE.out]
    clear HE
    go_enter Try.func155, Try.ntmps155
    go_wp2_with (first | (refine HL.mono ?_; rintro e w' ⟨rfl, rfl⟩) | (refine HT.mono ?_; rintro e w' ⟨rfl, rfl⟩))
    go_ret
    refine ⟨?_, rfl⟩
    first | rfl | (simp [*]; done)
  · have hI : ¬ (T : Int) < t := by omega
    by_cases h2 : t = T
    · subst h2
      have HE : Hid (decide (t < t ∨ t = t ∧ L ≤ i) = decide ((L : Int) ≤ i)) := by unfold Hid; simp
      rw [HE.out]
      clear HE
      go_enter Try.func155, Try.ntmps155
      go_wp2_with (first | (refine HL.mono ?_; rintro e w' ⟨rfl, rfl⟩) | (refine HT.mono ?_; rintro e w' ⟨rfl, rfl⟩))
      go_ret
      refine ⟨?_, rfl⟩
      first | rfl | simp
    · have hI2 : ((t : Int) == T) = false := by simp; omega
      have HE : Hid (decide (T < t ∨ t = T ∧ L ≤ i) = false) := by unfold Hid; simp [h1, h2]
      rw [HE.out]
      clear HE
      go_enter Try.func155, Try.ntmps155
      go_wp2_with (first | (refine HL.mono ?_; rintro e w' ⟨rfl, rfl⟩) | (refine HT.mono ?_; rintro e w' ⟨rfl, rfl⟩))
      go_ret
      refine ⟨?_, rfl⟩
      first | rfl | (simp [*]; done)

theorem voteFor_any (w : World) (n : Nat) (hn : n ≤ 1000) : Calls Try.prog 150 #[.int .i64 n] w fun r w' => r = .returned (.int .i64 ((n + 1 : Nat) : Int)) ∧ w' = w := by
  have e : ((n + 1 : Nat) : Int) = (n : Int) + 1 := by omega
  rw [e]
  have h1 : (n : Int) ≤ 1000 := by omega
  go_enter Try.func150, Try.ntmps150
  go_wp2
  go_ret
  exact ⟨rfl, rfl⟩

theorem majority_any (w : World) (n : Nat) (h1 : 1 ≤ n) (h2 : n ≤ 7) : Calls Try.prog 157 #[.int .i64 n] w fun r w' => r = .returned (.int .i64 (most n : Nat)) ∧ w' = w := by
  have e1 : ¬ (n : Int) < 1 := by omega
  have e2 : ¬ (7 : Int) < n := by omega
  have HE : Hid ((n : Int) / 2 + 1 = (most n : Nat)) := by unfold Hid most; omega
  go_enter Try.func157, Try.ntmps157
  go_wp2
  go_ret
  refine ⟨?_, rfl⟩
  show Ending.returned (.int .i64 ((n : Int) / 2 + 1)) = _
  rw [HE.out]

theorem Gr.pvs {w : World} {M : Fz} {O : Lb} {d hd : Nat} {nb : List Nat} {c : Cl} {pv cv : Value} {bs : List Nat} {us : List MV} {cs : List RV} (h : Gr w M O d hd nb c pv cv bs us cs) : ∃ o cp, pv = .slice o c.peers.length cp ∧ c.peers.length ≤ cp ∧ cp ≤ maxLen := by
  obtain ⟨ao, cap, rfl, h1, h2, _⟩ := h.peers
  have := h.len
  exact ⟨ao, cap, by rw [this], by omega, h2⟩

theorem most_any (w : World) (M : Fz) (O : Lb) (d : Nat) (nb : List Nat) (c : Cl) (h : G w M O d nb c) (h1 : 1 ≤ c.peers.length) (h2 : c.peers.length ≤ 7) :
    Calls Try.prog 152 #[.pointer (some ⟨d, 0, none⟩)] w fun r w' => r = .returned (.int .i64 (most c.peers.length : Nat)) ∧ w' = w := by
  obtain ⟨hd, pv, cv, bs, us, cs, h⟩ := h
  obtain ⟨o, cp, rfl, _, h3⟩ := Gr.pvs h
  unfold maxLen at h3
  have c2 := cell_of (i := 2) h.blk rfl
  have HM := majority_any w c.peers.length h1 h2
  clear h
  generalize c.peers.length = n at *
  go_enter Try.func152, Try.ntmps152
  go_wp2_with (refine HM.mono ?_; rintro e w' ⟨rfl, rfl⟩)
  go_ret
  exact ⟨rfl, rfl⟩

theorem count_snoc {α : Type} (f : α → Bool) (l : List α) (i : Nat) (x : α) (h : l[i]? = some x) : (l.take (i + 1)).countP f = (l.take i).countP f + (if f x then 1 else 0) := by
  have hlt := (List.getElem?_eq_some_iff.1 h).1
  have e : l[i] = x := by have := List.getElem?_eq_getElem hlt; rw [h] at this; exact (Option.some.inj this).symm
  rw [List.take_succ_eq_append_getElem hlt, List.countP_append, e]
  simp [List.countP_cons]

theorem votesHad_any (w : World) (M : Fz) (O : Lb) (b k : Nat) (p : Peer) (h : Nod w M O b k p) (hl : p.votes.length ≤ 7) :
    Calls Try.prog 151 #[.pointer (some ⟨b, 0, none⟩)] w fun r w' => r = .returned (.int .i64 (p.votes.countP id : Nat)) ∧ w' = w := by
  obtain ⟨us, lv, vv, nv, mv, h⟩ := h
  have hv := h.votes
  obtain ⟨o, cp, rfl⟩ := own_slice hv
  obtain ⟨_, _, hcp⟩ := own_cap hv
  unfold maxLen at hcp
  have c7 := cell_of (i := 7) h.blk rfl
  have HC : Hid (∀ i x, p.votes[i]? = some x → ∃ g, o = some ⟨g, 0, none⟩ ∧ w.cell? ⟨g, i, none⟩ = some (.bool x)) := fun i x hx => by
    have hlt := (List.getElem?_eq_some_iff.1 hx).1
    obtain ⟨g, cap, e, _, _, h3, _⟩ := own_at hv (by omega)
    simp only [Value.slice.injEq] at e
    exact ⟨g, e.1, h3 i _ (by rw [List.getElem?_map, hx]; rfl)⟩
  obtain ⟨L, hL⟩ : ∃ L, L = p.votes.length := ⟨_, rfl⟩
  have HL := hide hL
  rw [← hL] at c7 hl
  have HR : Hid ((p.votes.take L).countP id = p.votes.countP id) := by unfold Hid; rw [hL, List.take_length]
  clear h hv hL
  go_enter Try.func151, Try.ntmps151
  go_wp2
  go_loop [3, 11] (fun n i => ∃ j : Nat, j ≤ L ∧ i = .int .i64 j ∧ n = .int .i64 ((p.votes.take j).countP id : Nat)) (fun _ i => L - (intOf i).toNat)
  case atStart => exact ⟨0, Nat.zero_le _, rfl, by simp⟩
  case round =>
    obtain ⟨j, hj, rfl, rfl⟩ := hrel
    have hcn : (p.votes.take j).countP id ≤ j := by
      refine Nat.le_trans List.countP_le_length ?_
      rw [List.length_take]; omega
    by_cases hlt : j < L
    · obtain ⟨x, hx⟩ : ∃ x, p.votes[j]? = some x := ⟨_, List.getElem?_eq_getElem (by rw [← HL.out]; exact hlt)⟩
      obtain ⟨g, rfl, hc⟩ := HC.out j x hx
      have HS := hide (count_snoc id p.votes j x hx)
      have hltI : (j : Int) < L := by omega
      obtain ⟨cn, hcn2⟩ : ∃ cn, cn = (p.votes.take j).countP id := ⟨_, rfl⟩
      rw [← hcn2] at hcn ⊢
      rw [← hcn2] at HS
      clear hx hcn2
      cases x with
      | true =>
        go_wp2
        go_round
        case rel => exact ⟨j + 1, by omega, by go_num, by rw [HS.out]; simp⟩
        case measure => simp [intOf]; omega
      | false =>
        go_wp2
        go_round
        case rel => exact ⟨j + 1, by omega, by go_num, by rw [HS.out]; simp⟩
        case measure => simp [intOf]; omega
    · have hltI : ¬ (j : Int) < L := by omega
      obtain rfl : j = L := by omega
      rw [HR.out]
      go_wp2
      go_ret
      exact ⟨rfl, rfl⟩

theorem reaching_any (w : World) (M : Fz) (O : Lb) (b k : Nat) (p : Peer) (h : Nod w M O b k p) (hl : p.mat.length ≤ 7) (i : Nat) :
    Calls Try.prog 154 #[.pointer (some ⟨b, 0, none⟩), .int .i64 i] w fun r w' => r = .returned (.int .i64 (p.mat.countP (fun m => decide (i ≤ m)) : Nat)) ∧ w' = w := by
  obtain ⟨us, lv, vv, nv, mv, h⟩ := h
  have hv := h.mat
  obtain ⟨o, cp, rfl⟩ := own_slice hv
  obtain ⟨_, _, hcp⟩ := own_cap hv
  unfold maxLen at hcp
  have c7 := cell_of (i := 9) h.blk rfl
  have HC : Hid (∀ (j x : Nat), p.mat[j]? = some x → ∃ g, o = some ⟨g, 0, none⟩ ∧ w.cell? ⟨g, j, none⟩ = some (.int .i64 x)) := fun j x hx => by
    have hlt := (List.getElem?_eq_some_iff.1 hx).1
    obtain ⟨g, cap, e, _, _, h3, _⟩ := own_at hv (by omega)
    simp only [Value.slice.injEq] at e
    exact ⟨g, e.1, h3 j _ (by rw [List.getElem?_map, hx]; rfl)⟩
  obtain ⟨L, hL⟩ : ∃ L, L = p.mat.length := ⟨_, rfl⟩
  have HL := hide hL
  rw [← hL] at c7 hl
  have HR : Hid ((p.mat.take L).countP (fun m => decide (i ≤ m)) = p.mat.countP (fun m => decide (i ≤ m))) := by unfold Hid; rw [hL, List.take_length]
  clear h hv hL
  go_enter Try.func154, Try.ntmps154
  go_wp2
  go_loop [5, 13] (fun n i' => ∃ j : Nat, j ≤ L ∧ i' = .int .i64 j ∧ n = .int .i64 ((p.mat.take j).countP (fun m => decide (i ≤ m)) : Nat)) (fun _ i' => L - (intOf i').toNat)
  case atStart => exact ⟨0, Nat.zero_le _, rfl, by simp⟩
  case round =>
    obtain ⟨j, hj, rfl, rfl⟩ := hrel
    have hcn : (p.mat.take j).countP (fun m => decide (i ≤ m)) ≤ j := by
      refine Nat.le_trans List.countP_le_length ?_
      rw [List.length_take]; omega
    by_cases hlt : j < L
    · obtain ⟨x, hx⟩ : ∃ x, p.mat[j]? = some x := ⟨_, List.getElem?_eq_getElem (by rw [← HL.out]; exact hlt)⟩
      obtain ⟨g, rfl, hc⟩ := HC.out j x hx
      have HS := hide (count_snoc (fun m => decide (i ≤ m)) p.mat j x hx)
      have hltI : (j : Int) < L := by omega
      obtain ⟨cn, hcn2⟩ : ∃ cn, cn = (p.mat.take j).countP (fun m => decide (i ≤ m)) := ⟨_, rfl⟩
      rw [← hcn2] at hcn ⊢
      rw [← hcn2] at HS
      clear hx hcn2
      by_cases hx : i ≤ x
      · have hxI : (i : Int) ≤ x := by omega
        go_wp2
        go_round
        case rel => exact ⟨j + 1, by omega, by go_num, by rw [HS.out]; simp [hx]⟩
        case measure => simp [intOf]; omega
      · have hxI : ¬ (i : Int) ≤ x := by omega
        go_wp2
        go_round
        case rel => exact ⟨j + 1, by omega, by go_num, by rw [HS.out]; simp [hx]⟩
        case measure => simp [intOf]; omega
    · have hltI : ¬ (j : Int) < L := by omega
      obtain rfl : j = L := by omega
      rw [HR.out]
      go_wp2
      go_ret
      exact ⟨rfl, rfl⟩
end Go.Proofs.Ytklkglbimjajnaa.look

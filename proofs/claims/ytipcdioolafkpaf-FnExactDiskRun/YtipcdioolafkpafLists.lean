/- Contracts of the laws' own helpers on lists of bytes: equal, marked, held. -/
import Derived.Test.YtipcdioolafkpafReader
namespace Go.Proofs.Ytipcdioolafkpaf.lists
open Go.ChangeShapes Go.WideShapes Go.ChangeAt Go.RowKit
open Go.Proofs.Ytipcdioolafkpaf.bytes Go.Proofs.Ytipcdioolafkpaf.pile Go.Proofs.Ytipcdioolafkpaf.reader
set_option linter.unusedVariables false

set_option maxHeartbeats 800000 in
theorem eqs_same (w : World) (a b : Value) (us vs : List Value) (xss : List (List Int)) (ha : RdS w a us) (hb : RdS w b vs) (hta : Texts w us xss) (htb : Texts w vs xss) :
    Calls Try.prog 19 #[a, b] w fun e w' => e = .returned (.bool true) ∧ ∃ n, w' = w.drewN n := by
  have HT : Hid (Texts w us xss ∧ Texts w vs xss) := ⟨hta, htb⟩
  have hl1 := hta.1
  have hl2 := htb.1
  have hl : us.length = vs.length := by omega
  clear hta htb hl1 hl2
  obtain ⟨ao, ca, rfl, ha1, ha2, ha3⟩ := ha
  obtain ⟨bo, cb, rfl, hb1, hb2, hb3⟩ := hb
  unfold maxLen at ha2 hb2
  have HL : Hid (us.length = vs.length) := hl
  rw [← hl] at hb1 hb3
  rw [← hl]
  clear hl
  have hne : (((us.length : Nat) : Int) != ((us.length : Nat) : Int)) = false := by simp
  go_enter Try.func19, Try.ntmps19
  go_wp2
  go_loopw [5] (fun i wr => ∃ k m : Nat, k ≤ us.length ∧ i = .int .i64 k ∧ wr = w.drewN m) (fun i _ => us.length - (intOf i).toNat)
  case atStart => exact ⟨0, 0, by omega, rfl, rfl⟩
  case round =>
    obtain ⟨k, m, hk, rfl, rfl⟩ := hrel
    by_cases hlt : k < us.length
    · obtain ⟨ab, aoff, rfl, hca⟩ := ha3 (by omega)
      obtain ⟨bb, boff, rfl, hcb⟩ := hb3 (by omega)
      have hca' := hca k hlt
      have hcb' := hcb k hlt
      have HE : Hid (∀ x, Calls Try.prog 12 #[us.getD k (.slice none 0 0), vs.getD k (.slice none 0 0)] (w.drewN (m + x)) fun e w'' => e = .returned (.bool true) ∧ ∃ n, w'' = w.drewN (m + n)) := fun x => by
        refine (eq_same (w.drewN (m + x)) _ _ (xss.getD k []) (by exact (HT.out.1.2 k hlt).1) (by exact (HT.out.2.2 k (by rw [← HL.out]; exact hlt)).1)).mono ?_
        rintro e w'' ⟨rfl, n, rfl⟩
        exact ⟨rfl, x + n, by rw [World.drewN_drewN, Nat.add_assoc]⟩
      clear hca hcb ha3 hb3
      generalize us.getD k (.slice none 0 0) = u at hca' HE
      generalize vs.getD k (.slice none 0 0) = v at hcb' HE
      go_wp2
      go_quiet ((go_at_call 12; exact HE.out _))
      go_wp2
      go_roundw
      case rel => exact ⟨k + 1, _, by omega, by go_num, rfl⟩
      case measure => simp [intOf]; omega
    · go_wp2
      go_ret
      exact ⟨rfl, m, rfl⟩

/-- The lists as they are when the first k of them are marked. -/
def mkL (q : Int) (xss : List (List Int)) (k i : Nat) : List Int := if i < k then marks (q + sizeTo xss i) (xss.getD i []).length else xss.getD i []

/-- So many of the lists are marked, the others are as they were. -/
structure MP (w : World) (base : Nat) (a : Value) (us : List Value) (xss : List (List Int)) (q : Int) (k : Nat) : Prop where
  row : w.ownsRow base 22 1 a us.length us
  len : us.length = xss.length
  each : ∀ i, i < us.length → Own w base (us.getD i (.slice none 0 0)) (mkL q xss k i)
  apart : ∀ i j, i < us.length → j < us.length → i ≠ j → ∀ g, (us.getD i (.slice none 0 0)).ownBlock = some g → (us.getD j (.slice none 0 0)).ownBlock ≠ some g

theorem row_rdS {w : World} {base : Nat} {a : Value} {us : List Value} (h : w.ownsRow base 22 1 a us.length us) : RdS w a us := by
  have h' := h
  obtain ⟨h1, ⟨rfl, h2⟩ | ⟨g, cap, cur, rfl, hb, hg, hnc, hcm, hcs, htake⟩⟩ := h
  · exact ⟨none, 0, by rw [h2], by omega, by simp [maxLen], fun hp => by omega⟩
  · refine ⟨_, cap, rfl, hnc, hcm, fun hp => ⟨g, 0, rfl, fun i hi => ?_⟩⟩
    have := World.ownsRow.cellAt h' i (by omega)
    rw [Nat.zero_add, this]
    simp [List.getD_eq_getElem?_getD, hi]

theorem mk_all (q : Int) (xss : List (List Int)) {k i : Nat} (h : i < k) : mkL q xss k i = marks (q + sizeTo xss i) (xss.getD i []).length := by rw [mkL, if_pos h]
theorem mk_none (q : Int) (xss : List (List Int)) {k i : Nat} (h : ¬ i < k) : mkL q xss k i = xss.getD i [] := by rw [mkL, if_neg h]

theorem row_ne' {w : World} {base pb : Nat} {v : Value} {xs : List Int} {pv : Value} {n : Nat} {us : List Value} (h : Own w base v xs) (hp : w.ownsRow pb 22 1 pv n us) : pv.ownBlock = none ∨ pv.ownBlock ≠ v.ownBlock := by
  cases hv : pv.ownBlock with
  | none => exact .inl rfl
  | some k =>
    refine .inr fun e => ?_
    obtain ⟨c1, h1⟩ := own_typed h.2 e.symm
    obtain ⟨c2, h2⟩ := own_typed hp hv
    rw [h1] at h2
    simp at h2

theorem MP.step {w w' : World} {base : Nat} {a : Value} {us : List Value} {xss : List (List Int)} {q : Int} {k : Nat} (h : MP w base a us xss q k) (hk : k < us.length)
    (hm : Own w' base (us.getD k (.slice none 0 0)) (marks (q + sizeTo xss k) (xss.getD k []).length)) (hg : w.grownBy w' (us.getD k (.slice none 0 0)).ownBlock) : MP w' base a us xss q (k + 1) where
  row := World.ownsRow.kept h.row hg (row_ne' (h.each k hk) h.row)
  len := h.len
  each := fun i hi => by
    by_cases e : i = k
    · subst e
      rw [mk_all q xss (by omega)]
      exact hm
    · have : mkL q xss (k + 1) i = mkL q xss k i := by
        by_cases h1 : i < k
        · rw [mk_all q xss h1, mk_all q xss (by omega)]
        · rw [mk_none q xss h1, mk_none q xss (by omega)]
      rw [this]
      refine own_kept (h.each i hi) hg ?_
      cases hv : (us.getD i (.slice none 0 0)).ownBlock with
      | none => exact .inl rfl
      | some g => exact .inr fun e2 => h.apart i k hi hk e g hv e2.symm
  apart := h.apart

set_option maxHeartbeats 800000 in
theorem marks_own (w : World) (base : Nat) (a : Value) (us : List Value) (xss : List (List Int)) (q : Int) (h0 : 0 ≤ q) (hq : q + xss.flatten.length ≤ 4611686018427387904) (h : MP w base a us xss q 0) (hb : base ≤ w.heap.size) :
    Calls Try.prog 20 #[a, .int .i64 q] w fun e w' => e = .returned (.int .i64 (q + xss.flatten.length)) ∧ MP w' base a us xss q us.length ∧ Below base w w' := by
  obtain ⟨T, hT⟩ : ∃ T, T = xss.flatten.length := ⟨_, rfl⟩
  have HT : Hid (T = xss.flatten.length) := hT
  rw [← hT] at hq ⊢
  clear hT
  have HM : Hid (MP w base a us xss q 0) := h
  obtain ⟨ao, ca, rfl, ha1, ha2, ha3⟩ := row_rdS h.row
  clear h ha3
  unfold maxLen at ha2
  go_enter Try.func20, Try.ntmps20
  go_wp2
  go_loopw [1, 5] (fun q' i wr => ∃ k : Nat, k ≤ us.length ∧ i = .int .i64 k ∧ q' = .int .i64 (q + sizeTo xss k) ∧ Hid (MP wr base (.slice ao us.length ca) us xss q k ∧ Below base w wr)) (fun _ i _ => us.length - (intOf i).toNat)
  case atStart => exact ⟨0, by omega, rfl, by simp [sizeTo], hide ⟨HM.out, Below.refl _ _⟩⟩
  case round =>
    obtain ⟨k, hk, rfl, rfl, HR⟩ := hrel
    have hsz : sizeTo xss k ≤ T := by rw [HT.out]; exact sizeTo_le xss k
    by_cases hlt : k < us.length
    · obtain ⟨ao', ca', e, _, _, h3⟩ := row_rdS HR.out.1.row
      simp only [Value.slice.injEq, true_and] at e
      obtain ⟨rfl, rfl⟩ := e
      obtain ⟨ab, aoff, rfl, hca⟩ := h3 (by omega)
      have hc := hca k hlt
      clear hca h3
      have hs1 := sizeTo_succ (xss := xss) (k := k) (by rw [← HR.out.1.len]; exact hlt)
      have hs2 : sizeTo xss (k + 1) ≤ T := by rw [HT.out]; exact sizeTo_le xss (k + 1)
      have HS : Hid (sizeTo xss (k + 1) = sizeTo xss k + (xss.getD k []).length) := hs1
      have hb2 : sizeTo xss k + (xss.getD k []).length ≤ T := by omega
      have HC : Hid (Calls Try.prog 15 #[us.getD k (.slice none 0 0), .int .i64 (q + sizeTo xss k)] wr fun e w' => e = .returned (.int .i64 (q + sizeTo xss k + (xss.getD k []).length)) ∧ MP w' base (.slice (some ⟨ab, aoff, none⟩) us.length ca) us xss q (k + 1) ∧ Below base wr w') := by
        have ho := HR.out.1.each k hlt
        rw [mk_none q xss (by omega)] at ho
        refine (mark_own wr base _ (q + sizeTo xss k) (xss.getD k []) (by omega) (by omega) ho).mono ?_
        rintro e w' ⟨rfl, h1, h2⟩
        exact ⟨rfl, HR.out.1.step hlt h1 h2, (Below.refl base wr).grown h2 (by have := HR.out.2.size; omega) (fun j hj => (ho.lt j hj).1)⟩
      clear hs1 hs2
      generalize us.getD k (.slice none 0 0) = u at hc HC
      generalize (xss.getD k []).length = L at HC HS hb2
      go_wp2_with fail
      refine HC.out.mono ?_
      rintro e w1 ⟨rfl, hM1, hB1⟩
      have HM1 : Hid (MP w1 base (.slice (some ⟨ab, aoff, none⟩) us.length ca) us xss q (k + 1) ∧ Below base w w1) := ⟨hM1, HR.out.2.trans hB1⟩
      clear hM1 hB1 HC
      go_wp2
      go_roundw
      case rel => exact ⟨k + 1, by omega, by go_num, by rw [HS.out]; go_num, HM1⟩
      case measure => simp [intOf]; omega
    · have hkk : k = us.length := by omega
      have hkT : sizeTo xss k = T := by
        rw [HT.out]
        unfold sizeTo
        rw [List.take_of_length_le (by rw [← HR.out.1.len]; omega)]
      rw [hkT]
      subst hkk
      go_wp2
      go_ret
      exact ⟨rfl, HR.out⟩

set_option maxHeartbeats 800000 in
theorem helds_same (w : World) (base : Nat) (a : Value) (us : List Value) (xss : List (List Int)) (q : Int) (h0 : 0 ≤ q) (hq : q + xss.flatten.length ≤ 4611686018427387904) (h : MP w base a us xss q us.length) :
    Calls Try.prog 21 #[a, .int .i64 q] w fun e w' => e = .returned (.int .i64 (q + xss.flatten.length)) ∧ w' = w := by
  obtain ⟨T, hT⟩ : ∃ T, T = xss.flatten.length := ⟨_, rfl⟩
  have HT : Hid (T = xss.flatten.length) := hT
  rw [← hT] at hq ⊢
  clear hT
  have HM : Hid (MP w base a us xss q us.length) := h
  obtain ⟨ao, ca, rfl, ha1, ha2, ha3⟩ := row_rdS h.row
  clear h
  unfold maxLen at ha2
  go_enter Try.func21, Try.ntmps21
  go_wp2
  go_loop [1, 5] (fun q' i => ∃ k : Nat, k ≤ us.length ∧ i = .int .i64 k ∧ q' = .int .i64 (q + sizeTo xss k)) (fun _ i => us.length - (intOf i).toNat)
  case atStart => exact ⟨0, by omega, rfl, by simp [sizeTo]⟩
  case round =>
    obtain ⟨k, hk, rfl, rfl⟩ := hrel
    have hsz : sizeTo xss k ≤ T := by rw [HT.out]; exact sizeTo_le xss k
    by_cases hlt : k < us.length
    · obtain ⟨ab, aoff, rfl, hca⟩ := ha3 (by omega)
      have hc := hca k hlt
      clear hca ha3
      have hs1 := sizeTo_succ (xss := xss) (k := k) (by rw [← HM.out.len]; exact hlt)
      have hs2 : sizeTo xss (k + 1) ≤ T := by rw [HT.out]; exact sizeTo_le xss (k + 1)
      have HS : Hid (sizeTo xss (k + 1) = sizeTo xss k + (xss.getD k []).length) := hs1
      have hb2 : sizeTo xss k + (xss.getD k []).length ≤ T := by omega
      have HC : Hid (Calls Try.prog 16 #[us.getD k (.slice none 0 0), .int .i64 (q + sizeTo xss k)] w fun e w' => e = .returned (.int .i64 (q + sizeTo xss k + (xss.getD k []).length)) ∧ w' = w) := by
        have ho := HM.out.each k hlt
        rw [mk_all q xss hlt] at ho
        exact held_same w _ (q + sizeTo xss k) (xss.getD k []).length (by omega) (by omega) ho.rd
      clear hs1 hs2
      generalize us.getD k (.slice none 0 0) = u at hc HC
      generalize (xss.getD k []).length = L at HC HS hb2
      have hpos : ¬ q + (sizeTo xss k : Int) + (L : Int) < 0 := by omega
      go_wp2_with fail
      refine HC.out.mono ?_
      rintro e w1 ⟨rfl, rfl⟩
      go_wp2
      go_round
      case rel => exact ⟨k + 1, by omega, by go_num, by rw [HS.out]; go_num⟩
      case measure => simp [intOf]; omega
    · have hkT : sizeTo xss k = T := by
        rw [HT.out]
        unfold sizeTo
        rw [List.take_of_length_le (by rw [← HM.out.len]; omega)]
      rw [hkT]
      go_wp2
      go_ret
      exact ⟨rfl, rfl⟩

theorem MP.of_pile {w : World} {base : Nat} {a : Value} {us : List Value} {xss : List (List Int)} (q : Int) (hr : w.ownsRow base 22 1 a us.length us) (hp : Pile w base us xss) : MP w base a us xss q 0 :=
  ⟨hr, hp.1, fun i hi => by rw [mk_none q xss (by omega)]; exact hp.2.1 i hi, hp.2.2⟩
theorem MP.below {w w' : World} {base : Nat} {a : Value} {us : List Value} {xss : List (List Int)} {q : Int} {k : Nat} (h : MP w base a us xss q k) (hb : Below w.heap.size w w') : MP w' base a us xss q k where
  row := by
    obtain ⟨h1, h2 | ⟨g, c, cur, rfl, hbg, hg, r⟩⟩ := h.row
    · exact ⟨h1, .inl h2⟩
    · exact ⟨h1, .inr ⟨g, c, cur, rfl, hbg, (hb.block g (Array.getElem?_eq_some_iff.1 hg).1).trans hg, r⟩⟩
  len := h.len
  each := fun i hi => (h.each i hi).below hb (Nat.le_refl _)
  apart := h.apart
end Go.Proofs.Ytipcdioolafkpaf.lists

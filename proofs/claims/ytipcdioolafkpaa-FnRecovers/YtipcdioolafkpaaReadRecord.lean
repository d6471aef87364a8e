/- readRecord: what a payload tells. -/
import Derived.Test.YtipcdioolafkpaaReadRec
namespace Go.Proofs.Ytipcdioolafkpaa.readrecord
open Go.ChangeShapes Go.WideShapes Go.ChangeAt Go.RowKit
open Go.Proofs.Ytipcdioolafkpaa.bytes Go.Proofs.Ytipcdioolafkpaa.pile Go.Proofs.Ytipcdioolafkpaa.put Go.Proofs.Ytipcdioolafkpaa.crcs Go.Proofs.Ytipcdioolafkpaa.join Go.Proofs.Ytipcdioolafkpaa.frames Go.Proofs.Ytipcdioolafkpaa.get Go.Proofs.Ytipcdioolafkpaa.dec Go.Proofs.Ytipcdioolafkpaa.take Go.Proofs.Ytipcdioolafkpaa.one Go.Proofs.Ytipcdioolafkpaa.votes Go.Proofs.Ytipcdioolafkpaa.pays Go.Proofs.Ytipcdioolafkpaa.rechelp Go.Proofs.Ytipcdioolafkpaa.recrows Go.Proofs.Ytipcdioolafkpaa.recov Go.Proofs.Ytipcdioolafkpaa.entries Go.Proofs.Ytipcdioolafkpaa.readrec
set_option linter.unusedVariables false

/-- What readRecord answers. -/
def ReadE (w : World) (p : List Int) (e : Ending) (w' : World) : Prop :=
  Below w.heap.size w w' ∧ ((∃ iv, e = .returned (.tuple #[iv, .bool false]) ∧ ∀ s, takeS s p = none) ∨
    (∃ a b : Int, e = .returned (.tuple #[.iface 120 (.agg #[.int .i64 a, .int .i64 b]), .bool true]) ∧ (termIn a ∧ termIn b) ∧ ∀ s, takeS s p = fitV s a b) ∨
    (∃ a b : Int, e = .returned (.tuple #[.iface 127 (.agg #[.int .i64 a, .int .i64 b]), .bool true]) ∧ (termIn a ∧ termIn b) ∧ ∀ s, takeS s p = fitB s a b) ∨
    (∃ (a b : Int) (o : Option Addr) (n c : Nat) (d : List Int), e = .returned (.tuple #[.iface 122 (.agg #[.int .i64 a, .int .i64 b, .slice o n c]), .bool true]) ∧ Own w' w.heap.size (.slice o n c) d ∧ d.length ≤ 1000 ∧ (termIn a ∧ termIn b ∧ 1 ≤ b) ∧ ∀ s, takeS s p = fitE s a b d))
theorem inB_term {a b : Int} : (inB a && inB b) = true ↔ (termIn a ∧ termIn b) := by simp [inB, termIn]
theorem take_nums {p : List Int} (s : St) (h : p = [] ∨ (num1 p).2.2 ≠ 0 ∨ (num2 p).2.2 ≠ 0 ∨ ¬ termIn (num1 p).1 ∨ ¬ termIn (num2 p).1) : takeS s p = none := by unfold takeS; rw [if_pos h]
theorem take_else {p : List Int} (s : St) (hp : p ≠ []) (h1 : (num1 p).2.2 = 0) (h2 : (num2 p).2.2 = 0) (h3 : termIn (num1 p).1 ∧ termIn (num2 p).1) : takeS s p =
    if p.getD 0 0 = 1 then (if 0 < (restP p).length then none else fitV s (num1 p).1 (num2 p).1)
    else if p.getD 0 0 = 2 then (if (num2 p).1 < 1 ∨ 1000 < (restP p).length then none else fitE s (num1 p).1 (num2 p).1 (restP p))
    else if p.getD 0 0 = 3 then (if 0 < (restP p).length then none else fitB s (num1 p).1 (num2 p).1)
    else none := by
  unfold takeS
  rw [if_neg (by simp only [not_or, Decidable.not_not]; exact ⟨hp, h1, h2, h3.1, h3.2⟩)]
theorem take_kind {p : List Int} (s : St) (hk : ¬ p.getD 0 0 = 1) (hk2 : ¬ p.getD 0 0 = 2) (hk3 : ¬ p.getD 0 0 = 3) : takeS s p = none := by
  unfold takeS
  rw [if_neg hk, if_neg hk2, if_neg hk3]
  split <;> rfl
theorem take_behind {p : List Int} (s : St) (hk2 : ¬ p.getD 0 0 = 2) (hr : 0 < (restP p).length) : takeS s p = none := by
  unfold takeS
  simp only [if_pos hr, if_neg hk2]
  repeat' split
  all_goals rfl

set_option maxRecDepth 20000 in
set_option maxHeartbeats 4000000 in
theorem readRecord_any (w : World) (ao : Option Addr) (cap : Nat) (p : List Int) (h : RdA w (.slice ao p.length cap) p) (hl : p.length ≤ 65536) :
    Calls Try.prog 79 #[.slice ao p.length cap] w (ReadE w p) := by
  have hm1 : ∀ (w : World) (a b : Int), (method 248 120 (.agg #[.int .i64 a, .int .i64 b]) "loop.example/g00142/impl.inBounds").run Try.prog w = .ok (81, .agg #[.int .i64 a, .int .i64 b]) w := fun _ _ _ => by kernel_rfl
  have hm2 : ∀ (w : World) (a b : Int), (method 248 127 (.agg #[.int .i64 a, .int .i64 b]) "loop.example/g00142/impl.inBounds").run Try.prog w = .ok (109, .agg #[.int .i64 a, .int .i64 b]) w := fun _ _ _ => by kernel_rfl
  have hm3 : ∀ (w : World) (a b : Int) (o : Option Addr) (n c : Nat), (method 248 122 (.agg #[.int .i64 a, .int .i64 b, .slice o n c]) "loop.example/g00142/impl.inBounds").run Try.prog w = .ok (82, .agg #[.int .i64 a, .int .i64 b, .slice o n c]) w := fun _ _ _ _ _ _ => by kernel_rfl
  obtain ⟨_, hc1, hc2⟩ := le_cap h.1
  unfold maxLen at hc2
  have HD0 : Hid (DS w (w.alloc (.cells #[.slice ao p.length cap, .int .i64 0] 60)) ao cap p 0) := ⟨heap_alloc_new w _, (Below.refl _ _).alloc (Nat.le_refl _) _, h, Nat.zero_le _, hl⟩
  have HBd : Hid (∀ x ∈ p, 0 ≤ x ∧ x ≤ 255) := rd_bd h.1
  clear h
  have HL := hide (left_ds HD0.out)
  rw [Nat.sub_zero] at HL
  by_cases hp : p.length = 0
  · have HN : Hid (∀ s, takeS s p = none) := fun s => take_nums s (.inl (List.eq_nil_of_length_eq_zero hp))
    have HP0 : Hid (((p.length : Nat) : Int) = 0) := by unfold Hid; omega
    clear hp
    go_enter Try.func79, Try.ntmps79
    go_wp2_with fail
    refine HL.out.mono ?_
    rintro e w1 ⟨rfl, D1⟩
    have HB : Hid (Below w.heap.size w w1) := D1.bel
    clear D1 HD0 HL
    rw [HP0.out]
    go_wp2
    go_ret2
    exact ⟨HB.out, .inl ⟨_, rfl, HN.out⟩⟩
  have hp0 : ¬ ((p.length : Nat) : Int) = 0 := by omega
  have HNe : Hid (p ≠ []) := fun e => by rw [e] at hp; simp at hp
  go_enter Try.func79, Try.ntmps79
  go_wp2_with fail
  refine HL.out.mono ?_
  rintro e w1 ⟨rfl, D1⟩
  have HT := hide (take_ds D1 1 (by omega))
  clear D1 HD0 HL
  obtain ⟨o2, c2, hcut⟩ := cutV_form ao cap 0 1
  rw [hcut] at HT
  go_wp2_with fail
  refine HT.out.mono ?_
  rintro e w2 ⟨rfl, D2, R2⟩
  have hk1 : ((p.drop 0).take 1).length = 1 := by simp; omega
  obtain ⟨ao', cap', e2, hq1, hq2, _, hq4⟩ := R2.1
  simp only [Value.slice.injEq] at e2
  obtain ⟨rfl, hz2, rfl⟩ := e2
  clear hz2
  obtain ⟨kb, koff, rfl, hkc⟩ := hq4 (by omega)
  have hkind := hkc 0 (by omega)
  have hg0 : ((p.drop 0).take 1).getD 0 0 = p.getD 0 0 := by cases p <;> simp
  rw [hg0, Nat.add_zero] at hkind
  have hbd : 0 ≤ p.getD 0 0 ∧ p.getD 0 0 ≤ 255 := by
    cases p with
    | nil => simp
    | cons x r => exact HBd.out x (by simp)
  clear hkc hq4 hk1 hg0 R2 HT hcut HBd hq1 hq2
  rw [Nat.zero_add] at D2
  have HN1 := hide (number_ds D2)
  clear D2
  have H1 : Hid (num1 p = getR 9 0 0 (p.drop 1)) := rfl
  have hok1 := hide (getR_ok 9 0 0 (p.drop 1) (by omega))
  have H2 : Hid (num2 p = getR 9 0 0 (p.drop (1 + (num1 p).2.1))) := rfl
  rw [H1.out] at H2
  generalize getR 9 0 0 (p.drop 1) = g1 at HN1 H1 hok1 H2
  generalize hkk : p.getD 0 0 = K at hkind hbd
  have HK : Hid (p.getD 0 0 = K) := hkk
  clear hkk
  go_wp2_with fail
  refine HN1.out.mono ?_
  rintro e w3 ⟨rfl, h3a, h3b⟩
  clear HN1 hkind
  by_cases hs1 : g1.2.2 = 0
  · have D3 := h3a hs1
    clear h3a h3b
    have HN2 := hide (number_ds D3)
    clear D3
    generalize getR 9 0 0 (p.drop (1 + g1.2.1)) = g2 at HN2 H2
    go_wp2_with fail
    refine HN2.out.mono ?_
    rintro e w4 ⟨rfl, h4a, h4b⟩
    clear HN2
    by_cases hs2 : g2.2.2 = 0
    · have D4 := h4a hs2
      clear h4a h4b
      have hA := D4.le
      have HR : Hid (restP p = p.drop (1 + g1.2.1 + g2.2.1)) := by unfold Hid restP; rw [H2.out, H1.out]
      have HS1 : Hid (g1.2.2 = 0) := hs1
      have HS2 : Hid (g2.2.2 = 0) := hs2
      generalize 1 + g1.2.1 + g2.2.1 = A at D4 HR hA
      have HLf := hide (left_ds D4)
      clear D4
      go_wp2_with fail
      refine HLf.out.mono ?_
      rintro e w5 ⟨rfl, D5⟩
      have HT5 := hide (take_ds D5 (p.length - A) (by omega))
      clear D5 HLf
      obtain ⟨o6, c6, hcut6⟩ := cutV_form ao cap A (p.length - A)
      rw [hcut6] at HT5
      clear hcut6
      go_wp2_with fail
      refine HT5.out.mono ?_
      rintro e w6 ⟨rfl, D6, R6⟩
      have hrl : Hid ((restP p).length = p.length - A) := by unfold Hid; rw [HR.out, List.length_drop]
      have HR6 : Hid (RdA w6 (.slice o6 (p.length - A) c6) (restP p)) := by
        rw [List.take_of_length_le (by rw [List.length_drop]; omega), ← HR.out] at R6
        exact R6
      have HB6 : Hid (Below w.heap.size w w6) := D6.bel
      have hLb : p.length - A ≤ 65536 := by omega
      clear HT5 D6 R6 HR hok1
      generalize p.length - A = L at hrl HR6 hLb
      have HTn : Hid ((inB g1.1 && inB g2.1) = false → ∀ s, takeS s p = none) := fun hy s => take_nums s (.inr (.inr (.inr (by
        have hh : ¬ (termIn g1.1 ∧ termIn g2.1) := fun h => by rw [inB_term.2 h] at hy; simp at hy
        rw [H1.out, H2.out]
        by_cases hq : termIn g1.1
        · exact .inr (fun h2 => hh ⟨hq, h2⟩)
        · exact .inl hq))))
      by_cases hK2 : K = 2
      · subst hK2
        have hj : ∀ W : World, W.heap[w6.heap.size]? = some (.cells #[.slice o6 L c6] 22 (0, 0)) → RdA W (.slice o6 L c6) (restP p) → Calls Try.prog 40 #[.slice (some ⟨w6.heap.size, 0, none⟩) 1 1] W fun e w' => ∃ v, e = .returned v ∧ Own w' W.heap.size v (restP p) ∧ Below W.heap.size W w' := fun W hk hr => by
          have h := join_own W (.slice (some ⟨w6.heap.size, 0, none⟩) 1 1) [.slice o6 L c6] [restP p] ⟨_, _, rfl, Nat.le_refl _, by simp [maxLen], fun _ => ⟨w6.heap.size, 0, rfl, fun i hi => by
              obtain rfl : i = 0 := by simp at hi; omega
              simp [World.cell?, hk]⟩⟩ ⟨rfl, fun i hi => by
              obtain rfl : i = 0 := by simp at hi; omega
              exact hr⟩ (by simp [hrl.out]; omega)
          simpa using h
        have HJ := hide (hj _ (heap_alloc_new w6 _) (HR6.out.below ((Below.refl _ _).alloc (Nat.le_refl _) _) (Nat.le_refl _)))
        clear hj
        go_wp2_with fail
        refine HJ.out.mono ?_
        rintro e w7 ⟨v7, rfl, O7, b7⟩
        have B7 : Below w.heap.size w w7 := (HB6.out.alloc HB6.out.size _).trans (b7.mono (HB6.out.alloc HB6.out.size _).size)
        have HO7 : Hid (Own w7 w.heap.size v7 (restP p) ∧ Below w.heap.size w w7) := ⟨O7.mono (HB6.out.alloc HB6.out.size _).size, B7⟩
        obtain ⟨o7, c7, rfl, _⟩ := O7.rd
        rw [hrl.out] at HO7 ⊢
        clear O7 b7 B7 HJ HR6
        have HTe : Hid (recOK g1.1 g2.1 L = true → (restP p).length ≤ 1000 ∧ (termIn g1.1 ∧ termIn g2.1 ∧ 1 ≤ g2.1) ∧ ∀ s, takeS s p = fitE s g1.1 g2.1 (restP p)) := fun hy => by
          simp only [recOK, Bool.and_eq_true, decide_eq_true_eq] at hy
          have h := inB_term.1 (by simp only [Bool.and_eq_true]; exact hy.1.1)
          refine ⟨by rw [hrl.out]; exact hy.2, ⟨h.1, h.2, hy.1.2⟩, fun s => ?_⟩
          rw [take_else s HNe.out (by rw [H1.out]; exact HS1.out) (by rw [H2.out]; exact HS2.out) (by rw [H1.out, H2.out]; exact h), HK.out, if_neg (by decide), if_pos rfl, H1.out, H2.out, hrl.out, if_neg (by have := hy.1.2; have := hy.2; omega)]
        have HTf : Hid (recOK g1.1 g2.1 L = false → ∀ s, takeS s p = none) := fun hy s => by
          rcases Bool.eq_false_or_eq_true (inB g1.1 && inB g2.1) with h | h
          · rw [take_else s HNe.out (by rw [H1.out]; exact HS1.out) (by rw [H2.out]; exact HS2.out) (by rw [H1.out, H2.out]; exact inB_term.1 h), HK.out, if_neg (by decide), if_pos rfl, H2.out, hrl.out, if_pos]
            simp only [recOK, h, Bool.true_and, Bool.and_eq_false_iff, decide_eq_false_iff_not] at hy
            omega
          · exact HTn.out h s
        rcases Bool.eq_false_or_eq_true (recOK g1.1 g2.1 L) with hy | hy
        · have HY : Hid (recOK g1.1 g2.1 L = true) := hy
          clear hy
          go_wp2_with fail
          refine (entry_in _ _ _ _ _ _ (by unfold maxLen; omega)).mono ?_
          rintro e w8 ⟨rfl, b8⟩
          rw [HY.out]
          have HB : Hid (Own w8 w.heap.size (.slice o7 L c7) (restP p) ∧ Below w.heap.size w w8) := ⟨HO7.out.1.below b8 (Nat.le_refl _), HO7.out.2.trans (b8.mono HO7.out.2.size)⟩
          clear b8 HO7
          go_wp2
          go_ret2
          obtain ⟨t1, t2, t3⟩ := HTe.out HY.out
          exact ⟨HB.out.2, .inr (.inr (.inr ⟨g1.1, g2.1, o7, L, c7, restP p, rfl, HB.out.1, t1, t2, t3⟩))⟩
        · have HY : Hid (recOK g1.1 g2.1 L = false) := hy
          clear hy
          go_wp2_with fail
          refine (entry_in _ _ _ _ _ _ (by unfold maxLen; omega)).mono ?_
          rintro e w8 ⟨rfl, b8⟩
          rw [HY.out]
          have HB : Hid (Below w.heap.size w w8) := HO7.out.2.trans (b8.mono HO7.out.2.size)
          clear b8 HO7
          go_wp2
          go_ret2
          exact ⟨HB.out, .inl ⟨_, rfl, HTf.out HY.out⟩⟩
      by_cases hL : (0 : Int) < L
      · have HN : Hid (∀ s, takeS s p = none) := fun s => take_behind s (by rw [HK.out]; exact hK2) (by rw [hrl.out]; omega)
        have hK2b : (K != 2) = true := by simp only [bne_iff_ne]; exact hK2
        have hLn : 0 < L := by omega
        clear HR6 hL
        go_wp2
        go_ret2
        exact ⟨HB6.out, .inl ⟨_, rfl, HN.out⟩⟩
      obtain rfl : L = 0 := by omega
      by_cases hK1 : K = 1
      · subst hK1
        have HTk : Hid ((inB g1.1 && inB g2.1) = true → (termIn g1.1 ∧ termIn g2.1) ∧ ∀ s, takeS s p = fitV s g1.1 g2.1) := fun hy => ⟨inB_term.1 hy, fun s => by
          have h := inB_term.1 hy
          rw [take_else s HNe.out (by rw [H1.out]; exact HS1.out) (by rw [H2.out]; exact HS2.out) (by rw [H1.out, H2.out]; exact h), HK.out, H1.out, H2.out, hrl.out]
          simp⟩
        rcases Bool.eq_false_or_eq_true (inB g1.1 && inB g2.1) with hy | hy
        · have HY : Hid ((inB g1.1 && inB g2.1) = true) := hy
          clear hy
          go_wp2_with fail
          refine (vote_in _ _ _).mono ?_
          rintro e w8 ⟨rfl, b8⟩
          rw [HY.out]
          have HB : Hid (Below w.heap.size w w8) := HB6.out.trans (b8.mono HB6.out.size)
          clear b8
          go_wp2
          go_ret2
          exact ⟨HB.out, .inr <| .inl ⟨g1.1, g2.1, rfl, HTk.out HY.out⟩⟩
        · have HY : Hid ((inB g1.1 && inB g2.1) = false) := hy
          clear hy
          go_wp2_with fail
          refine (vote_in _ _ _).mono ?_
          rintro e w8 ⟨rfl, b8⟩
          rw [HY.out]
          have HB : Hid (Below w.heap.size w w8) := HB6.out.trans (b8.mono HB6.out.size)
          clear b8
          go_wp2
          go_ret2
          exact ⟨HB.out, .inl ⟨_, rfl, HTn.out HY.out⟩⟩
      by_cases hK3 : K = 3
      · subst hK3
        have HTk : Hid ((inB g1.1 && inB g2.1) = true → (termIn g1.1 ∧ termIn g2.1) ∧ ∀ s, takeS s p = fitB s g1.1 g2.1) := fun hy => ⟨inB_term.1 hy, fun s => by
          have h := inB_term.1 hy
          rw [take_else s HNe.out (by rw [H1.out]; exact HS1.out) (by rw [H2.out]; exact HS2.out) (by rw [H1.out, H2.out]; exact h), HK.out, H1.out, H2.out, hrl.out]
          simp⟩
        rcases Bool.eq_false_or_eq_true (inB g1.1 && inB g2.1) with hy | hy
        · have HY : Hid ((inB g1.1 && inB g2.1) = true) := hy
          clear hy
          go_wp2_with fail
          refine (base_in _ _ _).mono ?_
          rintro e w8 ⟨rfl, b8⟩
          rw [HY.out]
          have HB : Hid (Below w.heap.size w w8) := HB6.out.trans (b8.mono HB6.out.size)
          clear b8
          go_wp2
          go_ret2
          exact ⟨HB.out, .inr <| .inr <| .inl ⟨g1.1, g2.1, rfl, HTk.out HY.out⟩⟩
        · have HY : Hid ((inB g1.1 && inB g2.1) = false) := hy
          clear hy
          go_wp2_with fail
          refine (base_in _ _ _).mono ?_
          rintro e w8 ⟨rfl, b8⟩
          rw [HY.out]
          have HB : Hid (Below w.heap.size w w8) := HB6.out.trans (b8.mono HB6.out.size)
          clear b8
          go_wp2
          go_ret2
          exact ⟨HB.out, .inl ⟨_, rfl, HTn.out HY.out⟩⟩
      have HN : Hid (∀ s, takeS s p = none) := fun s => take_kind s (by rw [HK.out]; exact hK1) (by rw [HK.out]; exact hK2) (by rw [HK.out]; exact hK3)
      clear HR6
      go_wp2
      go_ret2
      exact ⟨HB6.out, .inl ⟨_, rfl, HN.out⟩⟩
    · have HB : Hid (Below w.heap.size w w4) := (h4b hs2).bel
      have HN : Hid (∀ s, takeS s p = none) := fun s => take_nums s (.inr (.inr (.inl (by rw [H2.out]; exact hs2))))
      clear h4a h4b
      go_wp2
      go_ret2
      exact ⟨HB.out, .inl ⟨_, rfl, HN.out⟩⟩
  · have D3 := h3b hs1
    have HN : Hid (∀ s, takeS s p = none) := fun s => take_nums s (.inr (.inl (by rw [H1.out]; exact hs1)))
    clear h3a h3b
    go_wp2_with fail
    refine (number_ds D3).mono ?_
    rintro e w4 ⟨rfl, h4a, h4b⟩
    have HB : Hid (Below w.heap.size w w4) := by
      by_cases hz : (getR 9 0 0 (p.drop 1)).2.2 = 0
      · exact (h4a hz).bel
      · exact (h4b hz).bel
    clear h4a h4b D3
    generalize getR 9 0 0 (p.drop 1) = gz
    go_wp2
    go_ret2
    exact ⟨HB.out, .inl ⟨_, rfl, HN.out⟩⟩
end Go.Proofs.Ytipcdioolafkpaa.readrecord

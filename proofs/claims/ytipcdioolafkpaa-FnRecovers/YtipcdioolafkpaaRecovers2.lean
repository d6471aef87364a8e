/- The model's Recover: what it answers. -/
import Derived.Test.YtipcdioolafkpaaTakeSp
namespace Go.Proofs.Ytipcdioolafkpaa.recovers2
open Go.ChangeShapes Go.WideShapes Go.ChangeAt Go.RowKit
open Go.Proofs.Ytipcdioolafkpaa.bytes Go.Proofs.Ytipcdioolafkpaa.pile Go.Proofs.Ytipcdioolafkpaa.put Go.Proofs.Ytipcdioolafkpaa.crcs Go.Proofs.Ytipcdioolafkpaa.join Go.Proofs.Ytipcdioolafkpaa.frames Go.Proofs.Ytipcdioolafkpaa.get Go.Proofs.Ytipcdioolafkpaa.dec Go.Proofs.Ytipcdioolafkpaa.take Go.Proofs.Ytipcdioolafkpaa.one Go.Proofs.Ytipcdioolafkpaa.votes Go.Proofs.Ytipcdioolafkpaa.pays Go.Proofs.Ytipcdioolafkpaa.rechelp Go.Proofs.Ytipcdioolafkpaa.recrows Go.Proofs.Ytipcdioolafkpaa.recov Go.Proofs.Ytipcdioolafkpaa.fits Go.Proofs.Ytipcdioolafkpaa.readrec Go.Proofs.Ytipcdioolafkpaa.readrecord Go.Proofs.Ytipcdioolafkpaa.goesalong Go.Proofs.Ytipcdioolafkpaa.recovers Go.Proofs.Ytipcdioolafkpaa.recoveri Go.Proofs.Ytipcdioolafkpaa.specs Go.Proofs.Ytipcdioolafkpaa.recs Go.Proofs.Ytipcdioolafkpaa.spect Go.Proofs.Ytipcdioolafkpaa.logcells Go.Proofs.Ytipcdioolafkpaa.takesp
set_option linter.unusedVariables false

theorem take_len {s s' : St} {p : List Int} (hs : s.log.length ≤ 100) (h : takeS s p = some s') : s'.log.length ≤ 100 := by
  unfold takeS at h
  split at h
  · simp at h
  split at h
  · split at h
    · simp at h
    · unfold fitV at h
      split at h
      · simp at h
      · simp only [Option.some.injEq] at h; subst h; exact hs
  split at h
  · split at h
    · simp at h
    · unfold fitE at h
      split at h
      · simp at h
      · simp only [Option.some.injEq] at h; subst h; simp; omega
  split at h
  · split at h
    · simp at h
    · unfold fitB at h
      split at h
      · simp at h
      · simp only [Option.some.injEq] at h; subst h; simp; omega
  · simp at h
/-- What the model's loop holds. -/
structure LS (w wr : World) (s : St) (lv : Value) (us : List Value) (ao : Option Addr) (cap : Nat) (xs : List Int) (R : St × Nat) (a f : Nat) : Prop where
  an : wr.heap[w.heap.size]? = some (.cells #[.int .i64 0, .int .i64 0, .int .i64 0, .int .i64 0, .slice none 0 0, .int .i64 0] 52 (0, 0))
  st : wr.heap[w.heap.size + 1]? = some (.cells #[.int .i64 s.term, .int .i64 s.vote, .int .i64 s.base, .int .i64 s.bterm, lv, .int .i64 0] 52 (0, 0))
  log : LogR wr lv s.log us
  bel : Below w.heap.size w wr
  rd : RdA w (.slice ao xs.length cap) xs
  bs : baseIn s
  ll : s.log.length ≤ 100
  eq : recL xs (f + 1) s a = R
  fu : xs.length - a < f + 1
  fa : ∀ b, b < w.heap.size + 2 → Far lv us b
theorem LS.below {w wr w' : World} {s : St} {lv : Value} {us : List Value} {ao : Option Addr} {cap : Nat} {xs : List Int} {R : St × Nat} {a f : Nat} (h : LS w wr s lv us ao cap xs R a f) (hb : Below wr.heap.size wr w') : LS w w' s lv us ao cap xs R a f :=
  ⟨(hb.block _ (Array.getElem?_eq_some_iff.1 h.an).1).trans h.an, (hb.block _ (Array.getElem?_eq_some_iff.1 h.st).1).trans h.st, h.log.below hb (Nat.le_refl _), h.bel.trans (hb.mono h.bel.size), h.rd, h.bs, h.ll, h.eq, h.fu, h.fa⟩
/-- What l03Recover answers. -/
def SpE (w : World) (R : St × Nat) (e : Ending) (w' : World) : Prop := ∃ o n c us, e = .returned (walV R.1 (.slice o n c) R.2) ∧ LogR w' (.slice o n c) R.1.log us ∧ Below w.heap.size w w' ∧ ∀ b, b < w.heap.size → Far (.slice o n c) us b
theorem recL_end {xs : List Int} {f : Nat} {s : St} {a : Nat} (h : xs.length ≤ a) : recL xs (f + 1) s a = (s, a) := recL_none (by rw [List.drop_eq_nil_of_le h, frameAt_nil]; decide)
/-- The end of the loop: the place is put into the state, the state into the answer. -/
theorem LS.done {w wr W6 : World} {s : St} {lv x : Value} {us : List Value} {ao : Option Addr} {cap : Nat} {xs : List Int} {R : St × Nat} {a f : Nat} (h : LS w wr s lv us ao cap xs R a f) (hg : (wr.setCell ⟨w.heap.size + 1, 5, none⟩ x).grownBy W6 (some w.heap.size)) : LogR W6 lv s.log us ∧ Below w.heap.size w W6 ∧ ∀ b, b < w.heap.size → Far lv us b := by
  have g1 := fits.set_grown wr (w.heap.size + 1) 5 x
  refine ⟨(h.log.grown g1 (h.fa _ (by omega))).grown hg (h.fa _ (by omega)), ?_, fun b hb => h.fa b (by omega)⟩
  exact (h.bel.grown g1 h.bel.size (fun k hk => by simp only [Option.some.injEq] at hk; omega)).grown hg (by have := h.bel.size; have := g1.size; omega) (fun k hk => by simp only [Option.some.injEq] at hk; omega)
theorem LS.an' {w wr : World} {s : St} {lv x : Value} {us : List Value} {ao : Option Addr} {cap : Nat} {xs : List Int} {R : St × Nat} {a f : Nat} (h : LS w wr s lv us ao cap xs R a f) : (wr.setCell ⟨w.heap.size + 1, 5, none⟩ x).heap[w.heap.size]? = some (.cells #[.int .i64 0, .int .i64 0, .int .i64 0, .int .i64 0, .slice none 0 0, .int .i64 0] 52 (0, 0)) :=
  (heap_setCell_other wr ⟨w.heap.size + 1, 5, none⟩ _ x (fun e => by simp at e)).trans h.an
/-- The state is exchanged for another one. -/
theorem LS.next {w wr : World} {s s' : St} {lv lv' : Value} {us us' : List Value} {ao : Option Addr} {cap : Nat} {xs : List Int} {R : St × Nat} {a a' f f' : Nat} (h : LS w wr s lv us ao cap xs R a f) (hl : LogR wr lv' s'.log us') (hf : ∀ b, b < w.heap.size + 2 → Far lv' us' b) (hb : baseIn s') (hll : s'.log.length ≤ 100) (he : recL xs (f' + 1) s' a' = R) (hfu : xs.length - a' < f' + 1) :
    LS w ((((((wr.setCell ⟨w.heap.size + 1, 0, none⟩ (.int .i64 s'.term)).setCell ⟨w.heap.size + 1, 1, none⟩ (.int .i64 s'.vote)).setCell ⟨w.heap.size + 1, 2, none⟩ (.int .i64 s'.base)).setCell ⟨w.heap.size + 1, 3, none⟩ (.int .i64 s'.bterm)).setCell ⟨w.heap.size + 1, 4, none⟩ lv').setCell ⟨w.heap.size + 1, 5, none⟩ (.int .i64 0)) s' lv' us' ao cap xs R a' f' := by
  have h6 := six_sets h.st (.int .i64 s'.term) (.int .i64 s'.vote) (.int .i64 s'.base) (.int .i64 s'.bterm) lv' (.int .i64 0)
  exact ⟨(h6.2.block _ (Array.getElem?_eq_some_iff.1 h.an).1 (by simp)).trans h.an, h6.1, hl.grown h6.2 (hf _ (by omega)), h.bel.grown h6.2 h.bel.size (fun k hk => by simp only [Option.some.injEq] at hk; omega), h.rd, hb, hll, he, hfu, hf⟩
theorem logR_other {w w' : World} {B b : Nat} {lv : Value} {rl : List Rec3} {us : List Value} (h : LogR w lv rl us) (hb : Below B w w') (hB : w.heap.size ≤ B) : LogR w' lv rl us := h.below hb hB

set_option maxRecDepth 20000 in
set_option maxHeartbeats 8000000 in
theorem recover_spec (w : World) (ao : Option Addr) (cap : Nat) (xs : List Int) (h : RdA w (.slice ao xs.length cap) xs) (hl : xs.length ≤ 65536) :
    Calls Try.prog 54 #[.slice ao xs.length cap] w (SpE w (recL xs (xs.length + 1) zSt 0)) := by
  obtain ⟨R, hR⟩ : ∃ R, recL xs (xs.length + 1) zSt 0 = R := ⟨_, rfl⟩
  rw [hR]
  obtain ⟨_, hc1, hc2⟩ := le_cap h.1
  unfold maxLen at hc2
  obtain ⟨w0, hw0⟩ : ∃ w0, w0 = (w.alloc (.cells #[.int .i64 0, .int .i64 0, .int .i64 0, .int .i64 0, .slice none 0 0, .int .i64 0] 52)).alloc (.cells #[.int .i64 0, .int .i64 0, .int .i64 0, .int .i64 0, .slice none 0 0, .int .i64 0] 52) := ⟨_, rfl⟩
  have HL : Hid (LS w w0 zSt (.slice none 0 0) [] ao cap xs R 0 xs.length) := by
    rw [hw0]
    refine ⟨by rw [Below.heap_alloc _ _ _ (by simp)]; exact heap_alloc_new w _, heap_alloc2_new w _ _, ⟨(OwnRecs.none _ 0 _).rd, fun n c e => by simp only [Value.slice.injEq, true_and] at e; omega⟩, ((Below.refl _ _).alloc (Nat.le_refl _) _).alloc (by simp) _, h, ⟨by decide, by decide⟩, by simp [zSt], hR, by omega, fun b _ => ⟨by simp [Value.ownBlock], by simp⟩⟩
  clear h hR
  go_enter Try.func54, Try.ntmps54
  go_wp2
  rw [← hw0]
  clear hw0
  go_loopw [4] (fun i wr => ∃ (a f : Nat) (s : St) (lo : Option Addr) (ln lc : Nat) (us : List Value), a ≤ xs.length ∧ i = .int .i64 a ∧ Hid (LS w wr s (.slice lo ln lc) us ao cap xs R a f)) (fun i _ => xs.length - (intOf i).toNat)
  case atStart => exact ⟨0, xs.length, zSt, none, 0, 0, [], Nat.zero_le _, rfl, HL⟩
  case round =>
    obtain ⟨a, f, s, lo, ln, lc, us, hle, rfl, HR⟩ := hrel
    clear HL
    by_cases ha : a < xs.length
    · have hai : (a : Int) < xs.length := by omega
      have HNx := hide (next_any wr ao cap a xs (HR.out.rd.below HR.out.bel (Nat.le_refl _)) hle hl)
      by_cases hw : (frameAt (xs.drop a)).1 = -1
      · have HW : Hid ((frameAt (xs.drop a)).1 = -1) := hw
        obtain ⟨hm1, hm2, hm3⟩ := frameAt_more _ hw
        rw [List.length_drop] at hm2
        have HN2 : Hid (Calls Try.prog 77 #[.slice ao xs.length cap, .int .i64 a] wr fun e w' => ∃ v, e = .returned (.tuple #[v, .int .i64 (a + (frameAt (xs.drop a)).2.2 : Nat), .int .i64 0]) ∧ Own w' wr.heap.size v (frameAt (xs.drop a)).2.1 ∧ Below wr.heap.size wr w') := by
          refine HNx.out.mono ?_
          rintro e w' ⟨v, hv⟩
          rw [if_pos hw] at hv
          exact ⟨v, hv⟩
        have HT : Hid ((takeS s (frameAt (xs.drop a)).2.1 = none → (s, a) = R) ∧ ∀ s', takeS s (frameAt (xs.drop a)).2.1 = some s' → recL xs f s' (a + (frameAt (xs.drop a)).2.2) = R) := ⟨fun ht => by rw [← HR.out.eq, recL_stop HW.out ht], fun s' ht => by rw [← HR.out.eq, recL_some HW.out ht]⟩
        clear HW hw HNx
        generalize (frameAt (xs.drop a)).2.2 = sz at HN2 HT hm1 hm2
        generalize (frameAt (xs.drop a)).2.1 = Pl at HN2 HT hm3
        go_wp2_with fail
        refine HN2.out.mono ?_
        rintro e w6 ⟨v6, rfl, O6, b6⟩
        have H6 := hide (HR.out.below b6)
        obtain ⟨o6, c6, e6, _⟩ := O6.rd
        subst e6
        have HTk := hide (takesp.take_any w6 s (.slice lo ln lc) us 0 H6.out.log H6.out.bs H6.out.ll o6 c6 Pl (Own.rdA O6) (by omega))
        unfold walV at HTk
        have c0 : w6.cell? ⟨w.heap.size + 1, 0, none⟩ = some (.int .i64 s.term) := cell_of H6.out.st rfl
        have c1 : w6.cell? ⟨w.heap.size + 1, 1, none⟩ = some (.int .i64 s.vote) := cell_of H6.out.st rfl
        have c2 : w6.cell? ⟨w.heap.size + 1, 2, none⟩ = some (.int .i64 s.base) := cell_of H6.out.st rfl
        have c3 : w6.cell? ⟨w.heap.size + 1, 3, none⟩ = some (.int .i64 s.bterm) := cell_of H6.out.st rfl
        have c4 : w6.cell? ⟨w.heap.size + 1, 4, none⟩ = some (.slice lo ln lc) := cell_of H6.out.st rfl
        have c5 : w6.cell? ⟨w.heap.size + 1, 5, none⟩ = some (.int .i64 0) := cell_of H6.out.st rfl
        clear b6 O6 HN2
        go_wp2_with fail
        refine HTk.out.mono ?_
        rintro e w7 ⟨b7, h7⟩
        have H7 := hide (H6.out.below b7)
        have H8 : Hid (∀ o, LS w (w7.alloc o) s (.slice lo ln lc) us ao cap xs R a f) := fun o => H7.out.below ((Below.refl _ _).alloc (Nat.le_refl _) o)
        have hsz6 := (Array.getElem?_eq_some_iff.1 H6.out.st).1
        have q0 : ∀ o, (w7.alloc o).cell? ⟨w.heap.size + 1, 0, none⟩ = some (.int .i64 s.term) := fun o => cell_of (H8.out o).st rfl
        have q1 : ∀ o, (w7.alloc o).cell? ⟨w.heap.size + 1, 1, none⟩ = some (.int .i64 s.vote) := fun o => cell_of (H8.out o).st rfl
        have q2 : ∀ o, (w7.alloc o).cell? ⟨w.heap.size + 1, 2, none⟩ = some (.int .i64 s.base) := fun o => cell_of (H8.out o).st rfl
        have q3 : ∀ o, (w7.alloc o).cell? ⟨w.heap.size + 1, 3, none⟩ = some (.int .i64 s.bterm) := fun o => cell_of (H8.out o).st rfl
        have q4 : ∀ o, (w7.alloc o).cell? ⟨w.heap.size + 1, 4, none⟩ = some (.slice lo ln lc) := fun o => cell_of (H8.out o).st rfl
        have q5 : ∀ o, (w7.alloc o).cell? ⟨w.heap.size + 1, 5, none⟩ = some (.int .i64 0) := fun o => cell_of (H8.out o).st rfl
        have z0 : ∀ o, (w7.alloc o).cell? ⟨w.heap.size, 0, none⟩ = some (.int .i64 0) := fun o => cell_of (H8.out o).an rfl
        have z1 : ∀ o, (w7.alloc o).cell? ⟨w.heap.size, 1, none⟩ = some (.int .i64 0) := fun o => cell_of (H8.out o).an rfl
        have z2 : ∀ o, (w7.alloc o).cell? ⟨w.heap.size, 2, none⟩ = some (.int .i64 0) := fun o => cell_of (H8.out o).an rfl
        have z3 : ∀ o, (w7.alloc o).cell? ⟨w.heap.size, 3, none⟩ = some (.int .i64 0) := fun o => cell_of (H8.out o).an rfl
        have z4 : ∀ o, (w7.alloc o).cell? ⟨w.heap.size, 4, none⟩ = some (.slice none 0 0) := fun o => cell_of (H8.out o).an rfl
        have z5 : ∀ o, (w7.alloc o).cell? ⟨w.heap.size, 5, none⟩ = some (.int .i64 0) := fun o => cell_of (H8.out o).an rfl
        have qf : ∀ o i, (w7.alloc o).frozen? ⟨w.heap.size + 1, i, none⟩ = false := fun o i => frozen_of (H8.out o).st i
        have zf : ∀ o i, (w7.alloc o).frozen? ⟨w.heap.size, i, none⟩ = false := fun o i => frozen_of (H8.out o).an i
        clear b7 HTk
        rcases h7 with ⟨hn, rfl⟩ | ⟨s', o9, n9, c9, us9, hs', rfl, L9, F9⟩
        · have HE : Hid ((s, a) = R) := HT.out.1 hn
          unfold walV
          go_wp2
          have HS6 := hide (six_sets (LS.an' (x := .int .i64 (a : Nat)) (H8.out (.cells #[.int .i64 s.term, .int .i64 s.vote, .int .i64 s.base, .int .i64 s.bterm, .slice lo ln lc, .int .i64 0] 52))) (.int .i64 s.term) (.int .i64 s.vote) (.int .i64 s.base) (.int .i64 s.bterm) (.slice lo ln lc) (.int .i64 (a : Nat)))
          generalize ((((((((w7.alloc (.cells #[.int .i64 s.term, .int .i64 s.vote, .int .i64 s.base, .int .i64 s.bterm, .slice lo ln lc, .int .i64 0] 52)).setCell ⟨w.heap.size + 1, 5, none⟩ (.int .i64 (a : Nat))).setCell ⟨w.heap.size, 0, none⟩ (.int .i64 s.term)).setCell ⟨w.heap.size, 1, none⟩ (.int .i64 s.vote)).setCell ⟨w.heap.size, 2, none⟩ (.int .i64 s.base)).setCell ⟨w.heap.size, 3, none⟩ (.int .i64 s.bterm)).setCell ⟨w.heap.size, 4, none⟩ (.slice lo ln lc)).setCell ⟨w.heap.size, 5, none⟩ (.int .i64 (a : Nat))) = W6 at HS6 ⊢
          have g0 : W6.cell? ⟨w.heap.size, 0, none⟩ = some (.int .i64 s.term) := cell_of HS6.out.1 rfl
          have g1 : W6.cell? ⟨w.heap.size, 1, none⟩ = some (.int .i64 s.vote) := cell_of HS6.out.1 rfl
          have g2 : W6.cell? ⟨w.heap.size, 2, none⟩ = some (.int .i64 s.base) := cell_of HS6.out.1 rfl
          have g3 : W6.cell? ⟨w.heap.size, 3, none⟩ = some (.int .i64 s.bterm) := cell_of HS6.out.1 rfl
          have g4 : W6.cell? ⟨w.heap.size, 4, none⟩ = some (.slice lo ln lc) := cell_of HS6.out.1 rfl
          have g5 : W6.cell? ⟨w.heap.size, 5, none⟩ = some (.int .i64 (a : Nat)) := cell_of HS6.out.1 rfl
          exact bodyPost_ret (v := .agg #[.int .i64 s.term, .int .i64 s.vote, .int .i64 s.base, .int .i64 s.bterm, .slice lo ln lc, .int .i64 (a : Nat)]) (by simp [results, Try.results54, go_sem, g0, g1, g2, g3, g4, g5]) rfl (by obtain rfl := HE.out; exact ⟨lo, ln, lc, us, rfl, LS.done (H8.out (.cells #[.int .i64 s.term, .int .i64 s.vote, .int .i64 s.base, .int .i64 s.bterm, .slice lo ln lc, .int .i64 0] 52)) HS6.out.2⟩)
        · have HE : Hid (recL xs f s' (a + sz) = R ∧ baseIn s' ∧ s'.log.length ≤ 100) := ⟨HT.out.2 s' hs', take_base H6.out.bs hs', take_len H6.out.ll hs'⟩
          have HF : Hid (∀ b, b < w.heap.size + 2 → Far (.slice o9 n9 c9) us9 b) := fun b hb => F9 _ (by omega) (H6.out.fa b hb)
          have HL9 : Hid (∀ o, LogR (w7.alloc o) (.slice o9 n9 c9) s'.log us9) := fun o => L9.below ((Below.refl _ _).alloc (Nat.le_refl _) o) (Nat.le_refl _)
          unfold walV
          clear F9 L9 hs' HT
          go_wp2
          go_roundw
          case rel =>
            have hff : f ≠ 0 := by have := HR.out.fu; omega
            obtain ⟨f', rfl⟩ := Nat.exists_eq_succ_of_ne_zero hff
            exact ⟨a + sz, f', s', o9, n9, c9, us9, by omega, rfl, hide ((H8.out _).next (HL9.out _) HF.out HE.out.2.1 HE.out.2.2 HE.out.1 (by have := HR.out.fu; omega))⟩
          case measure => simp [intOf]; omega
      · have HE : Hid ((s, a) = R) := by rw [← HR.out.eq, recL_none hw]; exact hide rfl
        have HC := frameAt_code _ hw
        have HN2 : Hid (Calls Try.prog 77 #[.slice ao xs.length cap, .int .i64 a] wr fun e w' => ∃ v, e = .returned (.tuple #[v, .int .i64 0, .int .i64 (nextC (frameAt (xs.drop a)).1)]) ∧ Own w' wr.heap.size v [] ∧ Below wr.heap.size wr w') := by
          refine HNx.out.mono ?_
          rintro e w' ⟨v, hv⟩
          rw [if_neg hw] at hv
          exact ⟨v, hv⟩
        have hcn : nextC (frameAt (xs.drop a)).1 ≠ 0 := by unfold nextC; split <;> omega
        clear HNx hw HC
        generalize nextC (frameAt (xs.drop a)).1 = cc at HN2 hcn
        have hcb : (cc != 0) = true := by simp only [bne_iff_ne]; exact hcn
        go_wp2_with fail
        refine HN2.out.mono ?_
        rintro e w6 ⟨v6, rfl, O6, b6⟩
        have H6 := hide (HR.out.below b6)
        have c0 : w6.cell? ⟨w.heap.size + 1, 0, none⟩ = some (.int .i64 s.term) := cell_of H6.out.st rfl
        have c1 : w6.cell? ⟨w.heap.size + 1, 1, none⟩ = some (.int .i64 s.vote) := cell_of H6.out.st rfl
        have c2 : w6.cell? ⟨w.heap.size + 1, 2, none⟩ = some (.int .i64 s.base) := cell_of H6.out.st rfl
        have c3 : w6.cell? ⟨w.heap.size + 1, 3, none⟩ = some (.int .i64 s.bterm) := cell_of H6.out.st rfl
        have c4 : w6.cell? ⟨w.heap.size + 1, 4, none⟩ = some (.slice lo ln lc) := cell_of H6.out.st rfl
        have c5 : w6.cell? ⟨w.heap.size + 1, 5, none⟩ = some (.int .i64 0) := cell_of H6.out.st rfl
        have z0 : w6.cell? ⟨w.heap.size, 0, none⟩ = some (.int .i64 0) := cell_of H6.out.an rfl
        have z1 : w6.cell? ⟨w.heap.size, 1, none⟩ = some (.int .i64 0) := cell_of H6.out.an rfl
        have z2 : w6.cell? ⟨w.heap.size, 2, none⟩ = some (.int .i64 0) := cell_of H6.out.an rfl
        have z3 : w6.cell? ⟨w.heap.size, 3, none⟩ = some (.int .i64 0) := cell_of H6.out.an rfl
        have z4 : w6.cell? ⟨w.heap.size, 4, none⟩ = some (.slice none 0 0) := cell_of H6.out.an rfl
        have z5 : w6.cell? ⟨w.heap.size, 5, none⟩ = some (.int .i64 0) := cell_of H6.out.an rfl
        have cf := frozen_of H6.out.st
        have zf := frozen_of H6.out.an
        clear b6 O6 HN2
        go_wp2
        have HS6 := hide (six_sets (LS.an' (x := .int .i64 (a : Nat)) H6.out) (.int .i64 s.term) (.int .i64 s.vote) (.int .i64 s.base) (.int .i64 s.bterm) (.slice lo ln lc) (.int .i64 (a : Nat)))
        generalize (((((((w6.setCell ⟨w.heap.size + 1, 5, none⟩ (.int .i64 (a : Nat))).setCell ⟨w.heap.size, 0, none⟩ (.int .i64 s.term)).setCell ⟨w.heap.size, 1, none⟩ (.int .i64 s.vote)).setCell ⟨w.heap.size, 2, none⟩ (.int .i64 s.base)).setCell ⟨w.heap.size, 3, none⟩ (.int .i64 s.bterm)).setCell ⟨w.heap.size, 4, none⟩ (.slice lo ln lc)).setCell ⟨w.heap.size, 5, none⟩ (.int .i64 (a : Nat))) = W6 at HS6 ⊢
        have g0 : W6.cell? ⟨w.heap.size, 0, none⟩ = some (.int .i64 s.term) := cell_of HS6.out.1 rfl
        have g1 : W6.cell? ⟨w.heap.size, 1, none⟩ = some (.int .i64 s.vote) := cell_of HS6.out.1 rfl
        have g2 : W6.cell? ⟨w.heap.size, 2, none⟩ = some (.int .i64 s.base) := cell_of HS6.out.1 rfl
        have g3 : W6.cell? ⟨w.heap.size, 3, none⟩ = some (.int .i64 s.bterm) := cell_of HS6.out.1 rfl
        have g4 : W6.cell? ⟨w.heap.size, 4, none⟩ = some (.slice lo ln lc) := cell_of HS6.out.1 rfl
        have g5 : W6.cell? ⟨w.heap.size, 5, none⟩ = some (.int .i64 (a : Nat)) := cell_of HS6.out.1 rfl
        exact bodyPost_ret (v := .agg #[.int .i64 s.term, .int .i64 s.vote, .int .i64 s.base, .int .i64 s.bterm, .slice lo ln lc, .int .i64 (a : Nat)]) (by simp [results, Try.results54, go_sem, g0, g1, g2, g3, g4, g5]) rfl (by obtain rfl := HE.out; exact ⟨lo, ln, lc, us, rfl, LS.done H6.out HS6.out.2⟩)
    · have HE : Hid ((s, a) = R) := by rw [← HR.out.eq, recL_end (by omega)]; exact hide rfl
      have hai : ¬ (a : Int) < xs.length := by omega
      have c0 : wr.cell? ⟨w.heap.size + 1, 0, none⟩ = some (.int .i64 s.term) := cell_of HR.out.st rfl
      have c1 : wr.cell? ⟨w.heap.size + 1, 1, none⟩ = some (.int .i64 s.vote) := cell_of HR.out.st rfl
      have c2 : wr.cell? ⟨w.heap.size + 1, 2, none⟩ = some (.int .i64 s.base) := cell_of HR.out.st rfl
      have c3 : wr.cell? ⟨w.heap.size + 1, 3, none⟩ = some (.int .i64 s.bterm) := cell_of HR.out.st rfl
      have c4 : wr.cell? ⟨w.heap.size + 1, 4, none⟩ = some (.slice lo ln lc) := cell_of HR.out.st rfl
      have c5 : wr.cell? ⟨w.heap.size + 1, 5, none⟩ = some (.int .i64 0) := cell_of HR.out.st rfl
      have z0 : wr.cell? ⟨w.heap.size, 0, none⟩ = some (.int .i64 0) := cell_of HR.out.an rfl
      have z1 : wr.cell? ⟨w.heap.size, 1, none⟩ = some (.int .i64 0) := cell_of HR.out.an rfl
      have z2 : wr.cell? ⟨w.heap.size, 2, none⟩ = some (.int .i64 0) := cell_of HR.out.an rfl
      have z3 : wr.cell? ⟨w.heap.size, 3, none⟩ = some (.int .i64 0) := cell_of HR.out.an rfl
      have z4 : wr.cell? ⟨w.heap.size, 4, none⟩ = some (.slice none 0 0) := cell_of HR.out.an rfl
      have z5 : wr.cell? ⟨w.heap.size, 5, none⟩ = some (.int .i64 0) := cell_of HR.out.an rfl
      have cf := frozen_of HR.out.st
      have zf := frozen_of HR.out.an
      go_wp2
      have HS6 := hide (six_sets (LS.an' (x := .int .i64 (a : Nat)) HR.out) (.int .i64 s.term) (.int .i64 s.vote) (.int .i64 s.base) (.int .i64 s.bterm) (.slice lo ln lc) (.int .i64 (a : Nat)))
      generalize (((((((wr.setCell ⟨w.heap.size + 1, 5, none⟩ (.int .i64 (a : Nat))).setCell ⟨w.heap.size, 0, none⟩ (.int .i64 s.term)).setCell ⟨w.heap.size, 1, none⟩ (.int .i64 s.vote)).setCell ⟨w.heap.size, 2, none⟩ (.int .i64 s.base)).setCell ⟨w.heap.size, 3, none⟩ (.int .i64 s.bterm)).setCell ⟨w.heap.size, 4, none⟩ (.slice lo ln lc)).setCell ⟨w.heap.size, 5, none⟩ (.int .i64 (a : Nat))) = W6 at HS6 ⊢
      have g0 : W6.cell? ⟨w.heap.size, 0, none⟩ = some (.int .i64 s.term) := cell_of HS6.out.1 rfl
      have g1 : W6.cell? ⟨w.heap.size, 1, none⟩ = some (.int .i64 s.vote) := cell_of HS6.out.1 rfl
      have g2 : W6.cell? ⟨w.heap.size, 2, none⟩ = some (.int .i64 s.base) := cell_of HS6.out.1 rfl
      have g3 : W6.cell? ⟨w.heap.size, 3, none⟩ = some (.int .i64 s.bterm) := cell_of HS6.out.1 rfl
      have g4 : W6.cell? ⟨w.heap.size, 4, none⟩ = some (.slice lo ln lc) := cell_of HS6.out.1 rfl
      have g5 : W6.cell? ⟨w.heap.size, 5, none⟩ = some (.int .i64 (a : Nat)) := cell_of HS6.out.1 rfl
      exact bodyPost_ret (v := .agg #[.int .i64 s.term, .int .i64 s.vote, .int .i64 s.base, .int .i64 s.bterm, .slice lo ln lc, .int .i64 (a : Nat)]) (by simp [results, Try.results54, go_sem, g0, g1, g2, g3, g4, g5]) rfl (by obtain rfl := HE.out; exact ⟨lo, ln, lc, us, rfl, LS.done HR.out HS6.out.2⟩)
end Go.Proofs.Ytipcdioolafkpaa.recovers2

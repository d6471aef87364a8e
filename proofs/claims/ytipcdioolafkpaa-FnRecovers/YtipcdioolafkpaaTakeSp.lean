/- The model takes a record into a state. -/
import Derived.Test.YtipcdioolafkpaaRecoverI
import Derived.Test.YtipcdioolafkpaaSpecT
import Derived.Test.YtipcdioolafkpaaLogCells
namespace Go.Proofs.Ytipcdioolafkpaa.takesp
open Go.ChangeShapes Go.WideShapes Go.ChangeAt Go.RowKit
open Go.Proofs.Ytipcdioolafkpaa.bytes Go.Proofs.Ytipcdioolafkpaa.pile Go.Proofs.Ytipcdioolafkpaa.put Go.Proofs.Ytipcdioolafkpaa.crcs Go.Proofs.Ytipcdioolafkpaa.join Go.Proofs.Ytipcdioolafkpaa.frames Go.Proofs.Ytipcdioolafkpaa.get Go.Proofs.Ytipcdioolafkpaa.dec Go.Proofs.Ytipcdioolafkpaa.take Go.Proofs.Ytipcdioolafkpaa.one Go.Proofs.Ytipcdioolafkpaa.votes Go.Proofs.Ytipcdioolafkpaa.pays Go.Proofs.Ytipcdioolafkpaa.rechelp Go.Proofs.Ytipcdioolafkpaa.recrows Go.Proofs.Ytipcdioolafkpaa.recov Go.Proofs.Ytipcdioolafkpaa.fits Go.Proofs.Ytipcdioolafkpaa.readrec Go.Proofs.Ytipcdioolafkpaa.readrecord Go.Proofs.Ytipcdioolafkpaa.goesalong Go.Proofs.Ytipcdioolafkpaa.recoveri Go.Proofs.Ytipcdioolafkpaa.specs Go.Proofs.Ytipcdioolafkpaa.recs Go.Proofs.Ytipcdioolafkpaa.spect Go.Proofs.Ytipcdioolafkpaa.logcells
set_option linter.unusedVariables false

/-- What l03Take answers. -/
def TakeE (w : World) (s : St) (lv : Value) (us : List Value) (good : Int) (p : List Int) (e : Ending) (w' : World) : Prop := Below w.heap.size w w' ∧
  ((takeS s p = none ∧ e = .returned (.tuple #[walV s lv good, .bool false])) ∨ ∃ s' o n c us', takeS s p = some s' ∧ e = .returned (.tuple #[walV s' (.slice o n c) good, .bool true]) ∧ LogR w' (.slice o n c) s'.log us' ∧ ∀ b, b < w.heap.size → Far lv us b → Far (.slice o n c) us' b)
/-- The blocks of l03Take: its state, its answer. -/
structure TB (w W : World) (s : St) (lv : Value) (good : Int) : Prop where
  st : W.heap[w.heap.size]? = some (.cells #[.int .i64 s.term, .int .i64 s.vote, .int .i64 s.base, .int .i64 s.bterm, lv, .int .i64 good] 52 (0, 0))
  an : W.heap[w.heap.size + 1]? = some (.cells #[.int .i64 0, .int .i64 0, .int .i64 0, .int .i64 0, .slice none 0 0, .int .i64 0] 52 (0, 0))
  bel : Below w.heap.size w W
theorem TB.below {w W W' : World} {s : St} {lv : Value} {good : Int} (h : TB w W s lv good) (hb : Below W.heap.size W W') : TB w W' s lv good :=
  ⟨(hb.block _ (Array.getElem?_eq_some_iff.1 h.st).1).trans h.st, (hb.block _ (Array.getElem?_eq_some_iff.1 h.an).1).trans h.an, h.bel.trans (hb.mono h.bel.size)⟩
theorem TB.alloc {w : World} (s : St) (lv : Value) (good : Int) : TB w ((w.alloc (.cells #[.int .i64 s.term, .int .i64 s.vote, .int .i64 s.base, .int .i64 s.bterm, lv, .int .i64 good] 52)).alloc (.cells #[.int .i64 0, .int .i64 0, .int .i64 0, .int .i64 0, .slice none 0 0, .int .i64 0] 52)) s lv good :=
  ⟨by rw [Below.heap_alloc _ _ _ (by simp)]; exact heap_alloc_new w _, by have := heap_alloc_new (w.alloc (.cells #[.int .i64 s.term, .int .i64 s.vote, .int .i64 s.base, .int .i64 s.bterm, lv, .int .i64 good] 52)) (.cells #[.int .i64 0, .int .i64 0, .int .i64 0, .int .i64 0, .slice none 0 0, .int .i64 0] 52); simpa using this, ((Below.refl _ _).alloc (Nat.le_refl _) _).alloc (by simp) _⟩

theorem TB.done {w W W' : World} {s : St} {lv : Value} {good : Int} (h : TB w W s lv good) (hg : W.grownBy W' (some (w.heap.size + 1))) : Below w.heap.size w W' := h.bel.grown hg (by have := h.bel.size; omega) (fun k hk => by simp only [Option.some.injEq] at hk; omega)

theorem TB.set {w W : World} {s s' : St} {lv lv' : Value} {good : Int} (h : TB w W s lv good) (i : Nat) (x : Value) (hc : (#[.int .i64 s.term, .int .i64 s.vote, .int .i64 s.base, .int .i64 s.bterm, lv, .int .i64 good] : Array Value).setIfInBounds i x = #[.int .i64 s'.term, .int .i64 s'.vote, .int .i64 s'.base, .int .i64 s'.bterm, lv', .int .i64 good]) : TB w (W.setCell ⟨w.heap.size, i, none⟩ x) s' lv' good :=
  ⟨set_at h.st i x hc, (heap_setCell_other W ⟨w.heap.size, i, none⟩ _ x (fun e => by simp at e)).trans h.an, h.bel.setCell (Nat.le_refl _) x⟩
theorem TB.grown {w W W' : World} {s : St} {lv : Value} {good : Int} {row : Option Nat} (h : TB w W s lv good) (hg : W.grownBy W' row) (hr : ∀ k, row = some k → w.heap.size + 2 ≤ k) : TB w W' s lv good :=
  ⟨(hg.block _ (Array.getElem?_eq_some_iff.1 h.st).1 (fun e => by have := hr _ e.symm; omega)).trans h.st, (hg.block _ (Array.getElem?_eq_some_iff.1 h.an).1 (fun e => by have := hr _ e.symm; omega)).trans h.an, h.bel.grown hg h.bel.size (fun k hk => by have := hr k hk; omega)⟩
theorem TB.size {w W : World} {s : St} {lv : Value} {good : Int} (h : TB w W s lv good) : w.heap.size + 2 ≤ W.heap.size := (Array.getElem?_eq_some_iff.1 h.an).1
theorem add_zero' (ad : Addr) : ad.add 0 = ad := by
  unfold Addr.add
  cases ad
  simp
theorem row_form {w : World} {base : Nat} {v : Value} {n : Nat} {xs : List Value} (h : w.ownsRow base 92 3 v n xs) : ∃ o c, v = .slice o n c := by
  rcases h.2 with ⟨rfl, rfl⟩ | ⟨g, cap, cur, rfl, _⟩
  · exact ⟨_, _, rfl⟩
  · exact ⟨_, _, rfl⟩
theorem row_kept {w w' : World} {base b : Nat} {v : Value} {n : Nat} {xs : List Value} (h : w.ownsRow base 92 3 v n xs) (hg : w.grownBy w' (some b)) (hb : b < base) : w'.ownsRow base 92 3 v n xs :=
  World.ownsRow.kept h hg (by
    cases hv : v.ownBlock with
    | none => exact .inl rfl
    | some k => exact .inr fun e => by simp only [Option.some.injEq] at e; have := (World.ownsRow.lt h k hv).1; omega)
theorem Says.drop {cs : List Value} {rl : List Rec3} {us : List Value} {i n : Nat} (h : Says cs rl us i n) : Says cs (rl.drop i) (us.drop i) 0 n := fun q hq => by
  rw [Nat.zero_add, fits.getD_drop, fits.getD_drop]
  exact h q hq
theorem row_zero {w : World} {base : Nat} {v : Value} {n : Nat} {xs : List Value} (h : w.ownsRow base 92 3 v (0 + n) ([] ++ xs)) : w.ownsRow base 92 3 v n xs := by rw [Nat.zero_add] at h; exact h
theorem grown_new {w w' : World} {o : Obj} {n c : Nat} (h : (w.alloc o).grownBy w' (Value.slice (some ⟨w.heap.size, 0, none⟩) n c).ownBlock) : Below w.heap.size w w' :=
  ((Below.refl w.heap.size w).alloc (Nat.le_refl _) _).grown h (by simp) (fun k hk => by simp only [Value.ownBlock, Option.some.injEq] at hk; omega)
theorem bytes_form {w : World} {base : Nat} {v : Value} {xs : List Int} (h : Own w base v ([] ++ xs)) : ∃ o n c, v = .slice o n c ∧ n = xs.length := by
  obtain ⟨o, c, rfl, _⟩ := h.rd
  exact ⟨o, _, c, rfl, rfl⟩
theorem own_nil {w : World} {base : Nat} {v : Value} {xs : List Int} (h : Own w base v ([] ++ xs)) : Own w base v xs := h
theorem row_up {w7 w8 : World} {base : Nat} {v : Value} {n : Nat} {xs : List Value} (h : w7.ownsRow base 92 3 v n xs) (hb : Below w7.heap.size w7 w8) (o : Obj) : (w8.alloc o).ownsRow base 92 3 v n xs :=
  World.ownsRow.alloc (World.ownsRow.kept h (grown_below hb (Nat.le_refl _) none) (by cases hv : v.ownBlock <;> simp)) o
theorem size_up {w5 w7 w8 : World} (h7 : Below w5.heap.size w5 w7) (h8 : Below w7.heap.size w7 w8) (o : Obj) : w5.heap.size ≤ (w8.alloc o).heap.size := by
  have := h7.size
  have := h8.size
  simp
  omega
theorem tb_up {w w5 w7 w8 w9 : World} {s : St} {lv v : Value} {good : Int} {n : Nat} {xs : List Value} {o : Obj} (h : TB w w5 s lv good) (h7 : Below w5.heap.size w5 w7) (h8 : Below w7.heap.size w7 w8) (ho : w7.ownsRow w5.heap.size 92 3 v n xs) (hg : (w8.alloc o).grownBy w9 v.ownBlock) : TB w w9 s lv good := by
  have t8 := ((h.below h7).below h8).grown (World.grownBy_alloc w8 o none) (fun k hk => by simp at hk)
  exact t8.grown hg (fun k hk => by have := (World.ownsRow.lt ho k hk).1; have := h.size; omega)
theorem row_nil3 (w : World) : (w.alloc (.cells #[] 92)).ownsRow w.heap.size 92 3 (.slice (some ⟨w.heap.size, 0, none⟩) 0 0) 0 [] := World.ownsRow_lit w #[] 0 (Nat.le_refl _) (by simp [maxLen]) (by simp)

set_option maxRecDepth 20000 in
set_option maxHeartbeats 8000000 in
theorem take_any (w : World) (s : St) (lv : Value) (us : List Value) (good : Int) (hL : LogR w lv s.log us) (hb : baseIn s) (hl : s.log.length ≤ 100) (ao : Option Addr) (cap : Nat) (p : List Int) (h : RdA w (.slice ao p.length cap) p) (hp : p.length ≤ 65536) :
    Calls Try.prog 78 #[walV s lv good, .slice ao p.length cap] w (TakeE w s lv us good p) := by
  unfold walV
  obtain ⟨lo, lc, hlv, hlc1, hlc2, _⟩ := hL.rd.row
  subst hlv
  unfold maxLen at hlc2
  obtain ⟨_, hc1, hc2⟩ := le_cap h.1
  unfold maxLen at hc2
  have HL := hide hL
  have HP := hide h
  obtain ⟨W0, hW0⟩ : ∃ W0, W0 = (w.alloc (.cells #[.int .i64 s.term, .int .i64 s.vote, .int .i64 s.base, .int .i64 s.bterm, .slice lo s.log.length lc, .int .i64 good] 52)).alloc (.cells #[.int .i64 0, .int .i64 0, .int .i64 0, .int .i64 0, .slice none 0 0, .int .i64 0] 52) := ⟨_, rfl⟩
  have HT : Hid (TB w W0 s (.slice lo s.log.length lc) good) := by rw [hW0]; exact TB.alloc s _ good
  clear hL h
  by_cases hp0 : p.length = 0
  · have HN : Hid (takeS s p = none) := take_nums s (.inl (List.eq_nil_of_length_eq_zero hp0))
    have hpi : ((p.length : Nat) : Int) = 0 := by omega
    have HB : Hid (∀ o1 o2, Below w.heap.size w ((w.alloc o1).alloc o2)) := fun o1 o2 => ((Below.refl _ _).alloc (Nat.le_refl _) _).alloc (by simp) _
    go_enter Try.func78, Try.ntmps78
    go_wp2
    exact bodyPost_ret (v := .tuple #[.agg #[.int .i64 s.term, .int .i64 s.vote, .int .i64 s.base, .int .i64 s.bterm, .slice lo s.log.length lc, .int .i64 good], .bool false]) (by simp [results, Try.results78, go_sem]) rfl ⟨HB.out _ _, .inl ⟨HN.out, rfl⟩⟩
  have HNe : Hid (p ≠ []) := fun e => by rw [e] at hp0; simp at hp0
  obtain ⟨ao', cap', e2, _, _, hbdp, hq4⟩ := HP.out.1
  simp only [Value.slice.injEq, true_and] at e2
  obtain ⟨rfl, rfl⟩ := e2
  obtain ⟨kb, koff, rfl, hkc⟩ := hq4 (by omega)
  have hkind := hkc 0 (by omega)
  rw [Nat.add_zero] at hkind
  have hbd : 0 ≤ p.getD 0 0 ∧ p.getD 0 0 ≤ 255 := by
    cases p with
    | nil => simp
    | cons x r => exact hbdp x (by simp)
  clear hkc hq4 hbdp
  have HB0 : Hid (Below w.heap.size w W0) := HT.out.bel
  have hkW : W0.cell? ⟨kb, koff, none⟩ = some (.int .u8 (p.getD 0 0)) := (HB0.out.cell (cell_lt hkind)).trans hkind
  have hkA : ∀ o1 o2, ((w.alloc o1).alloc o2).cell? ⟨kb, koff, none⟩ = some (.int .u8 (p.getD 0 0)) := fun o1 o2 => (Below.cell (((Below.refl _ _).alloc (Nat.le_refl _) o1).alloc (by simp) o2) (cell_lt hkind)).trans hkind
  have hklt : kb < w.heap.size := cell_lt hkind
  have HKt : Hid (¬ p.getD 0 0 = 1 → ¬ p.getD 0 0 = 2 → ¬ p.getD 0 0 = 3 → takeS s p = none) := fun h1 h2 h3 => take_kind s h1 h2 h3
  have HQ : Hid (RdA W0 (cutV (some ⟨kb, koff, none⟩) cap 1 (p.length - 1)) (p.drop 1)) := by
    have hcc := cut_rd (at_ := 1) (n := p.length - 1) HP.out (by omega)
    rw [List.take_of_length_le (by rw [List.length_drop]; omega)] at hcc
    exact hcc.below HB0.out (Nat.le_refl _)
  have HKg : Hid (p.getD 0 0 = p.getD 0 0) := rfl
  have HTE : Hid ((num1 p).2.2 = 0 → (num2 p).2.2 = 0 → termIn (num1 p).1 ∧ termIn (num2 p).1 → takeS s p =
    if p.getD 0 0 = 1 then (if 0 < (restP p).length then none else fitV s (num1 p).1 (num2 p).1)
    else if p.getD 0 0 = 2 then (if (num2 p).1 < 1 ∨ 1000 < (restP p).length then none else fitE s (num1 p).1 (num2 p).1 (restP p))
    else if p.getD 0 0 = 3 then (if 0 < (restP p).length then none else fitB s (num1 p).1 (num2 p).1)
    else none) := fun h1 h2 h3 => take_else s HNe.out h1 h2 h3
  have hpi : ¬ ((p.length : Nat) : Int) = 0 := by omega
  have hpl : 0 < p.length := by omega
  generalize p.getD 0 0 = K at *
  by_cases hK0 : K < 1
  · have HN := hide (HKt.out (by omega) (by omega) (by omega))
    have HB : Hid (∀ o1 o2, Below w.heap.size w ((w.alloc o1).alloc o2)) := fun o1 o2 => ((Below.refl _ _).alloc (Nat.le_refl _) _).alloc (by simp) _
    clear hkind HKt HTE hkW
    go_enter Try.func78, Try.ntmps78
    go_wp2
    exact bodyPost_ret (v := .tuple #[.agg #[.int .i64 s.term, .int .i64 s.vote, .int .i64 s.base, .int .i64 s.bterm, .slice lo s.log.length lc, .int .i64 good], .bool false]) (by simp [results, Try.results78, go_sem]) rfl ⟨HB.out _ _, .inl ⟨HN.out, rfl⟩⟩
  by_cases hK4 : 3 < K
  · have HN := hide (HKt.out (by omega) (by omega) (by omega))
    have HB : Hid (∀ o1 o2, Below w.heap.size w ((w.alloc o1).alloc o2)) := fun o1 o2 => ((Below.refl _ _).alloc (Nat.le_refl _) _).alloc (by simp) _
    clear hkind HKt HTE hkW
    go_enter Try.func78, Try.ntmps78
    go_wp2
    exact bodyPost_ret (v := .tuple #[.agg #[.int .i64 s.term, .int .i64 s.vote, .int .i64 s.base, .int .i64 s.bterm, .slice lo s.log.length lc, .int .i64 good], .bool false]) (by simp [results, Try.results78, go_sem]) rfl ⟨HB.out _ _, .inl ⟨HN.out, rfl⟩⟩
  clear HKt hkind
  have HNum : Hid (∀ o n c, cutV (some ⟨kb, koff, none⟩) cap 1 (p.length - 1) = .slice o n c → Calls Try.prog 86 #[.slice o n c] W0 (NumE W0 (p.drop 1) (num1 p) (num2 p))) := fun o n c e => by
    have hq := HQ.out
    have hn : n = (p.drop 1).length := by
      unfold cutV at e
      split at e <;> simp only [Value.slice.injEq] at e <;> simp <;> omega
    rw [e, hn] at hq
    rw [hn]
    have hx := numbers_any W0 o c (p.drop 1) hq (by simp; omega)
    have e2 : num2 p = getR 9 0 0 ((p.drop 1).drop (num1 p).2.1) := by unfold num2; rw [List.drop_drop]
    rw [e2]
    exact hx
  have hcap : (1 : Int) ≤ cap := by omega
  have hp1 : (1 : Int) ≤ p.length := by omega
  by_cases hcap1 : cap = 1
  · have hN1 : (num1 p).2.2 ≠ 0 := by
      have : p.drop 1 = [] := List.drop_eq_nil_of_le (by omega)
      unfold num1
      rw [this]
      decide
    have HN : Hid (takeS s p = none) := take_nums s (.inr (.inl hN1))
    have HNz : Hid ((num1 p).2.2 ≠ 0) := hN1
    clear HTE hN1
    generalize num1 p = g1 at *
    generalize num2 p = g2 at *
    go_enter Try.func78, Try.ntmps78
    go_wp2_with fail
    rw [← hW0]
    refine Calls.mono (HNum.out _ _ _ (by unfold cutV; rw [if_pos hcap1])) ?_
    rintro e w5 ⟨b5, h5⟩
    rcases h5 with ⟨a', b', o5, n5, c5, rfl, _⟩ | ⟨o5, n5, c5, _, _, hbad, _⟩
    · have HT5 := hide (HT.out.below b5)
      have w5c0 : w5.cell? ⟨w.heap.size, 0, none⟩ = some (.int .i64 s.term) := cell_of HT5.out.st rfl
      have w5c1 : w5.cell? ⟨w.heap.size, 1, none⟩ = some (.int .i64 s.vote) := cell_of HT5.out.st rfl
      have w5c2 : w5.cell? ⟨w.heap.size, 2, none⟩ = some (.int .i64 s.base) := cell_of HT5.out.st rfl
      have w5c3 : w5.cell? ⟨w.heap.size, 3, none⟩ = some (.int .i64 s.bterm) := cell_of HT5.out.st rfl
      have w5c4 : w5.cell? ⟨w.heap.size, 4, none⟩ = some (.slice lo s.log.length lc) := cell_of HT5.out.st rfl
      have w5c5 : w5.cell? ⟨w.heap.size, 5, none⟩ = some (.int .i64 good) := cell_of HT5.out.st rfl
      have w5f := frozen_of HT5.out.st
      have w5g := frozen_of HT5.out.an
      have w5e0 : w5.cell? ⟨w.heap.size + 1, 0, none⟩ = some (.int .i64 0) := cell_of HT5.out.an rfl
      have w5e1 : w5.cell? ⟨w.heap.size + 1, 1, none⟩ = some (.int .i64 0) := cell_of HT5.out.an rfl
      have w5e2 : w5.cell? ⟨w.heap.size + 1, 2, none⟩ = some (.int .i64 0) := cell_of HT5.out.an rfl
      have w5e3 : w5.cell? ⟨w.heap.size + 1, 3, none⟩ = some (.int .i64 0) := cell_of HT5.out.an rfl
      have w5e4 : w5.cell? ⟨w.heap.size + 1, 4, none⟩ = some (.slice none 0 0) := cell_of HT5.out.an rfl
      have w5e5 : w5.cell? ⟨w.heap.size + 1, 5, none⟩ = some (.int .i64 0) := cell_of HT5.out.an rfl
      clear b5 HNum hkA hkW hW0
      go_wp2
      have HS6 := hide (six_sets HT5.out.an (.int .i64 s.term) (.int .i64 s.vote) (.int .i64 s.base) (.int .i64 s.bterm) (.slice lo s.log.length lc) (.int .i64 good))
      generalize ((((((w5.setCell ⟨w.heap.size + 1, 0, none⟩ (.int .i64 s.term)).setCell ⟨w.heap.size + 1, 1, none⟩ (.int .i64 s.vote)).setCell ⟨w.heap.size + 1, 2, none⟩ (.int .i64 s.base)).setCell ⟨w.heap.size + 1, 3, none⟩ (.int .i64 s.bterm)).setCell ⟨w.heap.size + 1, 4, none⟩ (.slice lo s.log.length lc)).setCell ⟨w.heap.size + 1, 5, none⟩ (.int .i64 good)) = W6 at HS6 ⊢
      have g0 : W6.cell? ⟨w.heap.size + 1, 0, none⟩ = some (.int .i64 s.term) := cell_of HS6.out.1 rfl
      have g1 : W6.cell? ⟨w.heap.size + 1, 1, none⟩ = some (.int .i64 s.vote) := cell_of HS6.out.1 rfl
      have g2 : W6.cell? ⟨w.heap.size + 1, 2, none⟩ = some (.int .i64 s.base) := cell_of HS6.out.1 rfl
      have g3 : W6.cell? ⟨w.heap.size + 1, 3, none⟩ = some (.int .i64 s.bterm) := cell_of HS6.out.1 rfl
      have g4 : W6.cell? ⟨w.heap.size + 1, 4, none⟩ = some (.slice lo s.log.length lc) := cell_of HS6.out.1 rfl
      have g5 : W6.cell? ⟨w.heap.size + 1, 5, none⟩ = some (.int .i64 good) := cell_of HS6.out.1 rfl
      exact bodyPost_ret (v := .tuple #[.agg #[.int .i64 s.term, .int .i64 s.vote, .int .i64 s.base, .int .i64 s.bterm, .slice lo s.log.length lc, .int .i64 good], .bool false]) (by simp [results, Try.results78, go_sem, g0, g1, g2, g3, g4, g5]) rfl ⟨TB.done HT5.out HS6.out.2, .inl ⟨HN.out, rfl⟩⟩
    · exact absurd hbad HNz.out
  go_enter Try.func78, Try.ntmps78
  go_wp2_with fail
  rw [← hW0]
  refine Calls.mono (HNum.out _ _ _ (by unfold cutV; rw [if_neg hcap1]; rfl)) ?_
  rintro e w5 ⟨b5, h5⟩
  have HT5 := hide (HT.out.below b5)
  have hk5 : w5.cell? ⟨kb, koff, none⟩ = some (.int .u8 K) := (b5.cell (cell_lt hkW)).trans hkW
  have HB5 : Hid (Below w.heap.size w w5) := HT5.out.bel
  have HL5 : Hid (LogR w5 (.slice lo s.log.length lc) s.log us) := HL.out.below HB5.out (Nat.le_refl _)
  have w5c0 : w5.cell? ⟨w.heap.size, 0, none⟩ = some (.int .i64 s.term) := cell_of HT5.out.st rfl
  have w5c1 : w5.cell? ⟨w.heap.size, 1, none⟩ = some (.int .i64 s.vote) := cell_of HT5.out.st rfl
  have w5c2 : w5.cell? ⟨w.heap.size, 2, none⟩ = some (.int .i64 s.base) := cell_of HT5.out.st rfl
  have w5c3 : w5.cell? ⟨w.heap.size, 3, none⟩ = some (.int .i64 s.bterm) := cell_of HT5.out.st rfl
  have w5c4 : w5.cell? ⟨w.heap.size, 4, none⟩ = some (.slice lo s.log.length lc) := cell_of HT5.out.st rfl
  have w5c5 : w5.cell? ⟨w.heap.size, 5, none⟩ = some (.int .i64 good) := cell_of HT5.out.st rfl
  have w5f := frozen_of HT5.out.st
  have w5g := frozen_of HT5.out.an
  have w5e0 : w5.cell? ⟨w.heap.size + 1, 0, none⟩ = some (.int .i64 0) := cell_of HT5.out.an rfl
  have w5e1 : w5.cell? ⟨w.heap.size + 1, 1, none⟩ = some (.int .i64 0) := cell_of HT5.out.an rfl
  have w5e2 : w5.cell? ⟨w.heap.size + 1, 2, none⟩ = some (.int .i64 0) := cell_of HT5.out.an rfl
  have w5e3 : w5.cell? ⟨w.heap.size + 1, 3, none⟩ = some (.int .i64 0) := cell_of HT5.out.an rfl
  have w5e4 : w5.cell? ⟨w.heap.size + 1, 4, none⟩ = some (.slice none 0 0) := cell_of HT5.out.an rfl
  have w5e5 : w5.cell? ⟨w.heap.size + 1, 5, none⟩ = some (.int .i64 0) := cell_of HT5.out.an rfl
  clear b5 HNum hkA hkW hW0
  rcases h5 with ⟨a', b', o5, n5, c5, rfl, hbad⟩ | ⟨o5, n5, c5, rfl, hrest, hs1, hs2, ht1, ht2⟩
  · have HN : Hid (takeS s p = none) := take_nums s (.inr hbad)
    clear hbad HTE
    go_wp2
    have HS6 := hide (six_sets HT5.out.an (.int .i64 s.term) (.int .i64 s.vote) (.int .i64 s.base) (.int .i64 s.bterm) (.slice lo s.log.length lc) (.int .i64 good))
    generalize ((((((w5.setCell ⟨w.heap.size + 1, 0, none⟩ (.int .i64 s.term)).setCell ⟨w.heap.size + 1, 1, none⟩ (.int .i64 s.vote)).setCell ⟨w.heap.size + 1, 2, none⟩ (.int .i64 s.base)).setCell ⟨w.heap.size + 1, 3, none⟩ (.int .i64 s.bterm)).setCell ⟨w.heap.size + 1, 4, none⟩ (.slice lo s.log.length lc)).setCell ⟨w.heap.size + 1, 5, none⟩ (.int .i64 good)) = W6 at HS6 ⊢
    have g0 : W6.cell? ⟨w.heap.size + 1, 0, none⟩ = some (.int .i64 s.term) := cell_of HS6.out.1 rfl
    have g1 : W6.cell? ⟨w.heap.size + 1, 1, none⟩ = some (.int .i64 s.vote) := cell_of HS6.out.1 rfl
    have g2 : W6.cell? ⟨w.heap.size + 1, 2, none⟩ = some (.int .i64 s.base) := cell_of HS6.out.1 rfl
    have g3 : W6.cell? ⟨w.heap.size + 1, 3, none⟩ = some (.int .i64 s.bterm) := cell_of HS6.out.1 rfl
    have g4 : W6.cell? ⟨w.heap.size + 1, 4, none⟩ = some (.slice lo s.log.length lc) := cell_of HS6.out.1 rfl
    have g5 : W6.cell? ⟨w.heap.size + 1, 5, none⟩ = some (.int .i64 good) := cell_of HS6.out.1 rfl
    exact bodyPost_ret (v := .tuple #[.agg #[.int .i64 s.term, .int .i64 s.vote, .int .i64 s.base, .int .i64 s.bterm, .slice lo s.log.length lc, .int .i64 good], .bool false]) (by simp [results, Try.results78, go_sem, g0, g1, g2, g3, g4, g5]) rfl ⟨TB.done HT5.out HS6.out.2, .inl ⟨HN.out, rfl⟩⟩
  have HTS := hide (HTE.out hs1 hs2 ⟨ht1, ht2⟩)
  have HR : Hid (RdA w5 (.slice o5 n5 c5) (restP p)) := by
    have e : restP p = rest2 (p.drop 1) := by
      unfold restP rest2
      rw [List.drop_drop]
      have e2 : num2 p = getR 9 0 0 ((p.drop 1).drop (num1 p).2.1) := by unfold num2; rw [List.drop_drop]
      rw [e2]
      unfold num1
      rw [Nat.add_assoc]
    rw [e]
    exact hrest
  have hnl : (restP p).length = n5 := (le_cap HR.out.1).1.symm
  have hn5 : n5 ≤ 65536 := by rw [← hnl]; unfold restP; simp; omega
  have HLn : Hid ((restP p).length = n5) := hnl
  unfold termIn at ht1 ht2
  clear HTE hrest hs1 hs2 hnl
  rw [HLn.out] at HTS
  generalize (num1 p).1 = A at *
  generalize (num2 p).1 = Bn at *
  unfold baseIn at hb
  by_cases hK1 : K = 1
  · subst hK1
    rw [if_pos rfl] at HTS
    by_cases hn0 : 0 < n5
    · have HN : Hid (takeS s p = none) := by rw [HTS.out, if_pos hn0]; exact hide rfl
      have hni : (0 : Int) < n5 := by omega
      clear HTS
      go_wp2
      have HS6 := hide (six_sets HT5.out.an (.int .i64 s.term) (.int .i64 s.vote) (.int .i64 s.base) (.int .i64 s.bterm) (.slice lo s.log.length lc) (.int .i64 good))
      generalize ((((((w5.setCell ⟨w.heap.size + 1, 0, none⟩ (.int .i64 s.term)).setCell ⟨w.heap.size + 1, 1, none⟩ (.int .i64 s.vote)).setCell ⟨w.heap.size + 1, 2, none⟩ (.int .i64 s.base)).setCell ⟨w.heap.size + 1, 3, none⟩ (.int .i64 s.bterm)).setCell ⟨w.heap.size + 1, 4, none⟩ (.slice lo s.log.length lc)).setCell ⟨w.heap.size + 1, 5, none⟩ (.int .i64 good)) = W6 at HS6 ⊢
      have g0 : W6.cell? ⟨w.heap.size + 1, 0, none⟩ = some (.int .i64 s.term) := cell_of HS6.out.1 rfl
      have g1 : W6.cell? ⟨w.heap.size + 1, 1, none⟩ = some (.int .i64 s.vote) := cell_of HS6.out.1 rfl
      have g2 : W6.cell? ⟨w.heap.size + 1, 2, none⟩ = some (.int .i64 s.base) := cell_of HS6.out.1 rfl
      have g3 : W6.cell? ⟨w.heap.size + 1, 3, none⟩ = some (.int .i64 s.bterm) := cell_of HS6.out.1 rfl
      have g4 : W6.cell? ⟨w.heap.size + 1, 4, none⟩ = some (.slice lo s.log.length lc) := cell_of HS6.out.1 rfl
      have g5 : W6.cell? ⟨w.heap.size + 1, 5, none⟩ = some (.int .i64 good) := cell_of HS6.out.1 rfl
      exact bodyPost_ret (v := .tuple #[.agg #[.int .i64 s.term, .int .i64 s.vote, .int .i64 s.base, .int .i64 s.bterm, .slice lo s.log.length lc, .int .i64 good], .bool false]) (by simp [results, Try.results78, go_sem, g0, g1, g2, g3, g4, g5]) rfl ⟨TB.done HT5.out HS6.out.2, .inl ⟨HN.out, rfl⟩⟩
    · rw [if_neg hn0] at HTS
      obtain rfl : n5 = 0 := by omega
      by_cases hlt : A < s.term
      · have HN : Hid (takeS s p = none) := by rw [HTS.out]; unfold fitV; rw [if_pos hlt]; exact hide rfl
        clear HTS
        go_wp2
        have HS6 := hide (six_sets HT5.out.an (.int .i64 s.term) (.int .i64 s.vote) (.int .i64 s.base) (.int .i64 s.bterm) (.slice lo s.log.length lc) (.int .i64 good))
        generalize ((((((w5.setCell ⟨w.heap.size + 1, 0, none⟩ (.int .i64 s.term)).setCell ⟨w.heap.size + 1, 1, none⟩ (.int .i64 s.vote)).setCell ⟨w.heap.size + 1, 2, none⟩ (.int .i64 s.base)).setCell ⟨w.heap.size + 1, 3, none⟩ (.int .i64 s.bterm)).setCell ⟨w.heap.size + 1, 4, none⟩ (.slice lo s.log.length lc)).setCell ⟨w.heap.size + 1, 5, none⟩ (.int .i64 good)) = W6 at HS6 ⊢
        have g0 : W6.cell? ⟨w.heap.size + 1, 0, none⟩ = some (.int .i64 s.term) := cell_of HS6.out.1 rfl
        have g1 : W6.cell? ⟨w.heap.size + 1, 1, none⟩ = some (.int .i64 s.vote) := cell_of HS6.out.1 rfl
        have g2 : W6.cell? ⟨w.heap.size + 1, 2, none⟩ = some (.int .i64 s.base) := cell_of HS6.out.1 rfl
        have g3 : W6.cell? ⟨w.heap.size + 1, 3, none⟩ = some (.int .i64 s.bterm) := cell_of HS6.out.1 rfl
        have g4 : W6.cell? ⟨w.heap.size + 1, 4, none⟩ = some (.slice lo s.log.length lc) := cell_of HS6.out.1 rfl
        have g5 : W6.cell? ⟨w.heap.size + 1, 5, none⟩ = some (.int .i64 good) := cell_of HS6.out.1 rfl
        exact bodyPost_ret (v := .tuple #[.agg #[.int .i64 s.term, .int .i64 s.vote, .int .i64 s.base, .int .i64 s.bterm, .slice lo s.log.length lc, .int .i64 good], .bool false]) (by simp [results, Try.results78, go_sem, g0, g1, g2, g3, g4, g5]) rfl ⟨TB.done HT5.out HS6.out.2, .inl ⟨HN.out, rfl⟩⟩
      · have HN : Hid (takeS s p = some { s with term := A, vote := Bn }) := by rw [HTS.out]; unfold fitV; rw [if_neg hlt]; exact hide rfl
        clear HTS
        go_wp2
        have HX : Hid (TB w ((w5.setCell ⟨w.heap.size, 0, none⟩ (.int .i64 A)).setCell ⟨w.heap.size, 1, none⟩ (.int .i64 Bn)) { s with term := A, vote := Bn } (.slice lo s.log.length lc) good) := hide ((HT5.out.set (s' := { s with term := A }) 0 (.int .i64 A) rfl).set 1 (.int .i64 Bn) rfl)
        have HS6 := hide (six_sets HX.out.an (.int .i64 A) (.int .i64 Bn) (.int .i64 s.base) (.int .i64 s.bterm) (.slice lo s.log.length lc) (.int .i64 good))
        generalize ((((((((w5.setCell ⟨w.heap.size, 0, none⟩ (.int .i64 A)).setCell ⟨w.heap.size, 1, none⟩ (.int .i64 Bn)).setCell ⟨w.heap.size + 1, 0, none⟩ (.int .i64 A)).setCell ⟨w.heap.size + 1, 1, none⟩ (.int .i64 Bn)).setCell ⟨w.heap.size + 1, 2, none⟩ (.int .i64 s.base)).setCell ⟨w.heap.size + 1, 3, none⟩ (.int .i64 s.bterm)).setCell ⟨w.heap.size + 1, 4, none⟩ (.slice lo s.log.length lc)).setCell ⟨w.heap.size + 1, 5, none⟩ (.int .i64 good)) = W6 at HS6 ⊢
        have g0 : W6.cell? ⟨w.heap.size + 1, 0, none⟩ = some (.int .i64 A) := cell_of HS6.out.1 rfl
        have g1 : W6.cell? ⟨w.heap.size + 1, 1, none⟩ = some (.int .i64 Bn) := cell_of HS6.out.1 rfl
        have g2 : W6.cell? ⟨w.heap.size + 1, 2, none⟩ = some (.int .i64 s.base) := cell_of HS6.out.1 rfl
        have g3 : W6.cell? ⟨w.heap.size + 1, 3, none⟩ = some (.int .i64 s.bterm) := cell_of HS6.out.1 rfl
        have g4 : W6.cell? ⟨w.heap.size + 1, 4, none⟩ = some (.slice lo s.log.length lc) := cell_of HS6.out.1 rfl
        have g5 : W6.cell? ⟨w.heap.size + 1, 5, none⟩ = some (.int .i64 good) := cell_of HS6.out.1 rfl
        exact bodyPost_ret (v := .tuple #[.agg #[.int .i64 A, .int .i64 Bn, .int .i64 s.base, .int .i64 s.bterm, .slice lo s.log.length lc, .int .i64 good], .bool true]) (by simp [results, Try.results78, go_sem, g0, g1, g2, g3, g4, g5]) rfl ⟨TB.done HX.out HS6.out.2, .inr ⟨_, lo, _, lc, us, HN.out, rfl, HL.out.below (TB.done HX.out HS6.out.2) (Nat.le_refl _), fun b _ hf => hf⟩⟩
  rw [if_neg hK1] at HTS
  by_cases hK3 : K = 3
  · subst hK3
    rw [if_neg (by decide), if_pos rfl] at HTS
    by_cases hn0 : 0 < n5
    · have HN : Hid (takeS s p = none) := by rw [HTS.out, if_pos hn0]; exact hide rfl
      have hni : (0 : Int) < n5 := by omega
      clear HTS
      go_wp2
      have HS6 := hide (six_sets HT5.out.an (.int .i64 s.term) (.int .i64 s.vote) (.int .i64 s.base) (.int .i64 s.bterm) (.slice lo s.log.length lc) (.int .i64 good))
      generalize ((((((w5.setCell ⟨w.heap.size + 1, 0, none⟩ (.int .i64 s.term)).setCell ⟨w.heap.size + 1, 1, none⟩ (.int .i64 s.vote)).setCell ⟨w.heap.size + 1, 2, none⟩ (.int .i64 s.base)).setCell ⟨w.heap.size + 1, 3, none⟩ (.int .i64 s.bterm)).setCell ⟨w.heap.size + 1, 4, none⟩ (.slice lo s.log.length lc)).setCell ⟨w.heap.size + 1, 5, none⟩ (.int .i64 good)) = W6 at HS6 ⊢
      have g0 : W6.cell? ⟨w.heap.size + 1, 0, none⟩ = some (.int .i64 s.term) := cell_of HS6.out.1 rfl
      have g1 : W6.cell? ⟨w.heap.size + 1, 1, none⟩ = some (.int .i64 s.vote) := cell_of HS6.out.1 rfl
      have g2 : W6.cell? ⟨w.heap.size + 1, 2, none⟩ = some (.int .i64 s.base) := cell_of HS6.out.1 rfl
      have g3 : W6.cell? ⟨w.heap.size + 1, 3, none⟩ = some (.int .i64 s.bterm) := cell_of HS6.out.1 rfl
      have g4 : W6.cell? ⟨w.heap.size + 1, 4, none⟩ = some (.slice lo s.log.length lc) := cell_of HS6.out.1 rfl
      have g5 : W6.cell? ⟨w.heap.size + 1, 5, none⟩ = some (.int .i64 good) := cell_of HS6.out.1 rfl
      exact bodyPost_ret (v := .tuple #[.agg #[.int .i64 s.term, .int .i64 s.vote, .int .i64 s.base, .int .i64 s.bterm, .slice lo s.log.length lc, .int .i64 good], .bool false]) (by simp [results, Try.results78, go_sem, g0, g1, g2, g3, g4, g5]) rfl ⟨TB.done HT5.out HS6.out.2, .inl ⟨HN.out, rfl⟩⟩
    rw [if_neg hn0] at HTS
    obtain rfl : n5 = 0 := by omega
    by_cases h1 : A < s.base
    · have HN : Hid (takeS s p = none) := by rw [HTS.out]; unfold fitB; rw [if_pos (.inl (by omega))]; exact hide rfl
      clear HTS
      go_wp2
      have HS6 := hide (six_sets HT5.out.an (.int .i64 s.term) (.int .i64 s.vote) (.int .i64 s.base) (.int .i64 s.bterm) (.slice lo s.log.length lc) (.int .i64 good))
      generalize ((((((w5.setCell ⟨w.heap.size + 1, 0, none⟩ (.int .i64 s.term)).setCell ⟨w.heap.size + 1, 1, none⟩ (.int .i64 s.vote)).setCell ⟨w.heap.size + 1, 2, none⟩ (.int .i64 s.base)).setCell ⟨w.heap.size + 1, 3, none⟩ (.int .i64 s.bterm)).setCell ⟨w.heap.size + 1, 4, none⟩ (.slice lo s.log.length lc)).setCell ⟨w.heap.size + 1, 5, none⟩ (.int .i64 good)) = W6 at HS6 ⊢
      have g0 : W6.cell? ⟨w.heap.size + 1, 0, none⟩ = some (.int .i64 s.term) := cell_of HS6.out.1 rfl
      have g1 : W6.cell? ⟨w.heap.size + 1, 1, none⟩ = some (.int .i64 s.vote) := cell_of HS6.out.1 rfl
      have g2 : W6.cell? ⟨w.heap.size + 1, 2, none⟩ = some (.int .i64 s.base) := cell_of HS6.out.1 rfl
      have g3 : W6.cell? ⟨w.heap.size + 1, 3, none⟩ = some (.int .i64 s.bterm) := cell_of HS6.out.1 rfl
      have g4 : W6.cell? ⟨w.heap.size + 1, 4, none⟩ = some (.slice lo s.log.length lc) := cell_of HS6.out.1 rfl
      have g5 : W6.cell? ⟨w.heap.size + 1, 5, none⟩ = some (.int .i64 good) := cell_of HS6.out.1 rfl
      exact bodyPost_ret (v := .tuple #[.agg #[.int .i64 s.term, .int .i64 s.vote, .int .i64 s.base, .int .i64 s.bterm, .slice lo s.log.length lc, .int .i64 good], .bool false]) (by simp [results, Try.results78, go_sem, g0, g1, g2, g3, g4, g5]) rfl ⟨TB.done HT5.out HS6.out.2, .inl ⟨HN.out, rfl⟩⟩
    by_cases h2 : s.base + s.log.length < A
    · have HN : Hid (takeS s p = none) := by rw [HTS.out]; unfold fitB; rw [if_pos (.inr (.inl (by omega)))]; exact hide rfl
      clear HTS
      go_wp2
      have HS6 := hide (six_sets HT5.out.an (.int .i64 s.term) (.int .i64 s.vote) (.int .i64 s.base) (.int .i64 s.bterm) (.slice lo s.log.length lc) (.int .i64 good))
      generalize ((((((w5.setCell ⟨w.heap.size + 1, 0, none⟩ (.int .i64 s.term)).setCell ⟨w.heap.size + 1, 1, none⟩ (.int .i64 s.vote)).setCell ⟨w.heap.size + 1, 2, none⟩ (.int .i64 s.base)).setCell ⟨w.heap.size + 1, 3, none⟩ (.int .i64 s.bterm)).setCell ⟨w.heap.size + 1, 4, none⟩ (.slice lo s.log.length lc)).setCell ⟨w.heap.size + 1, 5, none⟩ (.int .i64 good)) = W6 at HS6 ⊢
      have g0 : W6.cell? ⟨w.heap.size + 1, 0, none⟩ = some (.int .i64 s.term) := cell_of HS6.out.1 rfl
      have g1 : W6.cell? ⟨w.heap.size + 1, 1, none⟩ = some (.int .i64 s.vote) := cell_of HS6.out.1 rfl
      have g2 : W6.cell? ⟨w.heap.size + 1, 2, none⟩ = some (.int .i64 s.base) := cell_of HS6.out.1 rfl
      have g3 : W6.cell? ⟨w.heap.size + 1, 3, none⟩ = some (.int .i64 s.bterm) := cell_of HS6.out.1 rfl
      have g4 : W6.cell? ⟨w.heap.size + 1, 4, none⟩ = some (.slice lo s.log.length lc) := cell_of HS6.out.1 rfl
      have g5 : W6.cell? ⟨w.heap.size + 1, 5, none⟩ = some (.int .i64 good) := cell_of HS6.out.1 rfl
      exact bodyPost_ret (v := .tuple #[.agg #[.int .i64 s.term, .int .i64 s.vote, .int .i64 s.base, .int .i64 s.bterm, .slice lo s.log.length lc, .int .i64 good], .bool false]) (by simp [results, Try.results78, go_sem, g0, g1, g2, g3, g4, g5]) rfl ⟨TB.done HT5.out HS6.out.2, .inl ⟨HN.out, rfl⟩⟩
    have HTA := hide (termAt_any w5 s _ us good HL5.out.rd (A - s.base).toNat (by omega) (by omega) hb A (by omega))
    unfold walV at HTA
    have HTSb : Hid (takeS s p = if A - s.base < 0 ∨ (s.log.length : Int) < A - s.base ∨ Bn ≠ termB s (A - s.base).toNat then none else some { s with base := A, bterm := Bn, log := s.log.drop (A - s.base).toNat }) := HTS.out
    clear HTS
    generalize termB s (A - s.base).toNat = tb at HTA HTSb
    have hG0 : 0 ≤ A - s.base := by omega
    have hGl : A - s.base ≤ s.log.length := by omega
    have hGc : A - s.base ≤ lc := by omega
    go_wp2_with fail
    refine HTA.out.mono ?_
    rintro e w6 ⟨rfl, b6⟩
    have HT6 := hide (HT5.out.below b6)
    have HL6 : Hid (LogR w6 (.slice lo s.log.length lc) s.log us) := HL5.out.below b6 (Nat.le_refl _)
    have w6c0 : w6.cell? ⟨w.heap.size, 0, none⟩ = some (.int .i64 s.term) := cell_of HT6.out.st rfl
    have w6c1 : w6.cell? ⟨w.heap.size, 1, none⟩ = some (.int .i64 s.vote) := cell_of HT6.out.st rfl
    have w6c2 : w6.cell? ⟨w.heap.size, 2, none⟩ = some (.int .i64 s.base) := cell_of HT6.out.st rfl
    have w6c3 : w6.cell? ⟨w.heap.size, 3, none⟩ = some (.int .i64 s.bterm) := cell_of HT6.out.st rfl
    have w6c4 : w6.cell? ⟨w.heap.size, 4, none⟩ = some (.slice lo s.log.length lc) := cell_of HT6.out.st rfl
    have w6c5 : w6.cell? ⟨w.heap.size, 5, none⟩ = some (.int .i64 good) := cell_of HT6.out.st rfl
    have w6f := frozen_of HT6.out.st
    have w6g := frozen_of HT6.out.an
    have w6e0 : w6.cell? ⟨w.heap.size + 1, 0, none⟩ = some (.int .i64 0) := cell_of HT6.out.an rfl
    have w6e1 : w6.cell? ⟨w.heap.size + 1, 1, none⟩ = some (.int .i64 0) := cell_of HT6.out.an rfl
    have w6e2 : w6.cell? ⟨w.heap.size + 1, 2, none⟩ = some (.int .i64 0) := cell_of HT6.out.an rfl
    have w6e3 : w6.cell? ⟨w.heap.size + 1, 3, none⟩ = some (.int .i64 0) := cell_of HT6.out.an rfl
    have w6e4 : w6.cell? ⟨w.heap.size + 1, 4, none⟩ = some (.slice none 0 0) := cell_of HT6.out.an rfl
    have w6e5 : w6.cell? ⟨w.heap.size + 1, 5, none⟩ = some (.int .i64 0) := cell_of HT6.out.an rfl
    clear b6 HTA
    by_cases h3 : tb = Bn
    · subst h3
      have HN : Hid (takeS s p = some { s with base := A, bterm := tb, log := s.log.drop (A - s.base).toNat }) := by rw [HTSb.out, if_neg (by simp only [not_or, ne_eq, Decidable.not_not]; exact ⟨by omega, by omega, trivial⟩)]; exact hide rfl
      clear HTSb
      have HS6 := HT6.out.size
      have hst6 : w.heap.size < w6.heap.size := by omega
      have w6a2 : ∀ o, (w6.alloc o).cell? ⟨w.heap.size, 2, none⟩ = some (.int .i64 s.base) := fun o => (Below.cell ((Below.refl w6.heap.size w6).alloc (Nat.le_refl _) o) hst6).trans w6c2
      have w6a4 : ∀ o, (w6.alloc o).cell? ⟨w.heap.size, 4, none⟩ = some (.slice lo s.log.length lc) := fun o => (Below.cell ((Below.refl w6.heap.size w6).alloc (Nat.le_refl _) o) hst6).trans w6c4
      have HL7 : Hid (LogR (w6.alloc (.cells #[] 92)) (.slice lo s.log.length lc) s.log us) := HL6.out.below ((Below.refl w6.heap.size w6).alloc (Nat.le_refl _) _) (Nat.le_refl _)
      obtain ⟨news, hnl, hnc, hn1, hns⟩ := log_news HL7.out (A - s.base).toNat (s.log.length - (A - s.base).toNat) (by omega)
      have HNw := hide (And.intro hnl (And.intro hnc (And.intro hn1 hns)))
      have HG7 : Hid (∀ (v7 : Value) (w7 : World), (w6.alloc (.cells #[] 92)).grownBy w7 (Value.slice (some ⟨w6.heap.size, 0, none⟩) 0 0).ownBlock → w7.ownsRow w6.heap.size 92 3 v7 (0 + (s.log.length - (A - s.base).toNat)) ([] ++ news) → TB w w7 s (.slice lo s.log.length lc) good) := fun v7 w7 hg _ => (HT6.out.grown (World.grownBy_alloc w6 _ none) (fun k hk => by simp at hk)).grown hg (fun k hk => by simp only [Value.ownBlock, Option.some.injEq] at hk; omega)
      have HFin : Hid (∀ (v7 : Value) (w7 W6 : World), (w7.ownsRow w6.heap.size 92 3 v7 (0 + (s.log.length - (A - s.base).toNat)) ([] ++ news)) → w7.grownBy W6 (some w.heap.size) → ∀ W9 : World, W6.grownBy W9 (some (w.heap.size + 1)) → Below w.heap.size w W9 → LogR W9 v7 (s.log.drop (A - s.base).toNat) (us.drop (A - s.base).toNat)) := fun v7 w7 W6 ho hg W9 hg9 hb9 => by
        have ho9 := row_kept (row_kept ho hg (by omega)) hg9 (by omega)
        rw [Nat.zero_add, List.nil_append, ← List.length_drop] at ho9
        refine recs_of_row ho9 (by simp [HL.out.rd.len]) ?_ (fun q hq => ?_)
        · rw [List.length_drop]
          exact Says.drop HNw.out.2.2.2
        · rw [List.length_drop] at hq
          rw [fits.getD_drop, fits.getD_drop]
          exact (HL.out.rd.each _ (by omega)).below hb9 (Nat.le_refl _)
      clear hnl hnc hn1 hns
      by_cases hlG : lc = (A - s.base).toNat
      · have HZ : Hid (s.log.length - (A - s.base).toNat = 0 ∧ news = []) := by
          have h0 : s.log.length - (A - s.base).toNat = 0 := by omega
          refine ⟨h0, List.length_eq_zero_iff.1 ?_⟩
          rw [HNw.out.1, h0]
        go_wp2_with (at_builtin; refine wpList_append_recs _ rfl _ _ rfl w6.heap.size _ 0 [] rfl (row_nil3 w6) _ _ _ rfl (fun e => ⟨HZ.out.1, rfl⟩) news HNw.out.1 (fun ad _ j u hu => by rw [HZ.out.2] at hu; simp at hu) HNw.out.2.2.1 (by omega) (by simp) ?_; intro v7 w7 hown7 hgrow7; obtain ⟨o7, c7, rfl⟩ := row_form hown7; have HT7 := hide (HG7.out _ _ hgrow7 hown7); have HO7 := hide hown7; clear hown7 hgrow7; have w7c0 : w7.cell? ⟨w.heap.size, 0, none⟩ = some (.int .i64 s.term) := cell_of HT7.out.st rfl; have w7c1 : w7.cell? ⟨w.heap.size, 1, none⟩ = some (.int .i64 s.vote) := cell_of HT7.out.st rfl; have w7c2 : w7.cell? ⟨w.heap.size, 2, none⟩ = some (.int .i64 s.base) := cell_of HT7.out.st rfl; have w7c3 : w7.cell? ⟨w.heap.size, 3, none⟩ = some (.int .i64 s.bterm) := cell_of HT7.out.st rfl; have w7c4 : w7.cell? ⟨w.heap.size, 4, none⟩ = some (.slice lo s.log.length lc) := cell_of HT7.out.st rfl; have w7c5 : w7.cell? ⟨w.heap.size, 5, none⟩ = some (.int .i64 good) := cell_of HT7.out.st rfl; have w7f := frozen_of HT7.out.st; have w7g := frozen_of HT7.out.an; have w7e0 : w7.cell? ⟨w.heap.size + 1, 0, none⟩ = some (.int .i64 0) := cell_of HT7.out.an rfl; have w7e1 : w7.cell? ⟨w.heap.size + 1, 1, none⟩ = some (.int .i64 0) := cell_of HT7.out.an rfl; have w7e2 : w7.cell? ⟨w.heap.size + 1, 2, none⟩ = some (.int .i64 0) := cell_of HT7.out.an rfl; have w7e3 : w7.cell? ⟨w.heap.size + 1, 3, none⟩ = some (.int .i64 0) := cell_of HT7.out.an rfl; have w7e4 : w7.cell? ⟨w.heap.size + 1, 4, none⟩ = some (.slice none 0 0) := cell_of HT7.out.an rfl; have w7e5 : w7.cell? ⟨w.heap.size + 1, 5, none⟩ = some (.int .i64 0) := cell_of HT7.out.an rfl)
        have hgX : w7.grownBy (((w7.setCell ⟨w.heap.size, 4, none⟩ (.slice o7 (s.log.length - (A - s.base).toNat) c7)).setCell ⟨w.heap.size, 2, none⟩ (.int .i64 A)).setCell ⟨w.heap.size, 3, none⟩ (.int .i64 tb)) (some w.heap.size) := grown_trans (grown_trans (set_grown _ _ _ _) (set_grown _ _ _ _)) (set_grown _ _ _ _)
        have HX : Hid (TB w (((w7.setCell ⟨w.heap.size, 4, none⟩ (.slice o7 (s.log.length - (A - s.base).toNat) c7)).setCell ⟨w.heap.size, 2, none⟩ (.int .i64 A)).setCell ⟨w.heap.size, 3, none⟩ (.int .i64 tb)) { s with base := A, bterm := tb, log := s.log.drop (A - s.base).toNat } (.slice o7 (s.log.length - (A - s.base).toNat) c7) good) := hide (((HT7.out.set (s' := s) (lv' := .slice o7 (s.log.length - (A - s.base).toNat) c7) 4 (.slice o7 (s.log.length - (A - s.base).toNat) c7) rfl).set (s' := { s with base := A }) 2 (.int .i64 A) rfl).set 3 (.int .i64 tb) rfl)
        have HS6 := hide (six_sets HX.out.an (.int .i64 s.term) (.int .i64 s.vote) (.int .i64 A) (.int .i64 tb) (.slice o7 (s.log.length - (A - s.base).toNat) c7) (.int .i64 good))
        generalize (((((((((w7.setCell ⟨w.heap.size, 4, none⟩ (.slice o7 (s.log.length - (A - s.base).toNat) c7)).setCell ⟨w.heap.size, 2, none⟩ (.int .i64 A)).setCell ⟨w.heap.size, 3, none⟩ (.int .i64 tb)).setCell ⟨w.heap.size + 1, 0, none⟩ (.int .i64 s.term)).setCell ⟨w.heap.size + 1, 1, none⟩ (.int .i64 s.vote)).setCell ⟨w.heap.size + 1, 2, none⟩ (.int .i64 A)).setCell ⟨w.heap.size + 1, 3, none⟩ (.int .i64 tb)).setCell ⟨w.heap.size + 1, 4, none⟩ (.slice o7 (s.log.length - (A - s.base).toNat) c7)).setCell ⟨w.heap.size + 1, 5, none⟩ (.int .i64 good)) = W6 at HS6 ⊢
        have g0 : W6.cell? ⟨w.heap.size + 1, 0, none⟩ = some (.int .i64 s.term) := cell_of HS6.out.1 rfl
        have g1 : W6.cell? ⟨w.heap.size + 1, 1, none⟩ = some (.int .i64 s.vote) := cell_of HS6.out.1 rfl
        have g2 : W6.cell? ⟨w.heap.size + 1, 2, none⟩ = some (.int .i64 A) := cell_of HS6.out.1 rfl
        have g3 : W6.cell? ⟨w.heap.size + 1, 3, none⟩ = some (.int .i64 tb) := cell_of HS6.out.1 rfl
        have g4 : W6.cell? ⟨w.heap.size + 1, 4, none⟩ = some (.slice o7 (s.log.length - (A - s.base).toNat) c7) := cell_of HS6.out.1 rfl
        have g5 : W6.cell? ⟨w.heap.size + 1, 5, none⟩ = some (.int .i64 good) := cell_of HS6.out.1 rfl
        exact bodyPost_ret (v := .tuple #[.agg #[.int .i64 s.term, .int .i64 s.vote, .int .i64 A, .int .i64 tb, .slice o7 (s.log.length - (A - s.base).toNat) c7, .int .i64 good], .bool true]) (by simp [results, Try.results78, go_sem, g0, g1, g2, g3, g4, g5]) rfl ⟨TB.done HX.out HS6.out.2, .inr ⟨_, o7, _, c7, us.drop (A - s.base).toNat, HN.out, rfl, (by have h := HFin.out _ w7 _ HO7.out hgX _ HS6.out.2 (TB.done HX.out HS6.out.2); rw [Nat.zero_add] at h; exact h), fun b hb2 hf => ⟨fun e => by have e2 : (Value.slice o7 (0 + (s.log.length - (A - s.base).toNat)) c7).ownBlock = some b := (by rw [Nat.zero_add]; exact e); have := (World.ownsRow.lt HO7.out b e2).1; omega, fun u hu => hf.2 u (List.mem_of_mem_drop hu)⟩⟩⟩
      · go_wp2_with (at_builtin; refine wpList_append_recs _ rfl _ _ rfl w6.heap.size _ 0 [] rfl (row_nil3 w6) _ _ _ rfl (fun e => by cases lo with | none => exact ⟨by have := (HL.out.nil _ _ rfl).1; omega, by have := (HL.out.nil _ _ rfl).2; omega⟩ | some x => simp at e) news HNw.out.1 (fun ad had j u hu => by cases lo with | none => simp at had | some x => simp only [Option.map_some, Option.some.injEq] at had; subst had; exact HNw.out.2.1 x rfl j u hu) HNw.out.2.2.1 (by omega) (by simp) ?_; intro v7 w7 hown7 hgrow7; obtain ⟨o7, c7, rfl⟩ := row_form hown7; have HT7 := hide (HG7.out _ _ hgrow7 hown7); have HO7 := hide hown7; clear hown7 hgrow7; have w7c0 : w7.cell? ⟨w.heap.size, 0, none⟩ = some (.int .i64 s.term) := cell_of HT7.out.st rfl; have w7c1 : w7.cell? ⟨w.heap.size, 1, none⟩ = some (.int .i64 s.vote) := cell_of HT7.out.st rfl; have w7c2 : w7.cell? ⟨w.heap.size, 2, none⟩ = some (.int .i64 s.base) := cell_of HT7.out.st rfl; have w7c3 : w7.cell? ⟨w.heap.size, 3, none⟩ = some (.int .i64 s.bterm) := cell_of HT7.out.st rfl; have w7c4 : w7.cell? ⟨w.heap.size, 4, none⟩ = some (.slice lo s.log.length lc) := cell_of HT7.out.st rfl; have w7c5 : w7.cell? ⟨w.heap.size, 5, none⟩ = some (.int .i64 good) := cell_of HT7.out.st rfl; have w7f := frozen_of HT7.out.st; have w7g := frozen_of HT7.out.an; have w7e0 : w7.cell? ⟨w.heap.size + 1, 0, none⟩ = some (.int .i64 0) := cell_of HT7.out.an rfl; have w7e1 : w7.cell? ⟨w.heap.size + 1, 1, none⟩ = some (.int .i64 0) := cell_of HT7.out.an rfl; have w7e2 : w7.cell? ⟨w.heap.size + 1, 2, none⟩ = some (.int .i64 0) := cell_of HT7.out.an rfl; have w7e3 : w7.cell? ⟨w.heap.size + 1, 3, none⟩ = some (.int .i64 0) := cell_of HT7.out.an rfl; have w7e4 : w7.cell? ⟨w.heap.size + 1, 4, none⟩ = some (.slice none 0 0) := cell_of HT7.out.an rfl; have w7e5 : w7.cell? ⟨w.heap.size + 1, 5, none⟩ = some (.int .i64 0) := cell_of HT7.out.an rfl)
        have hgX : w7.grownBy (((w7.setCell ⟨w.heap.size, 4, none⟩ (.slice o7 (s.log.length - (A - s.base).toNat) c7)).setCell ⟨w.heap.size, 2, none⟩ (.int .i64 A)).setCell ⟨w.heap.size, 3, none⟩ (.int .i64 tb)) (some w.heap.size) := grown_trans (grown_trans (set_grown _ _ _ _) (set_grown _ _ _ _)) (set_grown _ _ _ _)
        have HX : Hid (TB w (((w7.setCell ⟨w.heap.size, 4, none⟩ (.slice o7 (s.log.length - (A - s.base).toNat) c7)).setCell ⟨w.heap.size, 2, none⟩ (.int .i64 A)).setCell ⟨w.heap.size, 3, none⟩ (.int .i64 tb)) { s with base := A, bterm := tb, log := s.log.drop (A - s.base).toNat } (.slice o7 (s.log.length - (A - s.base).toNat) c7) good) := hide (((HT7.out.set (s' := s) (lv' := .slice o7 (s.log.length - (A - s.base).toNat) c7) 4 (.slice o7 (s.log.length - (A - s.base).toNat) c7) rfl).set (s' := { s with base := A }) 2 (.int .i64 A) rfl).set 3 (.int .i64 tb) rfl)
        have HS6 := hide (six_sets HX.out.an (.int .i64 s.term) (.int .i64 s.vote) (.int .i64 A) (.int .i64 tb) (.slice o7 (s.log.length - (A - s.base).toNat) c7) (.int .i64 good))
        generalize (((((((((w7.setCell ⟨w.heap.size, 4, none⟩ (.slice o7 (s.log.length - (A - s.base).toNat) c7)).setCell ⟨w.heap.size, 2, none⟩ (.int .i64 A)).setCell ⟨w.heap.size, 3, none⟩ (.int .i64 tb)).setCell ⟨w.heap.size + 1, 0, none⟩ (.int .i64 s.term)).setCell ⟨w.heap.size + 1, 1, none⟩ (.int .i64 s.vote)).setCell ⟨w.heap.size + 1, 2, none⟩ (.int .i64 A)).setCell ⟨w.heap.size + 1, 3, none⟩ (.int .i64 tb)).setCell ⟨w.heap.size + 1, 4, none⟩ (.slice o7 (s.log.length - (A - s.base).toNat) c7)).setCell ⟨w.heap.size + 1, 5, none⟩ (.int .i64 good)) = W6 at HS6 ⊢
        have g0 : W6.cell? ⟨w.heap.size + 1, 0, none⟩ = some (.int .i64 s.term) := cell_of HS6.out.1 rfl
        have g1 : W6.cell? ⟨w.heap.size + 1, 1, none⟩ = some (.int .i64 s.vote) := cell_of HS6.out.1 rfl
        have g2 : W6.cell? ⟨w.heap.size + 1, 2, none⟩ = some (.int .i64 A) := cell_of HS6.out.1 rfl
        have g3 : W6.cell? ⟨w.heap.size + 1, 3, none⟩ = some (.int .i64 tb) := cell_of HS6.out.1 rfl
        have g4 : W6.cell? ⟨w.heap.size + 1, 4, none⟩ = some (.slice o7 (s.log.length - (A - s.base).toNat) c7) := cell_of HS6.out.1 rfl
        have g5 : W6.cell? ⟨w.heap.size + 1, 5, none⟩ = some (.int .i64 good) := cell_of HS6.out.1 rfl
        exact bodyPost_ret (v := .tuple #[.agg #[.int .i64 s.term, .int .i64 s.vote, .int .i64 A, .int .i64 tb, .slice o7 (s.log.length - (A - s.base).toNat) c7, .int .i64 good], .bool true]) (by simp [results, Try.results78, go_sem, g0, g1, g2, g3, g4, g5]) rfl ⟨TB.done HX.out HS6.out.2, .inr ⟨_, o7, _, c7, us.drop (A - s.base).toNat, HN.out, rfl, (by have h := HFin.out _ w7 _ HO7.out hgX _ HS6.out.2 (TB.done HX.out HS6.out.2); rw [Nat.zero_add] at h; exact h), fun b hb2 hf => ⟨fun e => by have e2 : (Value.slice o7 (0 + (s.log.length - (A - s.base).toNat)) c7).ownBlock = some b := (by rw [Nat.zero_add]; exact e); have := (World.ownsRow.lt HO7.out b e2).1; omega, fun u hu => hf.2 u (List.mem_of_mem_drop hu)⟩⟩⟩
    · have HN : Hid (takeS s p = none) := by rw [HTSb.out, if_pos (.inr (.inr (fun e => h3 e.symm)))]; exact hide rfl
      have hbn : (tb != Bn) = true := by simp only [bne_iff_ne]; exact h3
      clear HTSb
      go_wp2
      have HS6 := hide (six_sets HT6.out.an (.int .i64 s.term) (.int .i64 s.vote) (.int .i64 s.base) (.int .i64 s.bterm) (.slice lo s.log.length lc) (.int .i64 good))
      generalize ((((((w6.setCell ⟨w.heap.size + 1, 0, none⟩ (.int .i64 s.term)).setCell ⟨w.heap.size + 1, 1, none⟩ (.int .i64 s.vote)).setCell ⟨w.heap.size + 1, 2, none⟩ (.int .i64 s.base)).setCell ⟨w.heap.size + 1, 3, none⟩ (.int .i64 s.bterm)).setCell ⟨w.heap.size + 1, 4, none⟩ (.slice lo s.log.length lc)).setCell ⟨w.heap.size + 1, 5, none⟩ (.int .i64 good)) = W6 at HS6 ⊢
      have g0 : W6.cell? ⟨w.heap.size + 1, 0, none⟩ = some (.int .i64 s.term) := cell_of HS6.out.1 rfl
      have g1 : W6.cell? ⟨w.heap.size + 1, 1, none⟩ = some (.int .i64 s.vote) := cell_of HS6.out.1 rfl
      have g2 : W6.cell? ⟨w.heap.size + 1, 2, none⟩ = some (.int .i64 s.base) := cell_of HS6.out.1 rfl
      have g3 : W6.cell? ⟨w.heap.size + 1, 3, none⟩ = some (.int .i64 s.bterm) := cell_of HS6.out.1 rfl
      have g4 : W6.cell? ⟨w.heap.size + 1, 4, none⟩ = some (.slice lo s.log.length lc) := cell_of HS6.out.1 rfl
      have g5 : W6.cell? ⟨w.heap.size + 1, 5, none⟩ = some (.int .i64 good) := cell_of HS6.out.1 rfl
      exact bodyPost_ret (v := .tuple #[.agg #[.int .i64 s.term, .int .i64 s.vote, .int .i64 s.base, .int .i64 s.bterm, .slice lo s.log.length lc, .int .i64 good], .bool false]) (by simp [results, Try.results78, go_sem, g0, g1, g2, g3, g4, g5]) rfl ⟨TB.done HT6.out HS6.out.2, .inl ⟨HN.out, rfl⟩⟩
  obtain rfl : K = 2 := by omega
  rw [if_pos rfl] at HTS
  by_cases h1 : Bn ≤ s.base
  · have HN : Hid (takeS s p = none) := by
      rw [HTS.out]
      split
      · exact hide rfl
      · unfold fitE; rw [if_pos (.inl (by omega))]; exact hide rfl
    clear HTS
    go_wp2
    have HS6 := hide (six_sets HT5.out.an (.int .i64 s.term) (.int .i64 s.vote) (.int .i64 s.base) (.int .i64 s.bterm) (.slice lo s.log.length lc) (.int .i64 good))
    generalize ((((((w5.setCell ⟨w.heap.size + 1, 0, none⟩ (.int .i64 s.term)).setCell ⟨w.heap.size + 1, 1, none⟩ (.int .i64 s.vote)).setCell ⟨w.heap.size + 1, 2, none⟩ (.int .i64 s.base)).setCell ⟨w.heap.size + 1, 3, none⟩ (.int .i64 s.bterm)).setCell ⟨w.heap.size + 1, 4, none⟩ (.slice lo s.log.length lc)).setCell ⟨w.heap.size + 1, 5, none⟩ (.int .i64 good)) = W6 at HS6 ⊢
    have g0 : W6.cell? ⟨w.heap.size + 1, 0, none⟩ = some (.int .i64 s.term) := cell_of HS6.out.1 rfl
    have g1 : W6.cell? ⟨w.heap.size + 1, 1, none⟩ = some (.int .i64 s.vote) := cell_of HS6.out.1 rfl
    have g2 : W6.cell? ⟨w.heap.size + 1, 2, none⟩ = some (.int .i64 s.base) := cell_of HS6.out.1 rfl
    have g3 : W6.cell? ⟨w.heap.size + 1, 3, none⟩ = some (.int .i64 s.bterm) := cell_of HS6.out.1 rfl
    have g4 : W6.cell? ⟨w.heap.size + 1, 4, none⟩ = some (.slice lo s.log.length lc) := cell_of HS6.out.1 rfl
    have g5 : W6.cell? ⟨w.heap.size + 1, 5, none⟩ = some (.int .i64 good) := cell_of HS6.out.1 rfl
    exact bodyPost_ret (v := .tuple #[.agg #[.int .i64 s.term, .int .i64 s.vote, .int .i64 s.base, .int .i64 s.bterm, .slice lo s.log.length lc, .int .i64 good], .bool false]) (by simp [results, Try.results78, go_sem, g0, g1, g2, g3, g4, g5]) rfl ⟨TB.done HT5.out HS6.out.2, .inl ⟨HN.out, rfl⟩⟩
  by_cases h2 : s.base + s.log.length + 1 < Bn
  · have HN : Hid (takeS s p = none) := by
      rw [HTS.out]
      split
      · exact hide rfl
      · unfold fitE; rw [if_pos (.inr (.inl (by omega)))]; exact hide rfl
    clear HTS
    go_wp2
    have HS6 := hide (six_sets HT5.out.an (.int .i64 s.term) (.int .i64 s.vote) (.int .i64 s.base) (.int .i64 s.bterm) (.slice lo s.log.length lc) (.int .i64 good))
    generalize ((((((w5.setCell ⟨w.heap.size + 1, 0, none⟩ (.int .i64 s.term)).setCell ⟨w.heap.size + 1, 1, none⟩ (.int .i64 s.vote)).setCell ⟨w.heap.size + 1, 2, none⟩ (.int .i64 s.base)).setCell ⟨w.heap.size + 1, 3, none⟩ (.int .i64 s.bterm)).setCell ⟨w.heap.size + 1, 4, none⟩ (.slice lo s.log.length lc)).setCell ⟨w.heap.size + 1, 5, none⟩ (.int .i64 good)) = W6 at HS6 ⊢
    have g0 : W6.cell? ⟨w.heap.size + 1, 0, none⟩ = some (.int .i64 s.term) := cell_of HS6.out.1 rfl
    have g1 : W6.cell? ⟨w.heap.size + 1, 1, none⟩ = some (.int .i64 s.vote) := cell_of HS6.out.1 rfl
    have g2 : W6.cell? ⟨w.heap.size + 1, 2, none⟩ = some (.int .i64 s.base) := cell_of HS6.out.1 rfl
    have g3 : W6.cell? ⟨w.heap.size + 1, 3, none⟩ = some (.int .i64 s.bterm) := cell_of HS6.out.1 rfl
    have g4 : W6.cell? ⟨w.heap.size + 1, 4, none⟩ = some (.slice lo s.log.length lc) := cell_of HS6.out.1 rfl
    have g5 : W6.cell? ⟨w.heap.size + 1, 5, none⟩ = some (.int .i64 good) := cell_of HS6.out.1 rfl
    exact bodyPost_ret (v := .tuple #[.agg #[.int .i64 s.term, .int .i64 s.vote, .int .i64 s.base, .int .i64 s.bterm, .slice lo s.log.length lc, .int .i64 good], .bool false]) (by simp [results, Try.results78, go_sem, g0, g1, g2, g3, g4, g5]) rfl ⟨TB.done HT5.out HS6.out.2, .inl ⟨HN.out, rfl⟩⟩
  by_cases h3 : (1000 : Int) < n5
  · have HN : Hid (takeS s p = none) := by rw [HTS.out, if_pos (.inr (by omega))]; exact hide rfl
    clear HTS
    go_wp2
    have HS6 := hide (six_sets HT5.out.an (.int .i64 s.term) (.int .i64 s.vote) (.int .i64 s.base) (.int .i64 s.bterm) (.slice lo s.log.length lc) (.int .i64 good))
    generalize ((((((w5.setCell ⟨w.heap.size + 1, 0, none⟩ (.int .i64 s.term)).setCell ⟨w.heap.size + 1, 1, none⟩ (.int .i64 s.vote)).setCell ⟨w.heap.size + 1, 2, none⟩ (.int .i64 s.base)).setCell ⟨w.heap.size + 1, 3, none⟩ (.int .i64 s.bterm)).setCell ⟨w.heap.size + 1, 4, none⟩ (.slice lo s.log.length lc)).setCell ⟨w.heap.size + 1, 5, none⟩ (.int .i64 good)) = W6 at HS6 ⊢
    have g0 : W6.cell? ⟨w.heap.size + 1, 0, none⟩ = some (.int .i64 s.term) := cell_of HS6.out.1 rfl
    have g1 : W6.cell? ⟨w.heap.size + 1, 1, none⟩ = some (.int .i64 s.vote) := cell_of HS6.out.1 rfl
    have g2 : W6.cell? ⟨w.heap.size + 1, 2, none⟩ = some (.int .i64 s.base) := cell_of HS6.out.1 rfl
    have g3 : W6.cell? ⟨w.heap.size + 1, 3, none⟩ = some (.int .i64 s.bterm) := cell_of HS6.out.1 rfl
    have g4 : W6.cell? ⟨w.heap.size + 1, 4, none⟩ = some (.slice lo s.log.length lc) := cell_of HS6.out.1 rfl
    have g5 : W6.cell? ⟨w.heap.size + 1, 5, none⟩ = some (.int .i64 good) := cell_of HS6.out.1 rfl
    exact bodyPost_ret (v := .tuple #[.agg #[.int .i64 s.term, .int .i64 s.vote, .int .i64 s.base, .int .i64 s.bterm, .slice lo s.log.length lc, .int .i64 good], .bool false]) (by simp [results, Try.results78, go_sem, g0, g1, g2, g3, g4, g5]) rfl ⟨TB.done HT5.out HS6.out.2, .inl ⟨HN.out, rfl⟩⟩
  by_cases h4 : 100 < Bn - s.base
  · have HN : Hid (takeS s p = none) := by
      rw [HTS.out]
      split
      · exact hide rfl
      · unfold fitE; rw [if_pos (.inr (.inr (by omega)))]; exact hide rfl
    clear HTS
    go_wp2
    have HS6 := hide (six_sets HT5.out.an (.int .i64 s.term) (.int .i64 s.vote) (.int .i64 s.base) (.int .i64 s.bterm) (.slice lo s.log.length lc) (.int .i64 good))
    generalize ((((((w5.setCell ⟨w.heap.size + 1, 0, none⟩ (.int .i64 s.term)).setCell ⟨w.heap.size + 1, 1, none⟩ (.int .i64 s.vote)).setCell ⟨w.heap.size + 1, 2, none⟩ (.int .i64 s.base)).setCell ⟨w.heap.size + 1, 3, none⟩ (.int .i64 s.bterm)).setCell ⟨w.heap.size + 1, 4, none⟩ (.slice lo s.log.length lc)).setCell ⟨w.heap.size + 1, 5, none⟩ (.int .i64 good)) = W6 at HS6 ⊢
    have g0 : W6.cell? ⟨w.heap.size + 1, 0, none⟩ = some (.int .i64 s.term) := cell_of HS6.out.1 rfl
    have g1 : W6.cell? ⟨w.heap.size + 1, 1, none⟩ = some (.int .i64 s.vote) := cell_of HS6.out.1 rfl
    have g2 : W6.cell? ⟨w.heap.size + 1, 2, none⟩ = some (.int .i64 s.base) := cell_of HS6.out.1 rfl
    have g3 : W6.cell? ⟨w.heap.size + 1, 3, none⟩ = some (.int .i64 s.bterm) := cell_of HS6.out.1 rfl
    have g4 : W6.cell? ⟨w.heap.size + 1, 4, none⟩ = some (.slice lo s.log.length lc) := cell_of HS6.out.1 rfl
    have g5 : W6.cell? ⟨w.heap.size + 1, 5, none⟩ = some (.int .i64 good) := cell_of HS6.out.1 rfl
    exact bodyPost_ret (v := .tuple #[.agg #[.int .i64 s.term, .int .i64 s.vote, .int .i64 s.base, .int .i64 s.bterm, .slice lo s.log.length lc, .int .i64 good], .bool false]) (by simp [results, Try.results78, go_sem, g0, g1, g2, g3, g4, g5]) rfl ⟨TB.done HT5.out HS6.out.2, .inl ⟨HN.out, rfl⟩⟩
  have HN : Hid (takeS s p = some { s with log := s.log.take ((Bn - s.base).toNat - 1) ++ [⟨A, Bn, restP p⟩] }) := by
    rw [HTS.out, if_neg (by omega)]
    unfold fitE
    rw [if_neg (by omega), show (Bn - s.base - 1).toNat = (Bn - s.base).toNat - 1 by omega]
    exact hide rfl
  clear HTS
  have HS5 := HT5.out.size
  have hst5 : w.heap.size < w5.heap.size := by omega
  have w5a2 : ∀ o, (w5.alloc o).cell? ⟨w.heap.size, 2, none⟩ = some (.int .i64 s.base) := fun o => (Below.cell ((Below.refl w5.heap.size w5).alloc (Nat.le_refl _) o) hst5).trans w5c2
  have w5a4 : ∀ o, (w5.alloc o).cell? ⟨w.heap.size, 4, none⟩ = some (.slice lo s.log.length lc) := fun o => (Below.cell ((Below.refl w5.heap.size w5).alloc (Nat.le_refl _) o) hst5).trans w5c4
  have HL7 : Hid (LogR (w5.alloc (.cells #[] 92)) (.slice lo s.log.length lc) s.log us) := HL5.out.below ((Below.refl w5.heap.size w5).alloc (Nat.le_refl _) _) (Nat.le_refl _)
  have hkl : (Bn - s.base).toNat - 1 ≤ s.log.length := by omega
  have hkb : (Bn - s.base).toNat - 1 ≤ 100 := by omega
  obtain ⟨news, hnl, hnc, hn1, hns⟩ := log_news HL7.out 0 ((Bn - s.base).toNat - 1) (by omega)
  have HNw := hide (And.intro hnl (And.intro hnc (And.intro hn1 hns)))
  have hS0 : (0 : Int) ≤ Bn - s.base - 1 := by omega
  have hSc : Bn - s.base - 1 ≤ (lc : Int) := by omega
  clear hnl hnc hn1 hns
  have HR7f : Hid (∀ w7 : World, Below w5.heap.size w5 w7 → RdA (w7.alloc (.cells #[] 5)) (.slice o5 n5 c5) (restP p)) := fun w7 B7 => HR.out.below (B7.alloc B7.size _) (Nat.le_refl _)
  have HLb : Hid (([] : List Int).length + (restP p).length ≤ 140737488355328) := by unfold Hid; rw [HLn.out]; simp; omega
  go_wp2_with (at_builtin; (first | (refine wpList_append_recs _ rfl _ _ rfl w5.heap.size _ 0 [] rfl (row_nil3 w5) _ _ _ rfl (fun e => by subst e; have := HL.out.nil _ _ rfl; omega) news HNw.out.1 (fun ad had j u hu => by have := HNw.out.2.1 ad had j u hu; rw [Nat.zero_mul, add_zero'] at this; exact this) HNw.out.2.2.1 (by omega) (by simp) ?_; intro v7 w7 hown7 hgrow7; have HO7 := hide (row_zero hown7); have HB7 := hide (grown_new hgrow7); clear hown7 hgrow7) | (refine wpList_append_rd _ rfl _ _ 22 rfl Try.underlying22 info5 w7.heap.size _ [] rfl (empty_own w7) _ (restP p) rfl (HR7f.out w7 HB7.out) HLb.out (by simp) ?_; intro v8 w8 hown8 hgrow8; obtain ⟨o8, n8, c8, e8, hn8⟩ := bytes_form hown8; subst e8; have HN8 := hide hn8; clear hn8; have HO8 := hide (own_nil hown8); have HB8 := hide (grown_new hgrow8); clear hown8 hgrow8) | ((refine wpList_append_recs _ rfl _ _ rfl w5.heap.size _ ((Bn - s.base).toNat - 1) news rfl (row_up HO7.out HB8.out _) (some ⟨w8.heap.size, 0, none⟩) 1 1 rfl (fun e => by simp at e) [.int .i64 A, .int .i64 Bn, .slice o8 n8 c8] rfl (fun ad had => by simp only [Option.some.injEq] at had; subst had; exact fite.cell_three_new _ _ _ _ _) (by intro u hu; simp at hu; rcases hu with rfl | rfl | rfl <;> rfl) (by omega) (size_up HB7.out HB8.out _) ?_); intro v9 w9 hown9 hgrow9; obtain ⟨o9, c9, rfl⟩ := row_form hown9; have HT9 := hide (tb_up HT5.out HB7.out HB8.out HO7.out hgrow9); have HO9 := hide (And.intro hown9 hgrow9); clear hown9 hgrow9; have w9c0 : w9.cell? ⟨w.heap.size, 0, none⟩ = some (.int .i64 s.term) := cell_of HT9.out.st rfl; have w9c1 : w9.cell? ⟨w.heap.size, 1, none⟩ = some (.int .i64 s.vote) := cell_of HT9.out.st rfl; have w9c2 : w9.cell? ⟨w.heap.size, 2, none⟩ = some (.int .i64 s.base) := cell_of HT9.out.st rfl; have w9c3 : w9.cell? ⟨w.heap.size, 3, none⟩ = some (.int .i64 s.bterm) := cell_of HT9.out.st rfl; have w9c4 : w9.cell? ⟨w.heap.size, 4, none⟩ = some (.slice lo s.log.length lc) := cell_of HT9.out.st rfl; have w9c5 : w9.cell? ⟨w.heap.size, 5, none⟩ = some (.int .i64 good) := cell_of HT9.out.st rfl; have w9f := frozen_of HT9.out.st; have w9g := frozen_of HT9.out.an; have w9e0 : w9.cell? ⟨w.heap.size + 1, 0, none⟩ = some (.int .i64 0) := cell_of HT9.out.an rfl; have w9e1 : w9.cell? ⟨w.heap.size + 1, 1, none⟩ = some (.int .i64 0) := cell_of HT9.out.an rfl; have w9e2 : w9.cell? ⟨w.heap.size + 1, 2, none⟩ = some (.int .i64 0) := cell_of HT9.out.an rfl; have w9e3 : w9.cell? ⟨w.heap.size + 1, 3, none⟩ = some (.int .i64 0) := cell_of HT9.out.an rfl; have w9e4 : w9.cell? ⟨w.heap.size + 1, 4, none⟩ = some (.slice none 0 0) := cell_of HT9.out.an rfl; have w9e5 : w9.cell? ⟨w.heap.size + 1, 5, none⟩ = some (.int .i64 0) := cell_of HT9.out.an rfl)))
  · obtain rfl : n8 = n5 := by rw [← HLn.out]; exact HN8.out
    have HFin : Hid (∀ X, w9.grownBy X (some w.heap.size) → ∀ W9 : World, X.grownBy W9 (some (w.heap.size + 1)) → Below w.heap.size w W9 → LogR W9 (.slice o9 ((Bn - s.base).toNat - 1 + 1) c9) (s.log.take ((Bn - s.base).toNat - 1) ++ [⟨A, Bn, restP p⟩]) (us.take ((Bn - s.base).toNat - 1) ++ [.slice o8 n8 c8])) := fun X hg W9 hg9 hb9 => by
      have ho9 := row_kept (row_kept HO9.out.1 hg (by omega)) hg9 (by omega)
      have hlen : (s.log.take ((Bn - s.base).toNat - 1) ++ [(⟨A, Bn, restP p⟩ : Rec3)]).length = (Bn - s.base).toNat - 1 + 1 := by simp; omega
      have hown8 : Own w9 w7.heap.size (.slice o8 n8 c8) (restP p) := fits.own_keptR (HO8.out.below ((Below.refl w8.heap.size w8).alloc (Nat.le_refl _) _) (Nat.le_refl _)) HO9.out.2 (fun k hk e => by
        have h1 := (HO8.out.lt k hk).1
        have h2 := (World.ownsRow.lt HO7.out k e).2
        omega)
      have hd9 : RdA W9 (.slice o8 n8 c8) (restP p) := Own.rdA (fits.own_keptR (fits.own_keptR hown8 hg (fun k hk e => by
        simp only [Option.some.injEq] at e
        have h1 := (HO8.out.lt k hk).1
        have := HB7.out.size
        omega)) hg9 (fun k hk e => by
        simp only [Option.some.injEq] at e
        have h1 := (HO8.out.lt k hk).1
        have := HB7.out.size
        omega))
      refine recs_of_row (by rw [hlen]; exact ho9) (by simp [HL.out.rd.len]) ?_ (fun q hq => ?_)
      · rw [hlen]
        exact Says.append (HNw.out.2.2.2) HNw.out.1 hkl HL.out.rd.len rfl
      · rw [hlen] at hq
        have hlu := HL.out.rd.len
        by_cases e : q < (Bn - s.base).toNat - 1
        · have e1 : (s.log.take ((Bn - s.base).toNat - 1) ++ [(⟨A, Bn, restP p⟩ : Rec3)]).getD q zRec = s.log.getD q zRec := by
            simp only [List.getD_eq_getElem?_getD]
            rw [List.getElem?_append_left (by simp; omega), List.getElem?_take, if_pos e]
          have e2 : (us.take ((Bn - s.base).toNat - 1) ++ [Value.slice o8 n8 c8]).getD q (.slice none 0 0) = us.getD q (.slice none 0 0) := by
            simp only [List.getD_eq_getElem?_getD]
            rw [List.getElem?_append_left (by simp; omega), List.getElem?_take, if_pos e]
          rw [e1, e2]
          exact (HL.out.rd.each q (by omega)).below hb9 (Nat.le_refl _)
        · obtain rfl : q = (Bn - s.base).toNat - 1 := by omega
          have hl1 : (s.log.take ((Bn - s.base).toNat - 1)).length = (Bn - s.base).toNat - 1 := by simp; omega
          have hl2 : (us.take ((Bn - s.base).toNat - 1)).length = (Bn - s.base).toNat - 1 := by simp; omega
          have e1 : (s.log.take ((Bn - s.base).toNat - 1) ++ [(⟨A, Bn, restP p⟩ : Rec3)]).getD ((Bn - s.base).toNat - 1) zRec = ⟨A, Bn, restP p⟩ := by
            simp only [List.getD_eq_getElem?_getD]
            rw [List.getElem?_append_right (by omega), hl1]; simp
          have e2 : (us.take ((Bn - s.base).toNat - 1) ++ [Value.slice o8 n8 c8]).getD ((Bn - s.base).toNat - 1) (.slice none 0 0) = .slice o8 n8 c8 := by
            simp only [List.getD_eq_getElem?_getD]
            rw [List.getElem?_append_right (by omega), hl2]; simp
          rw [e1, e2]
          exact hd9
    have hgX : w9.grownBy (w9.setCell ⟨w.heap.size, 4, none⟩ (.slice o9 ((Bn - s.base).toNat - 1 + 1) c9)) (some w.heap.size) := set_grown _ _ _ _
    have HX : Hid (TB w (w9.setCell ⟨w.heap.size, 4, none⟩ (.slice o9 ((Bn - s.base).toNat - 1 + 1) c9)) { s with log := s.log.take ((Bn - s.base).toNat - 1) ++ [⟨A, Bn, restP p⟩] } (.slice o9 ((Bn - s.base).toNat - 1 + 1) c9) good) := hide (HT9.out.set 4 (.slice o9 ((Bn - s.base).toNat - 1 + 1) c9) rfl)
    have HS6 := hide (six_sets HX.out.an (.int .i64 s.term) (.int .i64 s.vote) (.int .i64 s.base) (.int .i64 s.bterm) (.slice o9 ((Bn - s.base).toNat - 1 + 1) c9) (.int .i64 good))
    generalize (((((((w9.setCell ⟨w.heap.size, 4, none⟩ (.slice o9 ((Bn - s.base).toNat - 1 + 1) c9)).setCell ⟨w.heap.size + 1, 0, none⟩ (.int .i64 s.term)).setCell ⟨w.heap.size + 1, 1, none⟩ (.int .i64 s.vote)).setCell ⟨w.heap.size + 1, 2, none⟩ (.int .i64 s.base)).setCell ⟨w.heap.size + 1, 3, none⟩ (.int .i64 s.bterm)).setCell ⟨w.heap.size + 1, 4, none⟩ (.slice o9 ((Bn - s.base).toNat - 1 + 1) c9)).setCell ⟨w.heap.size + 1, 5, none⟩ (.int .i64 good)) = W6 at HS6 ⊢
    have g0 : W6.cell? ⟨w.heap.size + 1, 0, none⟩ = some (.int .i64 s.term) := cell_of HS6.out.1 rfl
    have g1 : W6.cell? ⟨w.heap.size + 1, 1, none⟩ = some (.int .i64 s.vote) := cell_of HS6.out.1 rfl
    have g2 : W6.cell? ⟨w.heap.size + 1, 2, none⟩ = some (.int .i64 s.base) := cell_of HS6.out.1 rfl
    have g3 : W6.cell? ⟨w.heap.size + 1, 3, none⟩ = some (.int .i64 s.bterm) := cell_of HS6.out.1 rfl
    have g4 : W6.cell? ⟨w.heap.size + 1, 4, none⟩ = some (.slice o9 ((Bn - s.base).toNat - 1 + 1) c9) := cell_of HS6.out.1 rfl
    have g5 : W6.cell? ⟨w.heap.size + 1, 5, none⟩ = some (.int .i64 good) := cell_of HS6.out.1 rfl
    exact bodyPost_ret (v := .tuple #[.agg #[.int .i64 s.term, .int .i64 s.vote, .int .i64 s.base, .int .i64 s.bterm, .slice o9 ((Bn - s.base).toNat - 1 + 1) c9, .int .i64 good], .bool true]) (by simp [results, Try.results78, go_sem, g0, g1, g2, g3, g4, g5]) rfl ⟨TB.done HX.out HS6.out.2, .inr ⟨_, o9, _, c9, us.take ((Bn - s.base).toNat - 1) ++ [.slice o8 n8 c8], HN.out, rfl, HFin.out _ hgX _ HS6.out.2 (TB.done HX.out HS6.out.2), fun b hb2 hf => ⟨fun e => by have := (World.ownsRow.lt HO9.out.1 b e).1; omega, fun u hu => by
        rcases List.mem_append.1 hu with hu | hu
        · exact hf.2 u (List.mem_of_mem_take hu)
        · simp only [List.mem_singleton] at hu; subst hu; intro e; have h1 := (HO8.out.lt b e).1; have h2 := HB7.out.size; omega⟩⟩⟩
end Go.Proofs.Ytipcdioolafkpaa.takesp

/- A state of a log is drawn. -/
import Derived.Test.YtipcdioolafkpaaDrawsEx
import Derived.Test.YtipcdioolafkpaaTakeSp
import Derived.Test.YtipcdioolafkpaaLists
namespace Go.Proofs.Ytipcdioolafkpaa.waldraw
open Go.ChangeShapes Go.WideShapes Go.ChangeAt Go.RowKit
open Go.Proofs.Ytipcdioolafkpaa.bytes Go.Proofs.Ytipcdioolafkpaa.put Go.Proofs.Ytipcdioolafkpaa.pile Go.Proofs.Ytipcdioolafkpaa.join Go.Proofs.Ytipcdioolafkpaa.frames Go.Proofs.Ytipcdioolafkpaa.reader Go.Proofs.Ytipcdioolafkpaa.one Go.Proofs.Ytipcdioolafkpaa.many Go.Proofs.Ytipcdioolafkpaa.draws Go.Proofs.Ytipcdioolafkpaa.payloads Go.Proofs.Ytipcdioolafkpaa.bytefn
open Go.Proofs.Ytipcdioolafkpaa.drawsfn Go.Proofs.Ytipcdioolafkpaa.drawsex Go.Proofs.Ytipcdioolafkpaa.recrows Go.Proofs.Ytipcdioolafkpaa.rechelp Go.Proofs.Ytipcdioolafkpaa.pays Go.Proofs.Ytipcdioolafkpaa.recov Go.Proofs.Ytipcdioolafkpaa.fits Go.Proofs.Ytipcdioolafkpaa.goesalong Go.Proofs.Ytipcdioolafkpaa.logcells Go.Proofs.Ytipcdioolafkpaa.recoveri Go.Proofs.Ytipcdioolafkpaa.takesp
set_option linter.unusedVariables false

/-- A drawn record at place k. -/
def recDr (r : Rec3) (k : Nat) : Prop := (0 ≤ r.t ∧ r.t ≤ 3) ∧ r.i = (k : Int) + 1 ∧ r.d.length ≤ 5
/-- The state while it is drawn: the source, the answer's block, the state's. -/
structure LW (w0 wr : World) (d X : Nat) (ao : Option Addr) (cap : Nat) (xs : List Int) (T V : Int) (lv : Value) (rl : List Rec3) (us : List Value) (a : Nat) (sd : Int) : Prop where
  ss : SS wr d ao cap xs a sd
  an : wr.heap[w0.heap.size]? = some (.cells #[.int .i64 0, .int .i64 0, .int .i64 0, .int .i64 0, .slice none 0 0, .int .i64 0] 52 (0, 0))
  st : wr.heap[X]? = some (.cells #[.int .i64 T, .int .i64 V, .int .i64 0, .int .i64 0, lv, .int .i64 0] 52 (0, 0))
  row : ∃ cs, wr.ownsRow (X + 1) 92 3 lv rl.length cs ∧ Says cs rl us 0 rl.length
  each : ∀ k, k < rl.length → Own wr (X + 1) (us.getD k (.slice none 0 0)) (rl.getD k zRec).d
  len : us.length = rl.length
  gr : w0.grownBy wr (some d)
  ok : ∀ k, k < rl.length → recDr (rl.getD k zRec) k
  dB : d < w0.heap.size
  hX : w0.heap.size < X
  xf : 0 < xs.length → ∀ x, ao = some x → x.block < w0.heap.size
theorem LW.draw {{w0 wr : World}} {{d X : Nat}} {{ao : Option Addr}} {{cap : Nat}} {{xs : List Int}} {{T V : Int}} {{lv : Value}} {{rl : List Rec3}} {{us : List Value}} {{a : Nat}} {{sd : Int}} {w2 : World} {a2 : Nat} {sd2 : Int} (h : LW w0 wr d X ao cap xs T V lv rl us a sd) (hg : wr.grownBy w2 (some d)) (hs : SS w2 d ao cap xs a2 sd2) : LW w0 w2 d X ao cap xs T V lv rl us a2 sd2 where
  ss := hs
  an := (hg.block _ (Array.getElem?_eq_some_iff.1 h.an).1 (by have := h.dB; simp; omega)).trans h.an
  st := (hg.block _ (Array.getElem?_eq_some_iff.1 h.st).1 (by have := h.dB; have := h.hX; simp; omega)).trans h.st
  row := by
    obtain ⟨cs, h1, h2⟩ := h.row
    exact ⟨cs, row_kept h1 hg (by have := h.dB; have := h.hX; omega), h2⟩
  each := fun k hk => own_keptR (h.each k hk) hg (fun j hj e => by simp only [Option.some.injEq] at e; have := ((h.each k hk).lt j hj).1; have := h.dB; have := h.hX; omega)
  len := h.len
  gr := grown_trans h.gr hg
  ok := h.ok
  dB := h.dB
  hX := h.hX
  xf := h.xf
theorem LW.cell {{w0 wr : World}} {{d X : Nat}} {{ao : Option Addr}} {{cap : Nat}} {{xs : List Int}} {{T V : Int}} {{lv : Value}} {{rl : List Rec3}} {{us : List Value}} {{a : Nat}} {{sd : Int}} (h : LW w0 wr d X ao cap xs T V lv rl us a sd) : wr.cell? ⟨X, 4, none⟩ = some lv ∧ wr.frozen? ⟨X, 4, none⟩ = false ∧ X < wr.heap.size := ⟨cell_of h.st rfl, frozen_of h.st 4, (Array.getElem?_eq_some_iff.1 h.st).1⟩
theorem LW.drew {{w0 wr : World}} {{d X : Nat}} {{ao : Option Addr}} {{cap : Nat}} {{xs : List Int}} {{T V : Int}} {{lv : Value}} {{rl : List Rec3}} {{us : List Value}} {{a : Nat}} {{sd : Int}} (h : LW w0 wr d X ao cap xs T V lv rl us a sd) : LW w0 wr.drew d X ao cap xs T V lv rl us a sd :=
  h.draw (fits.drew_grown wr 1 (some d)) (h.ss.below ⟨rfl, rfl, rfl, Nat.le_refl _, fun _ _ => rfl⟩)
theorem typed3 {w : World} {base n : Nat} {v : Value} {cs : List Value} (h : w.ownsRow base 92 3 v n cs) {g : Nat} (hg : v.ownBlock = some g) : ∃ cur, w.heap[g]? = some (.cells cur 92 (0, 0)) := by
  rcases h.2 with ⟨rfl, _⟩ | ⟨k, cap, cur, rfl, _, hk, _⟩
  · simp [Value.ownBlock] at hg
  · simp only [Value.ownBlock, Option.some.injEq] at hg
    subst hg
    exact ⟨cur, hk⟩
/-- A record is put behind the others. -/
theorem LW.push {{w0 wr : World}} {{d X : Nat}} {{ao : Option Addr}} {{cap : Nat}} {{xs : List Int}} {{T V : Int}} {{lv : Value}} {{rl : List Rec3}} {{us : List Value}} {{a : Nat}} {{sd : Int}} {w9 : World} {r : Int} {u : Value} {ys : List Int} {g cap9 : Nat} {cs : List Value} {o : Obj} (h : LW w0 wr d X ao cap xs T V lv rl us a sd) (hr : 0 ≤ r ∧ r ≤ 3) (hy : ys.length ≤ 5) (hu : Own wr (X + 1) u ys)
    (h1 : wr.ownsRow (X + 1) 92 3 lv rl.length cs) (h2 : Says cs rl us 0 rl.length) (hown : w9.ownsRow (X + 1) 92 3 (.slice (some ⟨g, 0, none⟩) (rl.length + 1) cap9) (rl.length + 1) (cs ++ [.int .i64 r, .int .i64 ((rl.length : Int) + 1), u])) (hgrow : (wr.alloc o).grownBy w9 lv.ownBlock) :
    LW w0 (w9.setCell ⟨X, 4, none⟩ (.slice (some ⟨g, 0, none⟩) (rl.length + 1) cap9)) d X ao cap xs T V (.slice (some ⟨g, 0, none⟩) (rl.length + 1) cap9) (rl ++ [⟨r, (rl.length : Int) + 1, ys⟩]) (us ++ [u]) a sd := by
  have hg : wr.grownBy w9 lv.ownBlock := grown_trans (World.grownBy_alloc wr o _) hgrow
  have hlow : ∀ k, lv.ownBlock = some k → X + 1 ≤ k := fun k hk => (World.ownsRow.lt h1 k hk).1
  have hd := h.dB
  have hX := h.hX
  have hs := fits.set_grown w9 X 4 (.slice (some ⟨g, 0, none⟩) (rl.length + 1) cap9)
  have hkeep : ∀ {x : Value} {zs : List Int}, Own wr (X + 1) x zs → Own (w9.setCell ⟨X, 4, none⟩ (.slice (some ⟨g, 0, none⟩) (rl.length + 1) cap9)) (X + 1) x zs := fun {x zs} ho => by
    have o9 : Own w9 (X + 1) x zs := own_kept ho hg (by
      cases hv : x.ownBlock with
      | none => exact .inl rfl
      | some k =>
        refine .inr fun e => ?_
        obtain ⟨c1, k1⟩ := rechelp.own_typed ho.2 hv
        obtain ⟨c2, k2⟩ := typed3 h1 e.symm
        rw [k1] at k2
        simp at k2)
    exact own_keptR o9 hs (fun j hj e => by simp only [Option.some.injEq] at e; have := (o9.lt j hj).1; omega)
  have s9 : SS w9 d ao cap xs a sd := SS.grown h.ss hg (fun e => by have := hlow _ e; omega) (fun hp x hx e => by have := hlow _ e; have := h.xf hp x hx; omega)
  have hst9 : w9.heap[X]? = some (.cells #[.int .i64 T, .int .i64 V, .int .i64 0, .int .i64 0, lv, .int .i64 0] 52 (0, 0)) := (hg.block _ (Array.getElem?_eq_some_iff.1 h.st).1 (fun e => by have := hlow _ e.symm; omega)).trans h.st
  refine ⟨SS.grown s9 hs (by simp; omega) (fun hp x hx => by have := h.xf hp x hx; simp; omega), ?_, set_at hst9 4 _ rfl, ⟨cs ++ [.int .i64 r, .int .i64 ((rl.length : Int) + 1), u], ?_, ?_⟩, fun k hk => ?_, by simp [h.len], ?_, fun k hk => ?_, hd, hX, h.xf⟩
  · rw [heap_setCell_other w9 ⟨X, 4, none⟩ _ _ (by simp; omega), hg.block _ (Array.getElem?_eq_some_iff.1 h.an).1 (fun e => by have := hlow _ e.symm; omega)]
    exact h.an
  · rw [List.length_append]
    exact row_kept hown hs (by omega)
  · have := Says.append (k := rl.length) (r := ⟨r, (rl.length : Int) + 1, ys⟩) (u := u) h2 h1.1 (Nat.le_refl _) h.len rfl
    rw [List.take_length, show us.take rl.length = us by rw [← h.len]; exact List.take_length] at this
    rw [List.length_append]
    exact this
  · by_cases e : k < rl.length
    · have e1 : (rl ++ [(⟨r, (rl.length : Int) + 1, ys⟩ : Rec3)]).getD k zRec = rl.getD k zRec := by simp [List.getD_eq_getElem?_getD, List.getElem?_append_left e]
      have e2 : (us ++ [u]).getD k (.slice none 0 0) = us.getD k (.slice none 0 0) := by simp [List.getD_eq_getElem?_getD, List.getElem?_append_left (h.len ▸ e)]
      rw [e1, e2]
      exact hkeep (h.each k e)
    · have hk' : k = rl.length := by simp at hk; omega
      subst hk'
      have e1 : (rl ++ [(⟨r, (rl.length : Int) + 1, ys⟩ : Rec3)]).getD rl.length zRec = ⟨r, (rl.length : Int) + 1, ys⟩ := by simp [List.getD_eq_getElem?_getD]
      have e2 : (us ++ [u]).getD rl.length (.slice none 0 0) = u := by rw [← h.len]; simp [List.getD_eq_getElem?_getD]
      rw [e1, e2]
      exact hkeep hu
  · have h0 := h.gr
    have hgs := hg.size
    have hsz := h0.size
    refine ⟨hs.os.trans (hg.os.trans h0.os), hs.tape.trans (hg.tape.trans h0.tape), hs.output.trans (hg.output.trans h0.output), Nat.le_trans h0.size (Nat.le_trans hg.size hs.size), fun k hk hn => ?_⟩
    rw [hs.block k (by omega) (by simp; omega), hg.block k (by omega) (fun e => by have := hlow k e.symm; omega)]
    exact h0.block k hk hn
  · by_cases e : k < rl.length
    · have e1 : (rl ++ [(⟨r, (rl.length : Int) + 1, ys⟩ : Rec3)]).getD k zRec = rl.getD k zRec := by simp [List.getD_eq_getElem?_getD, List.getElem?_append_left e]
      rw [e1]
      exact h.ok k e
    · have hk' : k = rl.length := by simp at hk; omega
      subst hk'
      have e1 : (rl ++ [(⟨r, (rl.length : Int) + 1, ys⟩ : Rec3)]).getD rl.length zRec = ⟨r, (rl.length : Int) + 1, ys⟩ := by simp [List.getD_eq_getElem?_getD]
      rw [e1]
      exact ⟨hr, rfl, hy⟩
/-- What is drawn. -/
def WalE (w0 : World) (d : Nat) (e : Ending) (w' : World) : Prop := ∃ (T V : Int) (o : Option Addr) (n c : Nat) (rl : List Rec3) (us : List Value), e = .returned (.agg #[.int .i64 T, .int .i64 V, .int .i64 0, .int .i64 0, .slice o n c, .int .i64 0]) ∧ (0 ≤ T ∧ T ≤ 8) ∧ (0 ≤ V ∧ V ≤ 3) ∧ rl.length ≤ 6 ∧ (∀ k, k < rl.length → recDr (rl.getD k zRec) k) ∧ LogR w' (.slice o n c) rl us ∧ w0.grownBy w' (some d) ∧ ∀ b, b ≤ w0.heap.size → Far (.slice o n c) us b

set_option maxRecDepth 20000 in
set_option maxHeartbeats 4000000 in
theorem wal_any (w : World) (d : Nat) (ao : Option Addr) (cap : Nat) (xs : List Int) (sd : Int) (h : SS w d ao cap xs 0 sd) :
    Calls Try.prog 56 #[.pointer (some ⟨d, 0, none⟩)] w (WalE w d) := by
  obtain ⟨i0, hi, hz0, hz1, hz2⟩ := info_parts info43
  have HI : Hid (Try.prog.info? 92 = some i0 ∧ i0.zero = some (.agg #[.int .i64 0, .int .i64 0, .slice none 0 0]) ∧ i0.size = 3 ∧ i0.bytes = 40) := ⟨hi, hz0, hz1, hz2⟩
  clear hi hz0 hz1 hz2
  have HX : Hid (0 < xs.length → ∀ x, ao = some x → x.block < w.heap.size) := rd_lt h.data
  have hd := h.lt
  have hba : Below w.heap.size w (w.alloc (.cells #[.int .i64 0, .int .i64 0, .int .i64 0, .int .i64 0, .slice none 0 0, .int .i64 0] 52)) := (Below.refl _ _).alloc (Nat.le_refl _) _
  have HB := hide (next_gr _ d ao cap xs 0 sd 9 (by omega) (h.below hba) (by omega))
  clear h
  go_enter Try.func56, Try.ntmps56
  go_wp2_with fail
  refine HB.out.mono ?_
  rintro e w1 ⟨T, rfl, ⟨t0, t1⟩, a1, sd1, ha1, S1, K1⟩
  have HB2 := hide (next_gr _ d ao cap xs a1 sd1 4 (by omega) S1 (by omega))
  go_wp2_with fail
  refine HB2.out.mono ?_
  rintro e w2 ⟨V, rfl, ⟨v0, v1⟩, a2, sd2, ha2, S2, K2⟩
  have K12 : w.grownBy w2 (some d) := grown_trans (grown_trans (fits.alloc_grown _ _ _) K1) K2
  have hsz2 : w.heap.size < w2.heap.size := by have h1 := K1.size; have h2 := K2.size; simp at h1; omega
  have han2 : w2.heap[w.heap.size]? = some (.cells #[.int .i64 0, .int .i64 0, .int .i64 0, .int .i64 0, .slice none 0 0, .int .i64 0] 52 (0, 0)) := by
    rw [K2.block _ (by have := K1.size; simp at this; omega) (by simp; omega), K1.block _ (by simp) (by simp; omega)]
    exact heap_alloc_new w _
  have H3 : Hid (LW w (w2.alloc (.cells #[.int .i64 T, .int .i64 V, .int .i64 0, .int .i64 0, .slice none 0 0, .int .i64 0] 52)) d w2.heap.size ao cap xs T V (.slice none 0 0) [] [] a2 sd2) :=
    hide ⟨S2.below ((Below.refl _ _).alloc (Nat.le_refl _) _), by rw [Below.heap_alloc _ _ _ hsz2]; exact han2, heap_alloc_new w2 _, ⟨[], ⟨rfl, .inl ⟨rfl, rfl⟩⟩, fun q hq => by simp at hq⟩, fun k hk => by simp at hk, rfl, grown_trans K12 (fits.alloc_grown _ _ _), fun k hk => by simp at hk, hd, hsz2, HX.out⟩
  have HB3 := hide (size_gr _ d ao cap xs a2 sd2 H3.out.ss 6 ⟨by omega, by omega⟩)
  clear S1 K1 S2 K2 K12 han2 HB HB2 hba
  go_wp2_with fail
  refine HB3.out.mono ?_
  rintro e w4 ⟨q, rfl, q1, q6, m, rfl⟩
  have H4 : Hid (LW w ((w2.alloc (.cells #[.int .i64 T, .int .i64 V, .int .i64 0, .int .i64 0, .slice none 0 0, .int .i64 0] 52)).drewN m) d w2.heap.size ao cap xs T V (.slice none 0 0) [] [] a2 sd2) := hide (H3.out.draw (fits.drew_grown _ m (some d)) (H3.out.ss.below ⟨rfl, rfl, rfl, Nat.le_refl _, fun _ _ => rfl⟩))
  have HB4 := hide (next_gr _ d ao cap xs a2 sd2 (q + 1) (by omega) H4.out.ss (by omega))
  clear H3 HB3
  go_wp2_with fail
  refine HB4.out.mono ?_
  rintro e w5 ⟨R, rfl, ⟨r0, r1⟩, a5, sd5, ha5, S5, K5⟩
  have H5 := hide (H4.out.draw K5 S5)
  obtain ⟨R, rfl⟩ := Int.eq_ofNat_of_zero_le r0
  have hR : R ≤ 6 := by omega
  clear H4 HB4 S5 K5 r0 r1
  generalize w2.heap.size = X at H5
  go_wp2
  go_loopw [4] (fun i wr => ∃ (k : Nat) (lo : Option Addr) (lc : Nat) (rl : List Rec3) (us : List Value) (a : Nat) (sd' : Int), i = .int .i64 k ∧ k + rl.length ≤ 6 ∧ a + 10 * k ≤ 100 ∧ Hid (LW w wr d X ao cap xs T V (.slice lo rl.length lc) rl us a sd')) (fun i _ => (intOf i).toNat)
  case atStart => exact ⟨R, none, 0, [], [], a5, sd5, rfl, by simpa using hR, by omega, H5⟩
  case round =>
    obtain ⟨k, lo, lc, rl, us, a, sd', rfl, hk, ha, HR⟩ := hrel
    clear H5
    by_cases hk0 : (0 : Int) < k
    · obtain ⟨k', rfl⟩ : ∃ k', k = k' + 1 := ⟨k - 1, by omega⟩
      obtain ⟨cl, fl, xl⟩ := HR.out.cell
      have HN1 : Hid (Calls Try.prog 37 #[.pointer (some ⟨d, 0, none⟩), .int .i64 4] wr.drew fun e w' => ∃ r a4 sd4, e = .returned (.int .i64 r) ∧ Hid ((0 ≤ r ∧ r ≤ 3) ∧ a4 ≤ a + 1 ∧ LW w w' d X ao cap xs T V (.slice lo rl.length lc) rl us a4 sd4) ∧ w'.cell? ⟨X, 4, none⟩ = some (.slice lo rl.length lc)) := by
        refine (next_gr _ d ao cap xs a sd' 4 (by omega) HR.out.drew.ss (by omega)).mono ?_
        rintro e w' ⟨r, rfl, ⟨r0, r1⟩, a4, sd4, ha4, S4, K4⟩
        have h4 := HR.out.drew.draw K4 S4
        exact ⟨r, a4, sd4, rfl, hide ⟨by omega, ha4, h4⟩, h4.cell.1⟩
      have HN2 : Hid (∀ (w4 : World) (r : Int) (a4 : Nat) (sd4 : Int), Hid ((0 ≤ r ∧ r ≤ 3) ∧ a4 ≤ a + 1 ∧ LW w w4 d X ao cap xs T V (.slice lo rl.length lc) rl us a4 sd4) → Calls Try.prog 39 #[.pointer (some ⟨d, 0, none⟩), .int .i64 5] w4 fun e w' => ∃ o n c ys a5 sd5 cs, e = .returned (.slice o n c) ∧ Hid (((0 ≤ r ∧ r ≤ 3) ∧ a5 ≤ a + 8 ∧ LW w w' d X ao cap xs T V (.slice lo rl.length lc) rl us a5 sd5) ∧ ys.length ≤ 5 ∧ Own w' (X + 1) (.slice o n c) ys ∧ w'.ownsRow (X + 1) 92 3 (.slice lo rl.length lc) rl.length cs ∧ Says cs rl us 0 rl.length) ∧ w'.cell? ⟨X, 4, none⟩ = some (.slice lo rl.length lc) ∧ w'.frozen? ⟨X, 4, none⟩ = false ∧ X < w'.heap.size) := fun w4 r a4 sd4 H => by
        refine (bytes_gr w4 d ao cap xs a4 sd4 5 (by omega) H.out.2.2.ss (by have := H.out.2.1; omega)).mono ?_
        rintro e w' ⟨v, rfl, ys, a5, sd5, O5, hy5, ha5, S5, K5⟩
        have h5 := H.out.2.2.draw K5 S5
        obtain ⟨o, c, e5, _⟩ := O5.rd
        subst e5
        obtain ⟨cs, hrow, hcs⟩ := h5.row
        exact ⟨o, _, c, ys, a5, sd5, cs, rfl, hide ⟨⟨H.out.1, by have := H.out.2.1; omega, h5⟩, hy5, O5.mono H.out.2.2.cell.2.2, hrow, hcs⟩, h5.cell⟩
      have hl6 : rl.length ≤ 6 := by omega
      have hwr : IntKind.i64.wrap ((rl.length : Int) + 1) = (rl.length : Int) + 1 := by rw [IntKind.wrap_i64]; omega
      go_wp2
      go_region_law (first | ((try go_simp); go_at_call 37; refine HN1.out.mono ?_; rintro e w4 ⟨r4, a4, sd4, rfl, H4, c4⟩) | ((try go_simp); go_at_call 39; refine (HN2.out _ _ _ _ H4).mono ?_; rintro e w5 ⟨o5, n5, c5, ys5, a5, sd5, cs5, rfl, H5, c55, f55, x55⟩) | (refine step_append_lies _ rfl _ _ 50 rfl (X + 1) 92 i0 (.agg #[.int .i64 0, .int .i64 0, .slice none 0 0]) 3 40 Try.underlying50 HI.out.1 HI.out.2.1 HI.out.2.2.1 HI.out.2.2.2 rfl (by decide) (.slice lo rl.length lc) rl.length cs5 rfl (H5.out.2.2.2.1.alloc _) ⟨w5.heap.size, 0, none⟩ 1 1 [.int .i64 r4, .int .i64 ((rl.length : Int) + 1), .slice o5 n5 c5] rfl rfl (fite.cell_three_new _ _ _ _ _) (by intro u hu; simp at hu; rcases hu with rfl | rfl | rfl <;> rfl) (by decide) (by unfold maxLen; omega) (by omega) (by simp; omega) (w5.heap.size + 1) (by simp) ?_; intro g cap9 w9 hown hgrow hat hlt; have hb9 : w9.heap[X]? = w5.heap[X]? := (hgrow.block X (by simp; omega) (fun e => by have := (World.ownsRow.lt H5.out.2.2.2.1 X e.symm).1; omega)).trans (Below.heap_alloc w5 _ X x55); have hc9 : w9.cell? ⟨X, 4, none⟩ = some (.slice lo rl.length lc) := (World.cell?_of_block hb9).trans c55; have hf9 : w9.frozen? ⟨X, 4, none⟩ = false := (World.frozen?_of_block hb9).trans f55; clear hb9))
      all_goals
        have HF := hide (H5.out.1.2.2.push H5.out.1.1 H5.out.2.1 H5.out.2.2.1 H5.out.2.2.2.1 H5.out.2.2.2.2 hown hgrow)
        have ha5 := H5.out.1.2.1
        clear hown hgrow hat hc9 hf9 H5 H4 HN1 HN2
        go_wp2
        go_roundw
        case rel => exact ⟨k', some ⟨g, 0, none⟩, cap9, rl ++ [⟨r4, (rl.length : Int) + 1, ys5⟩], us ++ [.slice o5 n5 c5], a5, sd5, by go_num, by rw [List.length_append]; show k' + (rl.length + 1) ≤ 6; omega, by omega, hide (by rw [List.length_append]; exact HF.out)⟩
        case measure => simp [intOf]
    · have hk1 : k = 0 := by omega
      subst hk1
      obtain ⟨cs, hrow, hcs⟩ := HR.out.row
      have HLg : Hid (∀ W6, wr.grownBy W6 (some w.heap.size) → LogR W6 (.slice lo rl.length lc) rl us ∧ w.grownBy W6 (some d) ∧ ∀ b, b ≤ w.heap.size → Far (.slice lo rl.length lc) us b) := fun W6 hg => by
        have hXX := HR.out.hX
        have hfar : ∀ b, b ≤ w.heap.size → Far (.slice lo rl.length lc) us b := fun b hb => ⟨fun e => by have := (World.ownsRow.lt hrow b e).1; omega, fun u hu e => by
          obtain ⟨j, hj, rfl⟩ := List.getElem_of_mem hu
          have hj' : j < rl.length := by rw [← HR.out.len]; exact hj
          have ho := HR.out.each j hj'
          have e2 : us.getD j (.slice none 0 0) = us[j] := by simp [List.getD_eq_getElem?_getD, hj]
          rw [e2] at ho
          have := (ho.lt b e).1
          omega⟩
        have hl : LogR wr (.slice lo rl.length lc) rl us := recs_of_row hrow HR.out.len hcs (fun q hq => Own.rdA (HR.out.each q hq))
        refine ⟨hl.grown hg (hfar _ (Nat.le_refl _)), ?_, hfar⟩
        have h0 := HR.out.gr
        refine ⟨hg.os.trans h0.os, hg.tape.trans h0.tape, hg.output.trans h0.output, Nat.le_trans h0.size hg.size, fun k hk hn => (hg.block k (by have := h0.size; omega) (by simp; omega)).trans (h0.block k hk hn)⟩
      have HOk := hide HR.out.ok
      have han := hide HR.out.an
      have c0 : wr.cell? ⟨X, 0, none⟩ = some (.int .i64 T) := cell_of HR.out.st rfl
      have c1 : wr.cell? ⟨X, 1, none⟩ = some (.int .i64 V) := cell_of HR.out.st rfl
      have c2 : wr.cell? ⟨X, 2, none⟩ = some (.int .i64 0) := cell_of HR.out.st rfl
      have c3 : wr.cell? ⟨X, 3, none⟩ = some (.int .i64 0) := cell_of HR.out.st rfl
      have c4 : wr.cell? ⟨X, 4, none⟩ = some (.slice lo rl.length lc) := cell_of HR.out.st rfl
      have c5 : wr.cell? ⟨X, 5, none⟩ = some (.int .i64 0) := cell_of HR.out.st rfl
      have e0 : wr.cell? ⟨w.heap.size, 0, none⟩ = some (.int .i64 0) := cell_of HR.out.an rfl
      have e1 : wr.cell? ⟨w.heap.size, 1, none⟩ = some (.int .i64 0) := cell_of HR.out.an rfl
      have e2 : wr.cell? ⟨w.heap.size, 2, none⟩ = some (.int .i64 0) := cell_of HR.out.an rfl
      have e3 : wr.cell? ⟨w.heap.size, 3, none⟩ = some (.int .i64 0) := cell_of HR.out.an rfl
      have e4 : wr.cell? ⟨w.heap.size, 4, none⟩ = some (.slice none 0 0) := cell_of HR.out.an rfl
      have e5 : wr.cell? ⟨w.heap.size, 5, none⟩ = some (.int .i64 0) := cell_of HR.out.an rfl
      have fz := frozen_of HR.out.an
      have hne : w.heap.size ≠ X := by have := HR.out.hX; omega
      have hne2 : X ≠ w.heap.size := by have := HR.out.hX; omega
      clear hrow hcs
      go_wp2
      have HS6 := hide (six_sets han.out (.int .i64 T) (.int .i64 V) (.int .i64 0) (.int .i64 0) (.slice lo rl.length lc) (.int .i64 0))
      generalize ((((((wr.setCell ⟨w.heap.size, 0, none⟩ (.int .i64 T)).setCell ⟨w.heap.size, 1, none⟩ (.int .i64 V)).setCell ⟨w.heap.size, 2, none⟩ (.int .i64 0)).setCell ⟨w.heap.size, 3, none⟩ (.int .i64 0)).setCell ⟨w.heap.size, 4, none⟩ (.slice lo rl.length lc)).setCell ⟨w.heap.size, 5, none⟩ (.int .i64 0)) = W6 at HS6 ⊢
      have g0 : W6.cell? ⟨w.heap.size, 0, none⟩ = some (.int .i64 T) := cell_of HS6.out.1 rfl
      have g1 : W6.cell? ⟨w.heap.size, 1, none⟩ = some (.int .i64 V) := cell_of HS6.out.1 rfl
      have g2 : W6.cell? ⟨w.heap.size, 2, none⟩ = some (.int .i64 0) := cell_of HS6.out.1 rfl
      have g3 : W6.cell? ⟨w.heap.size, 3, none⟩ = some (.int .i64 0) := cell_of HS6.out.1 rfl
      have g4 : W6.cell? ⟨w.heap.size, 4, none⟩ = some (.slice lo rl.length lc) := cell_of HS6.out.1 rfl
      have g5 : W6.cell? ⟨w.heap.size, 5, none⟩ = some (.int .i64 0) := cell_of HS6.out.1 rfl
      exact bodyPost_ret (v := .agg #[.int .i64 T, .int .i64 V, .int .i64 0, .int .i64 0, .slice lo rl.length lc, .int .i64 0]) (by simp [results, Try.results56, go_sem, g0, g1, g2, g3, g4, g5]) rfl ⟨T, V, lo, _, lc, rl, us, rfl, by omega, by omega, by omega, HOk.out, HLg.out _ HS6.out.2⟩
end Go.Proofs.Ytipcdioolafkpaa.waldraw

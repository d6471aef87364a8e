/- The draw of acts as a function of the code. -/
import Derived.Test.YtipcdioolafkpaaDrawsFn
import Derived.Test.YtipcdioolafkpaaImplRun
import Derived.Deep.AppendLies
namespace Go.Proofs.Ytipcdioolafkpaa.actsfn
open Go.ChangeShapes Go.WideShapes Go.ChangeAt Go.RowKit
open Go.Proofs.Ytipcdioolafkpaa.bytes Go.Proofs.Ytipcdioolafkpaa.put Go.Proofs.Ytipcdioolafkpaa.pile Go.Proofs.Ytipcdioolafkpaa.join Go.Proofs.Ytipcdioolafkpaa.frames Go.Proofs.Ytipcdioolafkpaa.reader Go.Proofs.Ytipcdioolafkpaa.one Go.Proofs.Ytipcdioolafkpaa.many Go.Proofs.Ytipcdioolafkpaa.draws Go.Proofs.Ytipcdioolafkpaa.payloads Go.Proofs.Ytipcdioolafkpaa.bytefn Go.Proofs.Ytipcdioolafkpaa.drawsfn Go.Proofs.Ytipcdioolafkpaa.acts Go.Proofs.Ytipcdioolafkpaa.implrun Go.Proofs.Ytipcdioolafkpaa.disks
set_option linter.unusedVariables false

/-- An act is drawn: by the bytes and the number that were drawn ahead. -/
def act2 (xs ys : List Int) (s : Int × Nat × Int) : Act4 × Nat × Int :=
  if s.1 = 0 then (⟨2, 0, 0, []⟩, s.2) else if s.1 = 1 then (⟨2, 0, 0, []⟩, s.2)
  else if s.1 = 2 then (⟨3, (nextR 4 xs s.2.1 s.2.2).1, (nextR 6 xs (nextR 4 xs s.2.1 s.2.2).2.1 (nextR 4 xs s.2.1 s.2.2).2.2).1, []⟩, (nextR 6 xs (nextR 4 xs s.2.1 s.2.2).2.1 (nextR 4 xs s.2.1 s.2.2).2.2).2)
  else if s.1 = 3 then (⟨4, (nextR 20 xs s.2.1 s.2.2).1, 0, []⟩, (nextR 20 xs s.2.1 s.2.2).2)
  else if s.1 = 4 then (⟨(nextR 6 xs s.2.1 s.2.2).1, (nextR 5 xs (nextR 6 xs s.2.1 s.2.2).2.1 (nextR 6 xs s.2.1 s.2.2).2.2).1 - 1, (nextR 5 xs (nextR 5 xs (nextR 6 xs s.2.1 s.2.2).2.1 (nextR 6 xs s.2.1 s.2.2).2.2).2.1 (nextR 5 xs (nextR 6 xs s.2.1 s.2.2).2.1 (nextR 6 xs s.2.1 s.2.2).2.2).2.2).1 - 1, ys⟩, (nextR 5 xs (nextR 5 xs (nextR 6 xs s.2.1 s.2.2).2.1 (nextR 6 xs s.2.1 s.2.2).2.2).2.1 (nextR 5 xs (nextR 6 xs s.2.1 s.2.2).2.1 (nextR 6 xs s.2.1 s.2.2).2.2).2.2).2)
  else (⟨1, 0, 0, ys⟩, s.2)
def actR (xs : List Int) (a : Nat) (sd : Int) : Act4 × Nat × Int := act2 xs (bytesR xs a sd).1 (nextR 8 xs (bytesR xs a sd).2.1 (bytesR xs a sd).2.2)
def actsL (xs : List Int) : Nat → Nat → Int → List Act4
  | 0, a, sd => []
  | k + 1, a, sd => (actR xs a sd).1 :: actsL xs k (actR xs a sd).2.1 (actR xs a sd).2.2
/-- The acts that a code draws. -/
def actsOf (xs : List Int) : List Act4 := actsL xs (nextR ((sizeN xs : Int) + 2) xs 0 ((xs.length : Int) % 1000)).1.toNat (nextR ((sizeN xs : Int) + 2) xs 0 ((xs.length : Int) % 1000)).2.1 (nextR ((sizeN xs : Int) + 2) xs 0 ((xs.length : Int) % 1000)).2.2

theorem act2_fit (xs ys : List Int) (s : Int × Nat × Int) (hy : ys.length ≤ 8) : Fit (act2 xs ys s).1 ∧ (act2 xs ys s).2.1 ≤ s.2.1 + 3 := by
  obtain ⟨r, a, sd⟩ := s
  have h4 := nextR_bd (n := 4) (by decide) xs a sd
  have h46 := nextR_bd (n := 6) (by decide) xs (nextR 4 xs a sd).2.1 (nextR 4 xs a sd).2.2
  have h20 := nextR_bd (n := 20) (by decide) xs a sd
  have h6 := nextR_bd (n := 6) (by decide) xs a sd
  have h65 := nextR_bd (n := 5) (by decide) xs (nextR 6 xs a sd).2.1 (nextR 6 xs a sd).2.2
  have h655 := nextR_bd (n := 5) (by decide) xs (nextR 5 xs (nextR 6 xs a sd).2.1 (nextR 6 xs a sd).2.2).2.1 (nextR 5 xs (nextR 6 xs a sd).2.1 (nextR 6 xs a sd).2.2).2.2
  unfold act2 Fit
  simp only
  split
  · simp
  · split
    · simp
    · split
      · refine ⟨⟨by simp, ?_, ?_⟩, ?_⟩ <;> simp only <;> omega
      · split
        · refine ⟨⟨by simp, ?_, ?_⟩, ?_⟩ <;> simp only <;> omega
        · split
          · refine ⟨⟨?_, ?_, ?_⟩, ?_⟩ <;> simp only <;> omega
          · refine ⟨⟨?_, ?_, ?_⟩, ?_⟩ <;> simp only <;> omega
theorem actR_fit (xs : List Int) (a : Nat) (sd : Int) : Fit (actR xs a sd).1 ∧ (actR xs a sd).2.1 ≤ a + 13 := by
  have h1 := bytesR_at xs a sd
  have h2 := nextR_bd (n := 8) (by decide) xs (bytesR xs a sd).2.1 (bytesR xs a sd).2.2
  have h3 := act2_fit xs (bytesR xs a sd).1 (nextR 8 xs (bytesR xs a sd).2.1 (bytesR xs a sd).2.2) h1.2
  unfold actR
  exact ⟨h3.1, by omega⟩
theorem actsL_fit (xs : List Int) : ∀ (k a : Nat) (sd : Int), (∀ x ∈ actsL xs k a sd, Fit x) ∧ (actsL xs k a sd).length = k
  | 0, a, sd => ⟨by simp [actsL], rfl⟩
  | k + 1, a, sd => by
    have h := actsL_fit xs k (actR xs a sd).2.1 (actR xs a sd).2.2
    refine ⟨fun x hx => ?_, by simp [actsL, h.2]⟩
    rcases List.mem_cons.1 hx with rfl | hx
    · exact (actR_fit xs a sd).1
    · exact h.1 x hx
theorem actsOf_fit (xs : List Int) : (∀ x ∈ actsOf xs, Fit x) ∧ (actsOf xs).length ≤ 17 := by
  have h := actsL_fit xs (nextR ((sizeN xs : Int) + 2) xs 0 ((xs.length : Int) % 1000)).1.toNat (nextR ((sizeN xs : Int) + 2) xs 0 ((xs.length : Int) % 1000)).2.1 (nextR ((sizeN xs : Int) + 2) xs 0 ((xs.length : Int) % 1000)).2.2
  have hs : sizeN xs ≤ 16 := by unfold sizeN; omega
  have hb := nextR_bd (n := (sizeN xs : Int) + 2) (by omega) xs 0 ((xs.length : Int) % 1000)
  unfold actsOf
  exact ⟨h.1, by rw [h.2]; omega⟩

theorem typed4 {w : World} {base e n : Nat} {v : Value} {cs : List Value} (h : w.ownsRow base e 4 v n cs) {g : Nat} (hg : v.ownBlock = some g) : ∃ cur, w.heap[g]? = some (.cells cur e (0, 0)) := by
  obtain ⟨_, ⟨rfl, _⟩ | ⟨g', cap, cur, rfl, _, hh, _⟩⟩ := h
  · simp [Value.ownBlock] at hg
  · simp only [Value.ownBlock, Option.some.injEq] at hg
    subst hg
    exact ⟨cur, hh⟩

/-- A row of acts of the call's own, in world w: its cells, its bytes. -/
structure AR (w : World) (B : Nat) (v : Value) (al : List Act4) (us : List Value) : Prop where
  len : us.length = al.length
  row : ∃ cs, w.ownsRow B 76 4 v al.length cs ∧ ∀ j, j < al.length → cs[j * 4]? = some (.int .i64 (al.getD j ⟨0, 0, 0, []⟩).kind) ∧ cs[j * 4 + 1]? = some (.int .i64 (al.getD j ⟨0, 0, 0, []⟩).keep) ∧ cs[j * 4 + 2]? = some (.int .i64 (al.getD j ⟨0, 0, 0, []⟩).torn) ∧ cs[j * 4 + 3]? = some (us.getD j (.slice none 0 0))
  each : ∀ j, j < al.length → Own w B (us.getD j (.slice none 0 0)) (al.getD j ⟨0, 0, 0, []⟩).data
theorem AR.nil (w : World) (B : Nat) (h : B ≤ w.heap.size) : AR (w.alloc (.cells #[] 76)) B (.slice (some ⟨w.heap.size, 0, none⟩) 0 0) [] [] :=
  ⟨rfl, ⟨[], World.ownsRow_lit w #[] 0 h (by simp [maxLen]) (by simp), fun j hj => by simp at hj⟩, fun j hj => by simp at hj⟩
theorem AR.kept {w w' : World} {B : Nat} {v : Value} {al : List Act4} {us : List Value} {row : Option Nat} (h : AR w B v al us) (hg : w.grownBy w' row) (hr : ∀ k, row = some k → k < B) : AR w' B v al us where
  len := h.len
  row := by
    obtain ⟨cs, h1, h2⟩ := h.row
    refine ⟨cs, World.ownsRow.kept h1 hg ?_, h2⟩
    cases hv : v.ownBlock with
    | none => exact .inl rfl
    | some k => exact .inr fun e => by have := (World.ownsRow.lt h1 k hv).1; have := hr k e.symm; omega
  each := fun j hj => own_kept (h.each j hj) hg (by
    cases hv : (us.getD j (.slice none 0 0)).ownBlock with
    | none => exact .inl rfl
    | some k => exact .inr fun e => by have := ((h.each j hj).lt k hv).1; have := hr k e.symm; omega)
/-- A store into a block that is none of the row's and bears its type. -/
theorem AR.set {w : World} {B X i : Nat} {v : Value} {al : List Act4} {us : List Value} {cur : Array Value} (h : AR w B v al us) (hX : w.heap[X]? = some (.cells cur 76 (0, 0))) (hv : v.ownBlock ≠ some X) (x : Value) : AR (w.setCell ⟨X, i, none⟩ x) B v al us where
  len := h.len
  row := by
    obtain ⟨cs, h1, h2⟩ := h.row
    exact ⟨cs, ownsRow_setCell_other h1 hv x, h2⟩
  each := fun j hj => own_setCell (h.each j hj) (a := ⟨X, i, none⟩) (own_other (h.each j hj).2 hX (by decide)) x
theorem AR.rd {w : World} {B : Nat} {v : Value} {al : List Act4} {us : List Value} (h : AR w B v al us) : RdActs w v al := by
  obtain ⟨cs, h1, h2⟩ := h.row
  have h1' := h1
  obtain ⟨hl, ⟨rfl, h0⟩ | ⟨g, cap, cur, rfl, _, hg, hnc, hcm, hcs, htake⟩⟩ := h1
  · exact ⟨none, 0, by rw [h0], by omega, by simp [maxLen], fun hp => by omega⟩
  · refine ⟨_, cap, rfl, hnc, hcm, fun hp => ⟨g, 0, rfl, fun j hj => ⟨(us.getD j (.slice none 0 0)), Own.rdA (h.each j hj), ?_, ?_, ?_, ?_⟩⟩⟩
    · rw [Nat.zero_add, World.ownsRow.cellAt h1' (j * 4) (by omega)]; exact (h2 j hj).1
    · rw [Nat.zero_add, World.ownsRow.cellAt h1' (j * 4 + 1) (by omega)]; exact (h2 j hj).2.1
    · rw [Nat.zero_add, World.ownsRow.cellAt h1' (j * 4 + 2) (by omega)]; exact (h2 j hj).2.2.1
    · rw [Nat.zero_add, World.ownsRow.cellAt h1' (j * 4 + 3) (by omega)]; exact (h2 j hj).2.2.2

/-- In the midst of a round: the act that is being made lies at block X. -/
structure MS (w0 wr : World) (d : Nat) (ao : Option Addr) (cap : Nat) (xs : List Int) (B : Nat) (v : Value) (al : List Act4) (us : List Value) (X : Nat) (kd kp tn : Int) (u : Value) (ys : List Int) (a : Nat) (sd : Int) : Prop where
  ss : SS wr d ao cap xs a sd
  ar : AR wr B v al us
  blk : wr.heap[X]? = some (.cells #[.int .i64 kd, .int .i64 kp, .int .i64 tn, u] 76 (0, 0))
  dat : Own wr B u ys
  far : v.ownBlock ≠ some X
  low : B ≤ X
  gr : w0.grownBy wr (some d)
  dB : d < B
  sz : B ≤ w0.heap.size ∧ w0.heap.size ≤ B
  xf : 0 < xs.length → ∀ x, ao = some x → x.block < B
theorem MS.draw {w0 wr : World} {d : Nat} {ao : Option Addr} {cap : Nat} {xs : List Int} {B : Nat} {v : Value} {al : List Act4} {us : List Value} {X : Nat} {kd kp tn : Int} {u : Value} {ys : List Int} {a : Nat} {sd : Int} {w2 : World} {a2 : Nat} {sd2 : Int} (h : MS w0 wr d ao cap xs B v al us X kd kp tn u ys a sd) (hg : wr.grownBy w2 (some d)) (hs : SS w2 d ao cap xs a2 sd2) : MS w0 w2 d ao cap xs B v al us X kd kp tn u ys a2 sd2 :=
  ⟨hs, h.ar.kept hg (fun k hk => by simp only [Option.some.injEq] at hk; have := h.dB; omega), (hg.block X (Array.getElem?_eq_some_iff.1 h.blk).1 (by simp; have := h.dB; have := h.low; omega)).trans h.blk,
    own_kept h.dat hg (by
      cases hv : u.ownBlock with
      | none => exact .inl rfl
      | some k => exact .inr fun e => by simp only [Option.some.injEq] at e; have := (h.dat.lt k hv).1; have := h.dB; omega), h.far, h.low, grown_trans h.gr hg, h.dB, h.sz, h.xf⟩
theorem SS.setX {w : World} {d : Nat} {ao : Option Addr} {cap : Nat} {xs : List Int} {at_ : Nat} {sd : Int} {X i : Nat} (h : SS w d ao cap xs at_ sd) (hX : X ≠ d) (hx : 0 < xs.length → ∀ x, ao = some x → x.block ≠ X) (u : Value) : SS (w.setCell ⟨X, i, none⟩ u) d ao cap xs at_ sd :=
  ⟨(Below.heap_setCell _ _ _ _ (fun e => hX e.symm)).trans h.blk, rd_setCell h.data (fun hp x hx' => hx hp x hx') _, h.far, h.sd0, h.sd1⟩
theorem set_far {w0 w : World} {d X i : Nat} {x : Value} (h : w0.grownBy w (some d)) (hX : w0.heap.size ≤ X) : w0.grownBy (w.setCell ⟨X, i, none⟩ x) (some d) :=
  ⟨h.os, h.tape, h.output, by simpa using h.size, fun k hk hn => by rw [Below.heap_setCell _ _ _ _ (by simp; omega)]; exact h.block k hk hn⟩
/-- One cell of the act is stored. -/
theorem MS.cell {w0 wr : World} {d : Nat} {ao : Option Addr} {cap : Nat} {xs : List Int} {B : Nat} {v : Value} {al : List Act4} {us : List Value} {X : Nat} {kd kp tn : Int} {u : Value} {ys : List Int} {a : Nat} {sd : Int} {cur : Array Value} (h : MS w0 wr d ao cap xs B v al us X kd kp tn u ys a sd) (i : Nat) (x : Value) (kd' kp' tn' : Int) (u' : Value) (ys' : List Int) (hd : Own wr B u' ys') (hc : #[.int .i64 kd, .int .i64 kp, .int .i64 tn, u].setIfInBounds i x = #[.int .i64 kd', .int .i64 kp', .int .i64 tn', u']) : MS w0 (wr.setCell ⟨X, i, none⟩ x) d ao cap xs B v al us X kd' kp' tn' u' ys' a sd :=
  ⟨SS.setX h.ss (by have := h.dB; have := h.low; omega) (fun hp y hy => by have := h.xf hp y hy; have := h.low; omega) _, h.ar.set h.blk h.far x, by rw [← hc]; exact heap_setCell_same wr X i _ 76 x h.blk, own_setCell hd (a := ⟨X, i, none⟩) (own_other hd.2 h.blk (by decide)) x, h.far, h.low, set_far h.gr (by have := h.sz; have := h.low; omega), h.dB, h.sz, h.xf⟩
theorem MS.nilD {w0 wr : World} {d : Nat} {ao : Option Addr} {cap : Nat} {xs : List Int} {B : Nat} {v : Value} {al : List Act4} {us : List Value} {X : Nat} {kd kp tn : Int} {u : Value} {ys : List Int} {a : Nat} {sd : Int} (h : MS w0 wr d ao cap xs B v al us X kd kp tn u ys a sd) : Own wr B (.slice none 0 0) [] := ⟨by simp, World.ownsRow_nil _ _ _ _⟩
/-- The whole act is stored, without bytes. -/
theorem MS.four {w0 wr : World} {d : Nat} {ao : Option Addr} {cap : Nat} {xs : List Int} {B : Nat} {v : Value} {al : List Act4} {us : List Value} {X : Nat} {kd kp tn : Int} {u : Value} {ys : List Int} {a : Nat} {sd : Int} (h : MS w0 wr d ao cap xs B v al us X kd kp tn u ys a sd) (kd' kp' tn' : Int) : MS w0 ((((wr.setCell ⟨X, 0, none⟩ (.int .i64 kd')).setCell ⟨X, 1, none⟩ (.int .i64 kp')).setCell ⟨X, 2, none⟩ (.int .i64 tn')).setCell ⟨X, 3, none⟩ (.slice none 0 0)) d ao cap xs B v al us X kd' kp' tn' (.slice none 0 0) [] a sd := by
  have h0 := h.cell (cur := #[]) 0 (.int .i64 kd') kd' kp tn u ys h.dat rfl
  have h1 := h0.cell (cur := #[]) 1 (.int .i64 kp') kd' kp' tn u ys h0.dat rfl
  have h2 := h1.cell (cur := #[]) 2 (.int .i64 tn') kd' kp' tn' u ys h1.dat rfl
  exact h2.cell (cur := #[]) 3 (.slice none 0 0) kd' kp' tn' (.slice none 0 0) [] h2.nilD rfl
theorem MS.cells {w0 wr : World} {d : Nat} {ao : Option Addr} {cap : Nat} {xs : List Int} {B : Nat} {v : Value} {al : List Act4} {us : List Value} {X : Nat} {kd kp tn : Int} {u : Value} {ys : List Int} {a : Nat} {sd : Int} (h : MS w0 wr d ao cap xs B v al us X kd kp tn u ys a sd) : (wr.cell? ⟨X, 0, none⟩ = some (.int .i64 kd) ∧ wr.cell? ⟨X, 1, none⟩ = some (.int .i64 kp) ∧ wr.cell? ⟨X, 2, none⟩ = some (.int .i64 tn) ∧ wr.cell? ⟨X, 3, none⟩ = some u) ∧ wr.frozen? ⟨X, 0, none⟩ = false ∧ wr.frozen? ⟨X, 1, none⟩ = false ∧ wr.frozen? ⟨X, 2, none⟩ = false ∧ wr.frozen? ⟨X, 3, none⟩ = false :=
  ⟨⟨cell_of h.blk rfl, cell_of h.blk rfl, cell_of h.blk rfl, cell_of h.blk rfl⟩, frozen_of h.blk _, frozen_of h.blk _, frozen_of h.blk _, frozen_of h.blk _⟩
theorem info76 : (Try.prog.info? 76).map (fun i => (i.zero, i.size, i.bytes)) = some (some (.agg #[.int .i64 0, .int .i64 0, .int .i64 0, .slice none 0 0]), 4, 48) := by kernel_rfl
theorem cs_append {al : List Act4} {us cs : List Value} {r : Act4} {u : Value} (hl : cs.length = al.length * 4) (hu : us.length = al.length)
    (h : ∀ j, j < al.length → cs[j * 4]? = some (.int .i64 (al.getD j ⟨0, 0, 0, []⟩).kind) ∧ cs[j * 4 + 1]? = some (.int .i64 (al.getD j ⟨0, 0, 0, []⟩).keep) ∧ cs[j * 4 + 2]? = some (.int .i64 (al.getD j ⟨0, 0, 0, []⟩).torn) ∧ cs[j * 4 + 3]? = some (us.getD j (.slice none 0 0))) :
    ∀ j, j < (al ++ [r]).length → (cs ++ [.int .i64 r.kind, .int .i64 r.keep, .int .i64 r.torn, u])[j * 4]? = some (.int .i64 ((al ++ [r]).getD j ⟨0, 0, 0, []⟩).kind) ∧ (cs ++ [.int .i64 r.kind, .int .i64 r.keep, .int .i64 r.torn, u])[j * 4 + 1]? = some (.int .i64 ((al ++ [r]).getD j ⟨0, 0, 0, []⟩).keep) ∧ (cs ++ [.int .i64 r.kind, .int .i64 r.keep, .int .i64 r.torn, u])[j * 4 + 2]? = some (.int .i64 ((al ++ [r]).getD j ⟨0, 0, 0, []⟩).torn) ∧ (cs ++ [.int .i64 r.kind, .int .i64 r.keep, .int .i64 r.torn, u])[j * 4 + 3]? = some ((us ++ [u]).getD j (.slice none 0 0)) := by
  intro j hj
  by_cases e : j < al.length
  · have e1 : (al ++ [r]).getD j ⟨0, 0, 0, []⟩ = al.getD j ⟨0, 0, 0, []⟩ := by simp [List.getD_eq_getElem?_getD, List.getElem?_append_left e]
    have e2 : (us ++ [u]).getD j (.slice none 0 0) = us.getD j (.slice none 0 0) := by simp [List.getD_eq_getElem?_getD, List.getElem?_append_left (hu ▸ e)]
    rw [e1, e2, List.getElem?_append_left (by omega), List.getElem?_append_left (by omega), List.getElem?_append_left (by omega), List.getElem?_append_left (by omega)]
    exact h j e
  · have hj' : j = al.length := by simp at hj; omega
    subst hj'
    have e1 : (al ++ [r]).getD al.length ⟨0, 0, 0, []⟩ = r := by simp [List.getD_eq_getElem?_getD]
    have e2 : (us ++ [u]).getD al.length (.slice none 0 0) = u := by rw [← hu]; simp [List.getD_eq_getElem?_getD]
    rw [e1, e2, List.getElem?_append_right (by omega), List.getElem?_append_right (by omega), List.getElem?_append_right (by omega), List.getElem?_append_right (by omega), hl, Nat.sub_self, Nat.add_sub_cancel_left, Nat.add_sub_cancel_left, Nat.add_sub_cancel_left]
    exact ⟨rfl, rfl, rfl, rfl⟩

/-- The loop's state. -/
structure LS (w0 wr : World) (d : Nat) (ao : Option Addr) (cap : Nat) (xs : List Int) (B : Nat) (v : Value) (al : List Act4) (us : List Value) (a : Nat) (sd : Int) : Prop where
  ss : SS wr d ao cap xs a sd
  ar : AR wr B v al us
  gr : w0.grownBy wr (some d)
  dB : d < B
  sz : B ≤ w0.heap.size ∧ w0.heap.size ≤ B
  xf : 0 < xs.length → ∀ x, ao = some x → x.block < B
/-- The act is appended. -/
theorem MS.push {w0 wr : World} {d : Nat} {ao : Option Addr} {cap : Nat} {xs : List Int} {B : Nat} {v : Value} {al : List Act4} {us : List Value} {X : Nat} {kd kp tn : Int} {u : Value} {ys : List Int} {a : Nat} {sd : Int} {w9 : World} {g cap9 : Nat} {cs : List Value} {o : Obj} (h : MS w0 wr d ao cap xs B v al us X kd kp tn u ys a sd) (h1 : wr.ownsRow B 76 4 v al.length cs) (h2 : ∀ j, j < al.length → cs[j * 4]? = some (.int .i64 (al.getD j ⟨0, 0, 0, []⟩).kind) ∧ cs[j * 4 + 1]? = some (.int .i64 (al.getD j ⟨0, 0, 0, []⟩).keep) ∧ cs[j * 4 + 2]? = some (.int .i64 (al.getD j ⟨0, 0, 0, []⟩).torn) ∧ cs[j * 4 + 3]? = some (us.getD j (.slice none 0 0)))
    (hown : w9.ownsRow B 76 4 (.slice (some ⟨g, 0, none⟩) (al.length + 1) cap9) (al.length + 1) (cs ++ [.int .i64 kd, .int .i64 kp, .int .i64 tn, u])) (hgrow : (wr.alloc o).grownBy w9 v.ownBlock) :
    LS w0 w9 d ao cap xs B (.slice (some ⟨g, 0, none⟩) (al.length + 1) cap9) (al ++ [⟨kd, kp, tn, ys⟩]) (us ++ [u]) a sd := by
  have hg : wr.grownBy w9 v.ownBlock := grown_trans (World.grownBy_alloc wr o _) hgrow
  have hlow : ∀ k, v.ownBlock = some k → B ≤ k := fun k hk => (World.ownsRow.lt h1 k hk).1
  have hne5 : ∀ {x : Value} {zs : List Int}, Own wr B x zs → Own w9 B x zs := fun {x zs} ho => own_kept ho hg (by
    cases hv : x.ownBlock with
    | none => exact .inl rfl
    | some k =>
      refine .inr fun e => ?_
      obtain ⟨c1, k1⟩ := own_typed ho.2 hv
      obtain ⟨c2, k2⟩ := typed4 h1 e.symm
      rw [k1] at k2
      simp at k2)
  refine ⟨SS.grown h.ss hg (fun e => by have := hlow _ e; have := h.dB; omega) (fun hp x hx e => by have := hlow _ e; have := h.xf hp x hx; omega), ⟨by simp [h.ar.len], ⟨_, by simpa using hown, cs_append (r := ⟨kd, kp, tn, ys⟩) (by simpa using h1.1) h.ar.len h2⟩, fun j hj => ?_⟩, ?_, h.dB, h.sz, h.xf⟩
  · by_cases e : j < al.length
    · have e1 : (al ++ [(⟨kd, kp, tn, ys⟩ : Act4)]).getD j ⟨0, 0, 0, []⟩ = al.getD j ⟨0, 0, 0, []⟩ := by simp [List.getD_eq_getElem?_getD, List.getElem?_append_left e]
      have e2 : (us ++ [u]).getD j (.slice none 0 0) = us.getD j (.slice none 0 0) := by simp [List.getD_eq_getElem?_getD, List.getElem?_append_left (h.ar.len ▸ e)]
      rw [e1, e2]
      exact hne5 (h.ar.each j e)
    · have hj' : j = al.length := by simp at hj; omega
      subst hj'
      have e1 : (al ++ [(⟨kd, kp, tn, ys⟩ : Act4)]).getD al.length ⟨0, 0, 0, []⟩ = ⟨kd, kp, tn, ys⟩ := by simp [List.getD_eq_getElem?_getD]
      have e2 : (us ++ [u]).getD al.length (.slice none 0 0) = u := by rw [← h.ar.len]; simp [List.getD_eq_getElem?_getD]
      rw [e1, e2]
      exact hne5 h.dat
  · have h0 := h.gr
    have hsz := h.sz
    exact ⟨hg.os.trans h0.os, hg.tape.trans h0.tape, hg.output.trans h0.output, Nat.le_trans h0.size hg.size, fun k hk hn => (hg.block k (by have := h0.size; omega) (fun e => by have := hlow k e.symm; omega)).trans (h0.block k hk hn)⟩
end Go.Proofs.Ytipcdioolafkpaa.actsfn

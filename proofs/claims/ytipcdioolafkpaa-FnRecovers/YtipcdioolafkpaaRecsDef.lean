/- Records are drawn: the state of the loop. -/
import Derived.Test.YtipcdioolafkpaaDrawsEx
import Derived.Test.YtipcdioolafkpaaLowC
import Derived.Test.YtipcdioolafkpaaRecoverI
import Derived.Test.YtipcdioolafkpaaLists
namespace Go.Proofs.Ytipcdioolafkpaa.recsdef
open Go.ChangeShapes Go.WideShapes Go.ChangeAt Go.RowKit
open Go.Proofs.Ytipcdioolafkpaa.bytes Go.Proofs.Ytipcdioolafkpaa.put Go.Proofs.Ytipcdioolafkpaa.pile Go.Proofs.Ytipcdioolafkpaa.join Go.Proofs.Ytipcdioolafkpaa.frames Go.Proofs.Ytipcdioolafkpaa.reader Go.Proofs.Ytipcdioolafkpaa.one Go.Proofs.Ytipcdioolafkpaa.many Go.Proofs.Ytipcdioolafkpaa.draws Go.Proofs.Ytipcdioolafkpaa.payloads Go.Proofs.Ytipcdioolafkpaa.bytefn
open Go.Proofs.Ytipcdioolafkpaa.drawsfn Go.Proofs.Ytipcdioolafkpaa.drawsex Go.Proofs.Ytipcdioolafkpaa.recrows Go.Proofs.Ytipcdioolafkpaa.rechelp Go.Proofs.Ytipcdioolafkpaa.pays Go.Proofs.Ytipcdioolafkpaa.recov Go.Proofs.Ytipcdioolafkpaa.fits Go.Proofs.Ytipcdioolafkpaa.goesalong Go.Proofs.Ytipcdioolafkpaa.logcells Go.Proofs.Ytipcdioolafkpaa.lowc Go.Proofs.Ytipcdioolafkpaa.recoveri
set_option linter.unusedVariables false

/-- A state's numbers are in their bounds. -/
def stOK (s : St) : Prop := (termIn s.term ∧ termIn s.bterm) ∧ (0 ≤ s.base ∧ s.base ≤ 1000000) ∧ s.log.length ≤ 100 ∧ ∀ r ∈ s.log, termIn r.t
theorem take_stOK {s s' : St} {p : List Int} (hs : stOK s) (h : takeS s p = some s') : stOK s' := by
  unfold takeS at h
  split at h
  · simp at h
  rename_i hn
  simp only [not_or, Decidable.not_not] at hn
  split at h
  · split at h
    · simp at h
    · unfold fitV at h
      split at h
      · simp at h
      · simp only [Option.some.injEq] at h; subst h; exact ⟨⟨hn.2.2.2.1, hs.1.2⟩, hs.2⟩
  split at h
  · split at h
    · simp at h
    · unfold fitE at h
      split at h
      · simp at h
      · simp only [Option.some.injEq] at h
        subst h
        refine ⟨hs.1, hs.2.1, by simp; omega, fun r hr => ?_⟩
        rcases List.mem_append.1 hr with hr | hr
        · exact hs.2.2.2 r (List.mem_of_mem_take hr)
        · simp only [List.mem_singleton] at hr; subst hr; exact hn.2.2.2.1
  split at h
  · split at h
    · simp at h
    · unfold fitB at h
      split at h
      · simp at h
      · simp only [Option.some.injEq] at h; subst h; exact ⟨⟨hs.1.1, hn.2.2.2.2⟩, hn.2.2.2.1, by have := hs.2.2.1; simp; omega, fun r hr => hs.2.2.2 r (List.mem_of_mem_drop hr)⟩
  · simp at h
theorem termB_in {s : St} (hs : stOK s) {n : Nat} (hn : n ≤ s.log.length) : termIn (termB s n) := by
  unfold termB
  split
  · exact hs.1.2
  · have h : n - 1 < s.log.length := by omega
    have e : s.log.getD (n - 1) zRec = s.log[n - 1] := by simp [List.getD_eq_getElem?_getD, h]
    rw [e]
    exact hs.2.2.2 _ (List.getElem_mem h)
structure RD (w0 wr : World) (d X : Nat) (ao : Option Addr) (cap : Nat) (xs : List Int) (s : St) (lv : Value) (us : List Value) (v : Value) (vs : List Value) (ps : List (List Int)) (a : Nat) (sd : Int) : Prop where
  ss : SS wr d ao cap xs a sd
  st : wr.heap[X]? = some (.cells #[.int .i64 s.term, .int .i64 s.vote, .int .i64 s.base, .int .i64 s.bterm, lv, .int .i64 0] 52 (0, 0))
  log : LogR wr lv s.log us
  low : Low lv us wr.heap.size
  fd : Far lv us d
  fX : Far lv us X
  fo : ∀ g, v.ownBlock = some g → Far lv us g
  row : wr.ownsRow (X + 1) 22 1 v vs.length vs
  each : ∀ i, i < vs.length → Own wr (X + 1) (vs.getD i (.slice none 0 0)) ((ps.map frameN).getD i [])
  len : vs.length = ps.length
  sok : stOK s
  ok : ∀ p ∈ ps, p.length ≤ 40
  gr : w0.grownBy wr (some d)
  dB : d < w0.heap.size
  hX : w0.heap.size ≤ X
  xf : 0 < xs.length → ∀ x, ao = some x → x.block < w0.heap.size
theorem RD.lt {{w0 wr : World}} {{d X : Nat}} {{ao : Option Addr}} {{cap : Nat}} {{xs : List Int}} {{s : St}} {{lv : Value}} {{us : List Value}} {{v : Value}} {{vs : List Value}} {{ps : List (List Int)}} {{a : Nat}} {{sd : Int}} (h : RD w0 wr d X ao cap xs s lv us v vs ps a sd) : X < wr.heap.size := (Array.getElem?_eq_some_iff.1 h.st).1
theorem row1_kept {w w' : World} {base b n : Nat} {v : Value} {xs : List Value} (h : w.ownsRow base 22 1 v n xs) (hg : w.grownBy w' (some b)) (hb : b < base) : w'.ownsRow base 22 1 v n xs :=
  World.ownsRow.kept h hg (by
    cases hv : v.ownBlock with
    | none => exact .inl rfl
    | some k => exact .inr fun e => by simp only [Option.some.injEq] at e; have := (World.ownsRow.lt h k hv).1; omega)
theorem RD.draw {{w0 wr : World}} {{d X : Nat}} {{ao : Option Addr}} {{cap : Nat}} {{xs : List Int}} {{s : St}} {{lv : Value}} {{us : List Value}} {{v : Value}} {{vs : List Value}} {{ps : List (List Int)}} {{a : Nat}} {{sd : Int}} {w2 : World} {a2 : Nat} {sd2 : Int} (h : RD w0 wr d X ao cap xs s lv us v vs ps a sd) (hg : wr.grownBy w2 (some d)) (hs : SS w2 d ao cap xs a2 sd2) : RD w0 w2 d X ao cap xs s lv us v vs ps a2 sd2 := by
  have h1 := h.dB
  have h2 := h.hX
  exact ⟨hs, (hg.block _ h.lt (by simp; omega)).trans h.st, h.log.grown hg h.fd, h.low.mono hg.size, h.fd, h.fX, h.fo, row1_kept h.row hg (by omega), fun i hi => fits.own_keptR (h.each i hi) hg (fun j hj e => by simp only [Option.some.injEq] at e; have := ((h.each i hi).lt j hj).1; omega), h.len, h.sok, h.ok, grown_trans h.gr hg, h1, h2, h.xf⟩
theorem RD.below {{w0 wr : World}} {{d X : Nat}} {{ao : Option Addr}} {{cap : Nat}} {{xs : List Int}} {{s : St}} {{lv : Value}} {{us : List Value}} {{v : Value}} {{vs : List Value}} {{ps : List (List Int)}} {{a : Nat}} {{sd : Int}} {w2 : World} (h : RD w0 wr d X ao cap xs s lv us v vs ps a sd) (hb : Below wr.heap.size wr w2) : RD w0 w2 d X ao cap xs s lv us v vs ps a sd :=
  h.draw (grown_below hb (Nat.le_refl _) _) (h.ss.below hb)
theorem RD.cells {{w0 wr : World}} {{d X : Nat}} {{ao : Option Addr}} {{cap : Nat}} {{xs : List Int}} {{s : St}} {{lv : Value}} {{us : List Value}} {{v : Value}} {{vs : List Value}} {{ps : List (List Int)}} {{a : Nat}} {{sd : Int}} (h : RD w0 wr d X ao cap xs s lv us v vs ps a sd) : (wr.cell? ⟨X, 0, none⟩ = some (.int .i64 s.term) ∧ wr.cell? ⟨X, 1, none⟩ = some (.int .i64 s.vote) ∧ wr.cell? ⟨X, 2, none⟩ = some (.int .i64 s.base) ∧ wr.cell? ⟨X, 3, none⟩ = some (.int .i64 s.bterm) ∧ wr.cell? ⟨X, 4, none⟩ = some lv ∧ wr.cell? ⟨X, 5, none⟩ = some (.int .i64 0)) ∧ ∀ i, wr.frozen? ⟨X, i, none⟩ = false :=
  ⟨⟨cell_of h.st rfl, cell_of h.st rfl, cell_of h.st rfl, cell_of h.st rfl, cell_of h.st rfl, cell_of h.st rfl⟩, frozen_of h.st⟩
/-- The state is exchanged. -/
theorem RD.next {{w0 wr : World}} {{d X : Nat}} {{ao : Option Addr}} {{cap : Nat}} {{xs : List Int}} {{s : St}} {{lv : Value}} {{us : List Value}} {{v : Value}} {{vs : List Value}} {{ps : List (List Int)}} {{a : Nat}} {{sd : Int}} {s' : St} {lv' : Value} {us' : List Value} (h : RD w0 wr d X ao cap xs s lv us v vs ps a sd) (hl : LogR wr lv' s'.log us') (hlow : Low lv' us' wr.heap.size) (hfd : Far lv' us' d) (hfX : Far lv' us' X) (hfo : ∀ g, v.ownBlock = some g → Far lv' us' g) (hok : stOK s') :
    RD w0 ((((((wr.setCell ⟨X, 0, none⟩ (.int .i64 s'.term)).setCell ⟨X, 1, none⟩ (.int .i64 s'.vote)).setCell ⟨X, 2, none⟩ (.int .i64 s'.base)).setCell ⟨X, 3, none⟩ (.int .i64 s'.bterm)).setCell ⟨X, 4, none⟩ lv').setCell ⟨X, 5, none⟩ (.int .i64 0)) d X ao cap xs s' lv' us' v vs ps a sd := by
  have h6 := six_sets h.st (.int .i64 s'.term) (.int .i64 s'.vote) (.int .i64 s'.base) (.int .i64 s'.bterm) lv' (.int .i64 0)
  have h1 := h.dB
  have h2 := h.hX
  have hg := h6.2
  refine ⟨SS.grown h.ss hg (by simp; omega) (fun hp x hx => by have := h.xf hp x hx; simp; omega), h6.1, hl.grown hg hfX, hlow.mono hg.size, hfd, hfX, hfo, row1_kept h.row hg (by omega), fun i hi => fits.own_keptR (h.each i hi) hg (fun j hj e => by simp only [Option.some.injEq] at e; have := ((h.each i hi).lt j hj).1; omega), h.len, hok, h.ok, ?_, h1, h2, h.xf⟩
  have h0 := h.gr
  exact ⟨hg.os.trans h0.os, hg.tape.trans h0.tape, hg.output.trans h0.output, Nat.le_trans h0.size hg.size, fun k hk hn => (hg.block k (by have := h0.size; omega) (by simp; omega)).trans (h0.block k hk hn)⟩
/-- A frame is put behind the others. -/
theorem RD.push {{w0 wr : World}} {{d X : Nat}} {{ao : Option Addr}} {{cap : Nat}} {{xs : List Int}} {{s : St}} {{lv : Value}} {{us : List Value}} {{v : Value}} {{vs : List Value}} {{ps : List (List Int)}} {{a : Nat}} {{sd : Int}} {w9 : World} {u v' : Value} {p : List Int} {o : Obj} (h : RD w0 wr d X ao cap xs s lv us v vs ps a sd) (hp : p.length ≤ 40) (hu : Own wr (X + 1) u (frameN p))
    (hown : w9.ownsRow (X + 1) 22 1 v' (vs.length + 1) (vs ++ [u])) (hgrow : (wr.alloc o).grownBy w9 v.ownBlock) (hnew : v'.ownBlock = v.ownBlock ∨ ∀ g, v'.ownBlock = some g → wr.heap.size ≤ g) : RD w0 w9 d X ao cap xs s lv us v' (vs ++ [u]) (ps ++ [p]) a sd := by
  have h1 := h.dB
  have h2 := h.hX
  have hg : wr.grownBy w9 v.ownBlock := grown_trans (World.grownBy_alloc wr o _) hgrow
  have hlow : ∀ k, v.ownBlock = some k → X + 1 ≤ k := fun k hk => (World.ownsRow.lt h.row k hk).1
  have hfar : ∀ g, v'.ownBlock = some g → Far lv us g := fun g hg' => by
    rcases hnew with e | e
    · exact h.fo g (e ▸ hg')
    · have := e g hg'
      exact ⟨fun e2 => by have := h.low.1 g e2; omega, fun u hu e2 => by have := h.low.2 u hu g e2; omega⟩
  have hkeep : ∀ {x : Value} {zs : List Int}, Own wr (X + 1) x zs → Own w9 (X + 1) x zs := fun {x zs} ho => own_kept ho hg (row_ne ho h.row)
  have hlog : LogR w9 lv s.log us := by
    cases hv : v.ownBlock with
    | none => rw [hv] at hg; exact h.log.below (B := wr.heap.size) ⟨hg.os, hg.tape, hg.output, hg.size, fun k hk => hg.block k hk (by simp)⟩ (Nat.le_refl _)
    | some g => rw [hv] at hg; exact h.log.grown hg (h.fo g hv)
  refine ⟨SS.grown h.ss hg (fun e => by have := hlow _ e; omega) (fun hp x hx e => by have := hlow _ e; have := h.xf hp x hx; omega), (hg.block _ h.lt (fun e => by have := hlow _ e.symm; omega)).trans h.st, hlog, h.low.mono hg.size, h.fd, h.fX, hfar, by rw [List.length_append]; exact hown, fun i hi => ?_, by simp [h.len], h.sok, ?_, ?_, h1, h2, h.xf⟩
  · by_cases e : i < vs.length
    · have e1 : ((ps ++ [p]).map frameN).getD i [] = (ps.map frameN).getD i [] := by
        have hps : i < (ps.map frameN).length := by rw [List.length_map, ← h.len]; exact e
        rw [List.map_append]
        simp only [List.getD_eq_getElem?_getD]
        rw [List.getElem?_append_left hps]
      have e2 : (vs ++ [u]).getD i (.slice none 0 0) = vs.getD i (.slice none 0 0) := by simp [List.getD_eq_getElem?_getD, List.getElem?_append_left e]
      rw [e1, e2]
      exact hkeep (h.each i e)
    · have hk' : i = vs.length := by simp at hi; omega
      subst hk'
      have e1 : ((ps ++ [p]).map frameN).getD vs.length [] = frameN p := by rw [h.len]; simp [List.getD_eq_getElem?_getD]
      have e2 : (vs ++ [u]).getD vs.length (.slice none 0 0) = u := by simp [List.getD_eq_getElem?_getD]
      rw [e1, e2]
      exact hkeep hu
  · intro q hq
    rcases List.mem_append.1 hq with hq | hq
    · exact h.ok q hq
    · simp only [List.mem_singleton] at hq; subst hq; exact hp
  · have h0 := h.gr
    exact ⟨hg.os.trans h0.os, hg.tape.trans h0.tape, hg.output.trans h0.output, Nat.le_trans h0.size hg.size, fun k hk hn => (hg.block k (by have := h0.size; omega) (fun e => by have := hlow k e.symm; omega)).trans (h0.block k hk hn)⟩
end Go.Proofs.Ytipcdioolafkpaa.recsdef

/- The net of a pattern of letters over one text: what lies in memory, and what its calls keep. -/
import Derived.Test.YtfpeajbfimodfaaGreatDoorMade
import Derived.Test.YtfpeajbfimodfaaGreatDoorTz
namespace Go.Proofs.YtfpeajbfimodfaaGreatDoor.net
open Go.ChangeShapes Go.WideShapes Go.ChangeAt Go.RowKit
open Go.Proofs.YtfpeajbfimodfaaGreatDoor.bytes Go.Proofs.YtfpeajbfimodfaaGreatDoor.letters Go.Proofs.YtfpeajbfimodfaaGreatDoor.read Go.Proofs.YtfpeajbfimodfaaGreatDoor.places Go.Proofs.YtfpeajbfimodfaaGreatDoor.sets Go.Proofs.YtfpeajbfimodfaaGreatDoor.leaf Go.Proofs.YtfpeajbfimodfaaGreatDoor.tz
set_option linter.unusedVariables false

/-- Where matches of letters, one behind the other, can end: at one place at most. -/
def restE (ts : List Int) : List Int → Nat → Nat
  | [], p => 2 ^ p
  | y :: ys, p => if p < ts.length ∧ ts.getD p 0 = y then restE ts ys (p + 1) else 0
theorem restE_cases (ts : List Int) : ∀ (ys : List Int) (p : Nat), p ≤ ts.length → restE ts ys p = 0 ∨ ∃ e, e ≤ ts.length ∧ restE ts ys p = 2 ^ e
  | [], p, h => .inr ⟨p, h, rfl⟩
  | y :: ys, p, h => by
    unfold restE
    by_cases c : p < ts.length ∧ ts.getD p 0 = y
    · rw [if_pos c]
      exact restE_cases ts ys (p + 1) c.1
    · rw [if_neg c]
      exact .inl rfl
theorem restE_one (ts : List Int) (y : Int) (p : Nat) : restE ts [y] p = endsC ts y p := rfl
theorem pow_lt64 {e : Nat} (h : e ≤ 22) : 2 ^ e < 18446744073709551616 := Nat.lt_of_le_of_lt (Nat.pow_le_pow_right (by decide) h) (by decide)
theorem restE_lt (ts ys : List Int) (p : Nat) (hl : ts.length ≤ 22) (hp : p ≤ ts.length) : restE ts ys p < 18446744073709551616 := by
  rcases restE_cases ts ys p hp with h | ⟨e, he, h⟩
  · rw [h]; decide
  · rw [h]; exact pow_lt64 (by omega)
/-- The numbers of a net. -/
structure Gr where
  n1 : Nat
  ts : List Int
  ys : List Int
  rB : Nat
  rR : Nat
  kB : Nat
  kR : Nat
  tb : Nat → Nat
  fb : Nat → Nat
  rb : Nat → Nat
  c : Nat → Nat
  x : Nat → Nat
def ptr (b : Nat) : Value := .pointer (some ⟨b, 0, none⟩)
def leafV (g : Gr) (k : Nat) : Value := .func (.func 83) #[] #[.pointer (some ⟨g.tb k, 0, none⟩), .pointer (some ⟨g.fb k, 0, none⟩)]
def restV (g : Gr) (k : Nat) : Value :=
  if k = g.ys.length then .func (.func 56) #[] #[] else if k + 1 = g.ys.length then leafV g k
  else .func (.func 78) #[] #[.pointer (some ⟨g.c k + 4, 0, none⟩), .pointer (some ⟨g.c k + 2, 0, none⟩), .pointer (some ⟨g.c k + 5, 0, none⟩), .pointer (some ⟨g.c k + 3, 0, none⟩)]
/-- A block that no call writes. -/
def Fixd (g : Gr) (b : Nat) : Prop := b < g.n1 ∧ ∀ j, j + 1 < g.ys.length → b ≠ g.c j + 4 ∧ b ≠ g.c j + 5
structure Geo (g : Gr) : Prop where
  one : Fixd g 1
  leaf : ∀ k, k < g.ys.length → Fixd g (g.tb k) ∧ Fixd g (g.fb k) ∧ Fixd g (g.rb k)
  rB : Fixd g g.rB
  rR : Fixd g g.rR
  kB : Fixd g g.kB
  kR : Fixd g g.kR
  lay : ∀ k, k + 1 < g.ys.length → Fixd g (g.x k) ∧ Fixd g (g.x k + 1) ∧ Fixd g (g.c k + 2) ∧ Fixd g (g.c k + 3) ∧ g.c k + 5 < g.n1
  apart : ∀ i j, i + 1 < g.ys.length → j + 1 < g.ys.length → i ≠ j → g.c i + 4 ≤ g.c j ∨ g.c j + 4 ≤ g.c i
  len : g.ts.length ≤ 22
  some : 1 ≤ g.ys.length
  few : g.ys.length ≤ 8
  bytes : ∀ t ∈ g.ts, 0 ≤ t ∧ t ≤ 255
structure Fix (g : Gr) (w : World) : Prop where
  tab : TabIn w
  leaf : ∀ k, k < g.ys.length → Leaf w (g.tb k) (g.fb k) (g.rb k) g.ts (g.ys.getD k 0)
  rest : w.cell? ⟨g.rB, 0, none⟩ = some (.slice (some ⟨g.rR, 0, none⟩) (g.ys.length + 1) (g.ys.length + 1))
  restRow : ∀ k, k ≤ g.ys.length → w.cell? ⟨g.rR, k, none⟩ = some (restV g k)
  kids : w.cell? ⟨g.kB, 0, none⟩ = some (.slice (some ⟨g.kR, 0, none⟩) g.ys.length g.ys.length)
  kidRow : ∀ k, k < g.ys.length → w.cell? ⟨g.kR, k * 2, none⟩ = some (leafV g k) ∧ w.cell? ⟨g.kR, k * 2 + 1, none⟩ = some (.func (.func 44) #[] #[])
  lay : ∀ k, k + 1 < g.ys.length → w.cell? ⟨g.x k, 0, none⟩ = some (.int .i64 k) ∧ w.cell? ⟨g.x k + 1, 0, none⟩ = some (leafV g k) ∧ w.cell? ⟨g.c k + 2, 0, none⟩ = some (.string (strOfNums g.ts)) ∧ w.cell? ⟨g.c k + 3, 0, none⟩ = some (.func (.func 59) #[] #[.pointer (some ⟨g.x k + 1, 0, none⟩), .pointer (some ⟨g.rB, 0, none⟩), .pointer (some ⟨g.x k, 0, none⟩)])
theorem Fix.same {g : Gr} (hg : Geo g) {w w' : World} (h : Fix g w) (hs : ∀ b, Fixd g b → w'.heap[b]? = w.heap[b]?) : Fix g w' where
  tab := fun j hj => (World.cell?_of_block (a := ⟨1, j, none⟩) (hs 1 hg.one)).trans (h.tab j hj)
  leaf := fun k hk => ⟨(World.cell?_of_block (hs _ (hg.leaf k hk).1)).trans (h.leaf k hk).text, (World.cell?_of_block (hs _ (hg.leaf k hk).2.1)).trans (h.leaf k hk).asks, (World.cell?_of_block (hs _ (hg.leaf k hk).2.2)).trans (h.leaf k hk).node⟩
  rest := (World.cell?_of_block (hs _ hg.rB)).trans h.rest
  restRow := fun k hk => (World.cell?_of_block (hs _ hg.rR)).trans (h.restRow k hk)
  kids := (World.cell?_of_block (hs _ hg.kB)).trans h.kids
  kidRow := fun k hk => ⟨(World.cell?_of_block (hs _ hg.kR)).trans (h.kidRow k hk).1, (World.cell?_of_block (hs _ hg.kR)).trans (h.kidRow k hk).2⟩
  lay := fun k hk => ⟨(World.cell?_of_block (hs _ (hg.lay k hk).1)).trans (h.lay k hk).1, (World.cell?_of_block (hs _ (hg.lay k hk).2.1)).trans (h.lay k hk).2.1, (World.cell?_of_block (hs _ (hg.lay k hk).2.2.1)).trans (h.lay k hk).2.2.1, (World.cell?_of_block (hs _ (hg.lay k hk).2.2.2.1)).trans (h.lay k hk).2.2.2⟩
/-- The rows of answers that have been made: of a layer, two blocks. -/
abbrev Rws := Nat → Option (Nat × Nat)
/-- A row of answers in memory, and which of them have been asked. -/
structure Row (g : Gr) (j : Nat) (w : World) (a d : Nat) (X : Nat → Nat) (q : Nat → Bool) : Prop where
  lo : ∀ p, p ≤ g.ts.length → w.cell? ⟨a, p * 2, none⟩ = some (.int .u64 (X p : Nat))
  hi : ∀ p, p ≤ g.ts.length → w.cell? ⟨a, p * 2 + 1, none⟩ = some (.int .u64 0)
  was : ∀ p, p ≤ g.ts.length → w.cell? ⟨d, p, none⟩ = some (.bool (q p))
  fa : ∀ i, w.frozen? ⟨a, i, none⟩ = false
  fd : ∀ i, w.frozen? ⟨d, i, none⟩ = false
  right : ∀ p, p ≤ g.ts.length → q p = true → X p = restE g.ts (g.ys.drop j) p
def C1 (w : World) (b : Nat) (v : Value) (t : TypeId) : Prop := w.heap[b]? = some (.cells #[v] t (0, 0))
theorem C1.c {w : World} {b : Nat} {v : Value} {t : TypeId} (h : C1 w b v t) : w.cell? ⟨b, 0, none⟩ = some v := by unfold C1 at h; simp [World.cell?, h]
theorem C1.fz {w : World} {b : Nat} {v : Value} {t : TypeId} (h : C1 w b v t) (i : Nat) : w.frozen? ⟨b, i, none⟩ = false := by unfold C1 at h; simp [World.frozen?, h]
theorem C1.set {w : World} {b : Nat} {v : Value} {t : TypeId} (h : C1 w b v t) (u : Value) : C1 (w.setCell ⟨b, 0, none⟩ u) b u t := by
  have h1 := heap_setCell_same w b 0 _ t u h
  simp at h1
  exact h1
/-- What a layer has in memory of what has been asked. -/
def Memo (g : Gr) (R : Rws) (w : World) (j : Nat) : Prop :=
  (R j = none ∧ C1 w (g.c j + 4) (.slice none 0 0) 139 ∧ C1 w (g.c j + 5) (.slice none 0 0) 140) ∨
  (∃ a d, R j = some (a, d) ∧ C1 w (g.c j + 4) (.slice (some ⟨a, 0, none⟩) (g.ts.length + 1) (g.ts.length + 1)) 139 ∧ C1 w (g.c j + 5) (.slice (some ⟨d, 0, none⟩) (g.ts.length + 1) (g.ts.length + 1)) 140 ∧ ∃ X q, Row g j w a d X q)
theorem Row.same {g : Gr} {j : Nat} {w w' : World} {a d : Nat} {X : Nat → Nat} {q : Nat → Bool} (h : Row g j w a d X q) (ha : w'.heap[a]? = w.heap[a]?) (hd : w'.heap[d]? = w.heap[d]?) : Row g j w' a d X q where
  lo := fun p hp => (World.cell?_of_block ha).trans (h.lo p hp)
  hi := fun p hp => (World.cell?_of_block ha).trans (h.hi p hp)
  was := fun p hp => (World.cell?_of_block hd).trans (h.was p hp)
  fa := fun i => (World.frozen?_of_block ha).trans (h.fa i)
  fd := fun i => (World.frozen?_of_block hd).trans (h.fd i)
  right := h.right
theorem Memo.same {g : Gr} {R : Rws} {j : Nat} {w w' : World} (h : Memo g R w j) (h4 : w'.heap[g.c j + 4]? = w.heap[g.c j + 4]?) (h5 : w'.heap[g.c j + 5]? = w.heap[g.c j + 5]?)
    (hr : ∀ a d, R j = some (a, d) → w'.heap[a]? = w.heap[a]? ∧ w'.heap[d]? = w.heap[d]?) : Memo g R w' j := by
  rcases h with ⟨h0, h1, h2⟩ | ⟨a, d, h0, h1, h2, X, q, h3⟩
  · exact .inl ⟨h0, h4.trans h1, h5.trans h2⟩
  · exact .inr ⟨a, d, h0, h4.trans h1, h5.trans h2, X, q, h3.same (hr a d h0).1 (hr a d h0).2⟩
structure Net (g : Gr) (R : Rws) (w : World) : Prop where
  fix : Fix g w
  n1 : g.n1 ≤ w.heap.size
  memo : ∀ j, j + 1 < g.ys.length → Memo g R w j
  rows : ∀ j a d, R j = some (a, d) → g.n1 ≤ a ∧ a < w.heap.size ∧ g.n1 ≤ d ∧ d < w.heap.size ∧ a ≠ d
  apart : ∀ i j a d a' d', i ≠ j → R i = some (a, d) → R j = some (a', d') → a ≠ a' ∧ a ≠ d' ∧ d ≠ a' ∧ d ≠ d'
/-- Whatever keeps the net's own blocks keeps the net. -/
theorem Net.same {g : Gr} (hg : Geo g) {R : Rws} {w w' : World} (h : Net g R w) (hz : w.heap.size ≤ w'.heap.size) (hn : ∀ b, b < g.n1 → w'.heap[b]? = w.heap[b]?) (hr : ∀ j a d, R j = some (a, d) → w'.heap[a]? = w.heap[a]? ∧ w'.heap[d]? = w.heap[d]?) : Net g R w' where
  fix := h.fix.same hg (fun b hb => hn b hb.1)
  n1 := Nat.le_trans h.n1 hz
  memo := fun j hj => (h.memo j hj).same (hn _ (by have := (hg.lay j hj).2.2.2.2; omega)) (hn _ (hg.lay j hj).2.2.2.2) (hr j)
  rows := fun j a d hj => by have := h.rows j a d hj; omega
  apart := h.apart
theorem Net.below {g : Gr} (hg : Geo g) {R : Rws} {w w' : World} (h : Net g R w) (hb : Below w.heap.size w w') : Net g R w' :=
  h.same hg hb.size (fun b hb' => hb.block b (by have := h.n1; omega)) (fun j a d hj => ⟨hb.block a (h.rows j a d hj).2.1, hb.block d (h.rows j a d hj).2.2.2.1⟩)
/-- A block of the rows of layers from k on. -/
def Mine (g : Gr) (R : Rws) (k : Nat) (b : Nat) : Prop := ∃ j, k ≤ j ∧ j + 1 < g.ys.length ∧ (b = g.c j + 4 ∨ b = g.c j + 5 ∨ ∃ a d, R j = some (a, d) ∧ (b = a ∨ b = d))
/-- What a call of the layers from k on leaves; rows that it made lie from hi on. -/
structure Via (g : Gr) (k : Nat) (R R' : Rws) (w : World) (hi : Nat) (w' : World) : Prop where
  os : w'.os = w.os
  tape : w'.tape = w.tape
  output : w'.output = w.output
  lo : w.heap.size ≤ hi
  size : hi ≤ w'.heap.size
  same : ∀ b, b < w.heap.size → ¬ Mine g R k b → w'.heap[b]? = w.heap[b]?
  ext : ∀ j, R' j = R j ∨ (k ≤ j ∧ R j = none ∧ ∃ a d, R' j = some (a, d) ∧ hi ≤ a ∧ hi ≤ d)
def St (g : Gr) (k : Nat) (R0 : Rws) (w : World) (hi : Nat) (W : World) : Prop := ∃ R, Net g R W ∧ Via g k R0 R w hi W
theorem Net.st {g : Gr} (hg : Geo g) {R : Rws} {w W : World} (h : Net g R w) (k : Nat) (hb : Below w.heap.size w W) : St g k R w W.heap.size W :=
  ⟨R, h.below hg hb, ⟨hb.os, hb.tape, hb.output, hb.size, Nat.le_refl _, fun b hb' _ => hb.block b hb', fun j => .inl rfl⟩⟩
theorem Net.st0 {g : Gr} (hg : Geo g) {R : Rws} {w W : World} (h : Net g R w) (k : Nat) (hb : Below w.heap.size w W) : St g k R w w.heap.size W :=
  ⟨R, h.below hg hb, ⟨hb.os, hb.tape, hb.output, Nat.le_refl _, hb.size, fun b hb' _ => hb.block b hb', fun j => .inl rfl⟩⟩
/-- A local block is none of the net's. -/
theorem Net.far {g : Gr} (hg : Geo g) {R0 R : Rws} {w W : World} {k hi b : Nat} (hN : Net g R0 w) (hV : Via g k R0 R w hi W) (h1 : w.heap.size ≤ b) (h2 : b < hi) (i : Nat) : ¬ Mine g R i b := by
  rintro ⟨j, hj1, hj2, h | h | ⟨a, d, hR, h⟩⟩
  · have := (hg.lay j hj2).2.2.2.2; have := hN.n1; omega
  · have := (hg.lay j hj2).2.2.2.2; have := hN.n1; omega
  · rcases hV.ext j with e | ⟨_, e, a', d', e', h3, h4⟩
    · rw [e] at hR
      have := hN.rows j a d hR
      omega
    · rw [e'] at hR
      simp only [Option.some.injEq, Prod.mk.injEq] at hR
      omega
/-- Two steps one behind the other: the second from a world of the first on, of layers from k on too. -/
theorem Via.trans {g : Gr} (hg : Geo g) {k k' : Nat} {R0 R R2 : Rws} {w W W2 : World} {hi hi2 : Nat} (hN : Net g R0 w) (hV : Via g k R0 R w hi W) (hk : k ≤ k') (h2 : Via g k' R R2 W hi2 W2) : Via g k R0 R2 w hi W2 where
  os := h2.os.trans hV.os
  tape := h2.tape.trans hV.tape
  output := h2.output.trans hV.output
  lo := hV.lo
  size := by have := hV.size; have := h2.lo; have := h2.size; omega
  same := fun b hb hm => by
    have hb2 : b < W.heap.size := by have := hV.lo; have := hV.size; omega
    refine (h2.same b hb2 ?_).trans (hV.same b hb hm)
    rintro ⟨j, hj1, hj2, h | h | ⟨a, d, hR, h⟩⟩
    · exact hm ⟨j, by omega, hj2, .inl h⟩
    · exact hm ⟨j, by omega, hj2, .inr (.inl h)⟩
    · rcases hV.ext j with e | ⟨_, e, a', d', e', h3, h4⟩
      · rw [e] at hR
        exact hm ⟨j, by omega, hj2, .inr (.inr ⟨a, d, hR, h⟩)⟩
      · rw [e'] at hR
        simp only [Option.some.injEq, Prod.mk.injEq] at hR
        have := hV.lo
        omega
  ext := fun j => by
    rcases h2.ext j with e | ⟨e1, e2, a, d, e3, e4, e5⟩
    · rcases hV.ext j with f | ⟨f1, f2, a, d, f3, f4, f5⟩
      · exact .inl (e.trans f)
      · exact .inr ⟨f1, f2, a, d, e.trans f3, f4, f5⟩
    · rcases hV.ext j with f | ⟨f1, f2, a', d', f3, f4, f5⟩
      · have := hV.size; have := h2.lo
        exact .inr ⟨by omega, f.symm.trans e2, a, d, e3, by omega, by omega⟩
      · rw [e2] at f3
        cases f3
/-- A call that keeps all that was there. -/
theorem St.below {g : Gr} (hg : Geo g) {k : Nat} {R0 : Rws} {w W W2 : World} {hi : Nat} (hN : Net g R0 w) (h : St g k R0 w hi W) (hb : Below W.heap.size W W2) : St g k R0 w hi W2 := by
  obtain ⟨R, h1, h2⟩ := h
  refine ⟨R, h1.below hg hb, h2.trans hg hN (Nat.le_refl k) ⟨hb.os, hb.tape, hb.output, Nat.le_refl _, hb.size, fun b hb' _ => hb.block b hb', fun j => .inl rfl⟩⟩
/-- A store into a local block. -/
theorem St.store {g : Gr} (hg : Geo g) {k : Nat} {R0 : Rws} {w W : World} {hi : Nat} (hN : Net g R0 w) (h : St g k R0 w hi W) (a : Addr) (h1 : w.heap.size ≤ a.block) (h2 : a.block < hi) (u : Value) : St g k R0 w hi (W.setCell a u) := by
  obtain ⟨R, hn, hv⟩ := h
  have hs : ∀ b, b ≠ a.block → (W.setCell a u).heap[b]? = W.heap[b]? := fun b hb => Below.heap_setCell W a u b hb
  have hz : (W.setCell a u).heap.size = W.heap.size := by simp
  refine ⟨R, hn.same hg (by omega) (fun b hb => hs b (by have := hN.n1; omega)) (fun j x d hj => ?_), ⟨?_, ?_, ?_, hv.lo, by have := hv.size; omega, fun b hb hm => (hs b (by omega)).trans (hv.same b hb hm), hv.ext⟩⟩
  · have : x ≠ a.block ∧ d ≠ a.block := by
      rcases hv.ext j with e | ⟨_, e, a', d', e', h3, h4⟩
      · rw [e] at hj
        have := hN.rows j x d hj
        omega
      · rw [e'] at hj
        simp only [Option.some.injEq, Prod.mk.injEq] at hj
        omega
    exact ⟨hs _ this.1, hs _ this.2⟩
  · exact (Below.setCell (Below.refl 0 W) (p := a) (Nat.zero_le _) u).os.trans hv.os
  · exact (Below.setCell (Below.refl 0 W) (p := a) (Nat.zero_le _) u).tape.trans hv.tape
  · exact (Below.setCell (Below.refl 0 W) (p := a) (Nat.zero_le _) u).output.trans hv.output
theorem St.drew {g : Gr} (hg : Geo g) {k : Nat} {R0 : Rws} {w W : World} {hi : Nat} (hN : Net g R0 w) (h : St g k R0 w hi W) : St g k R0 w hi W.drew := h.below hg hN (Below.refl _ W).drew
/-- What a call of layers from k on says. -/
def Asks (g : Gr) (k : Nat) (f : Nat) (args : Array Value) (X : Nat) : Prop := ∀ R w, Net g R w → Calls Tryz.prog f args w fun e w' => e = .returned (psV X) ∧ St g k R w w.heap.size w'
/-- Such a call from a world within another: local blocks stay. -/
theorem Asks.use {g : Gr} (hg : Geo g) {k k' f X : Nat} {args : Array Value} (h : Asks g k' f args X) (hk : k ≤ k') {R0 : Rws} {w : World} {hi : Nat} (hN : Net g R0 w) (W : World) (hS : St g k R0 w hi W) :
    Calls Tryz.prog f args W fun e w' => e = .returned (psV X) ∧ St g k R0 w hi w' ∧ (∀ b, w.heap.size ≤ b → b < hi → w'.heap[b]? = W.heap[b]?) ∧ W.heap.size ≤ w'.heap.size := by
  obtain ⟨R, hn, hv⟩ := hS
  refine (h R W hn).mono ?_
  rintro e w' ⟨he, R2, hn2, hv2⟩
  refine ⟨he, ⟨R2, hn2, hv.trans hg hN hk hv2⟩, fun b h1 h2 => hv2.same b (by have := hv.size; omega) (hN.far hg hv h1 h2 _), by have := hv2.size; have := hv2.lo; omega⟩
/-- From a world within: the call's own entry. -/
theorem St.out {g : Gr} {k : Nat} {R0 : Rws} {w W : World} {hi : Nat} (h : St g k R0 w hi W) : St g k R0 w w.heap.size W := by
  obtain ⟨R, hn, hv⟩ := h
  refine ⟨R, hn, ⟨hv.os, hv.tape, hv.output, Nat.le_refl _, by have := hv.lo; have := hv.size; omega, hv.same, fun j => ?_⟩⟩
  rcases hv.ext j with e | ⟨e1, e2, a, d, e3, e4, e5⟩
  · exact .inl e
  · have := hv.lo
    exact .inr ⟨e1, e2, a, d, e3, by omega, by omega⟩
theorem St.net {g : Gr} {k : Nat} {R0 : Rws} {w W : World} {hi : Nat} (h : St g k R0 w hi W) : Fix g W := by
  obtain ⟨R, hn, _⟩ := h
  exact hn.fix
theorem St.hi {g : Gr} {k : Nat} {R0 : Rws} {w W : World} {hi : Nat} (h : St g k R0 w hi W) : w.heap.size ≤ hi ∧ hi ≤ W.heap.size := by
  obtain ⟨R, hn, hv⟩ := h
  exact ⟨hv.lo, hv.size⟩
end Go.Proofs.YtfpeajbfimodfaaGreatDoor.net

/- The way of letters one behind the other: what holds between two rounds of its making. -/
import Derived.Test.YtfpeajbfimodfaaGreatDoorBack
import Derived.Test.YtfpeajbfimodfaaGreatDoorNet
namespace Go.Proofs.YtfpeajbfimodfaaGreatDoor.ci
open Go.ChangeShapes Go.WideShapes Go.ChangeAt Go.RowKit Go.Shelf
open Go.Proofs.YtfpeajbfimodfaaGreatDoor.bytes Go.Proofs.YtfpeajbfimodfaaGreatDoor.letters Go.Proofs.YtfpeajbfimodfaaGreatDoor.read Go.Proofs.YtfpeajbfimodfaaGreatDoor.places Go.Proofs.YtfpeajbfimodfaaGreatDoor.sets Go.Proofs.YtfpeajbfimodfaaGreatDoor.leaf Go.Proofs.YtfpeajbfimodfaaGreatDoor.made Go.Proofs.YtfpeajbfimodfaaGreatDoor.tz Go.Proofs.YtfpeajbfimodfaaGreatDoor.net Go.Proofs.YtfpeajbfimodfaaGreatDoor.back
set_option linter.unusedVariables false

def mkG (n1 : Nat) (ts ys : List Int) (rB rR kB kR : Nat) (tb fb rb c x : Nat → Nat) : Gr := { n1 := n1, ts := ts, ys := ys, rB := rB, rR := rR, kB := kB, kR := kR, tb := tb, fb := fb, rb := rb, c := c, x := x }
/-- A layer's blocks. -/
structure LayAt (g : Gr) (W : World) (lo k : Nat) : Prop where
  a0 : W.heap[g.x k]? = some (.cells #[.int .i64 (k : Int)] 3 (0, 0))
  a1 : W.heap[g.x k + 1]? = some (.cells #[leafV g k, .func (.func 44) #[] #[]] 52 (0, 0))
  a2 : W.heap[g.c k + 2]? = some (.cells #[.string (strOfNums g.ts)] 9 (0, 0))
  a3 : W.heap[g.c k + 3]? = some (.cells #[.func (.func 59) #[] #[.pointer (some ⟨g.x k + 1, 0, none⟩), .pointer (some ⟨g.rB, 0, none⟩), .pointer (some ⟨g.x k, 0, none⟩)]] 49 (0, 0))
  a4 : C1 W (g.c k + 4) (.slice none 0 0) 139
  a5 : C1 W (g.c k + 5) (.slice none 0 0) 140
  lo : lo ≤ g.x k ∧ lo ≤ g.c k + 2
/-- Cells stay. -/
def Keep1 (A B : World) : Prop := ∀ (b : Nat) (cs : Array Value) (t : TypeId) (f : Nat × Nat), A.heap[b]? = some (Obj.cells cs t f) → B.heap[b]? = some (Obj.cells cs t f)
theorem LayAt.keep {g : Gr} {A B : World} {lo k : Nat} (h : LayAt g A lo k) (hk : Keep1 A B) : LayAt g B lo k := ⟨hk _ _ _ _ h.a0, hk _ _ _ _ h.a1, hk _ _ _ _ h.a2, hk _ _ _ _ h.a3, hk _ _ _ _ h.a4, hk _ _ _ _ h.a5, h.lo⟩
structure Lays (g : Gr) (lo n m : Nat) (vals : Array Value) (W : World) : Prop where
  row : ∀ j, n - m ≤ j → j ≤ n → vals[j]? = some (restV g j)
  lay : ∀ k, n - m ≤ k → k + 1 < n → LayAt g W lo k
  apart : ∀ i j, n - m ≤ i → i < j → j + 1 < n → g.c j + 4 ≤ g.c i
  top : ∀ k, n - m ≤ k → k + 1 < n → g.c k + 6 ≤ W.heap.size
structure CI (w : World) (lo kB tB rs rR rB kR n : Nat) (ts ys : List Int) (tb fb rb : Nat → Nat) (pre : List { k : Nat // k < n }) (W : World) : Prop where
  below : Below w.heap.size w W
  kids : C1 W kB (.slice (some ⟨kR, 0, none⟩) n n) 109
  text : C1 W tB (.string (strOfNums ts)) 9
  res : W.heap[rs]? = some (.cells #[.nilFunc, .nilFunc] 52 (0, 0))
  rest : C1 W rB (.slice (some ⟨rR, 0, none⟩) (n + 1) (n + 1)) 121
  size : lo ≤ W.heap.size
  row : ∃ vals : Array Value, vals.size = n + 1 ∧ W.heap[rR]? = some (.cells vals 49 (0, 0)) ∧ (pre.map (·.1) = dn n pre.length → ∃ c x, Lays (mkG 0 ts ys rB rR kB kR tb fb rb c x) lo n pre.length vals W)
theorem CI.keep {w : World} {lo kB tB rs rR rB kR n : Nat} {ts ys : List Int} {tb fb rb : Nat → Nat} {pre : List { k : Nat // k < n }} {A B : World} (h : CI w lo kB tB rs rR rB kR n ts ys tb fb rb pre A) (hk : Keep1 A B) (hz : A.heap.size ≤ B.heap.size) (hb : Below w.heap.size w B) : CI w lo kB tB rs rR rB kR n ts ys tb fb rb pre B := by
  obtain ⟨vals, v1, v2, v3⟩ := h.row
  refine ⟨hb, hk _ _ _ _ h.kids, hk _ _ _ _ h.text, hk _ _ _ _ h.res, hk _ _ _ _ h.rest, Nat.le_trans h.size hz, vals, v1, hk _ _ _ _ v2, fun e => ?_⟩
  obtain ⟨c, x, l⟩ := v3 e
  exact ⟨c, x, l.row, fun k h1 h2 => (l.lay k h1 h2).keep hk, l.apart, fun k h1 h2 => Nat.le_trans (l.top k h1 h2) hz⟩
theorem keep_of {A B : World} (h : ∀ b, b < A.heap.size → B.heap[b]? = A.heap[b]?) : Keep1 A B := fun b cs t f hb => (h b (Array.getElem?_eq_some_iff.1 hb).1).trans hb
theorem keep_grown {A B : World} {row : Option Nat} (hg : A.grownBy B row) (hr : ∀ r, row = some r → ∃ o : Obj, A.heap[r]? = some o ∧ o.isCells = false) : Keep1 A B := by
  intro b cs t f hb
  refine (hg.block b (Array.getElem?_eq_some_iff.1 hb).1 ?_).trans hb
  intro e
  obtain ⟨o, ho, hc⟩ := hr b e.symm
  rw [hb] at ho
  cases ho
  cases hc
theorem CI.own {w : World} {lo kB tB rs rR rB kR n : Nat} {ts ys : List Int} {tb fb rb : Nat → Nat} (B : Nat) (hB : w.heap.size ≤ B) : OwnFrom B (fun (pre : List { k : Nat // k < n }) W => CI w lo kB tB rs rR rB kR n ts ys tb fb rb pre W) :=
  fun s A A' row hs hg hr => hs.keep (keep_grown hg (fun r e => (hr r e).2)) hg.size (hs.below.grown hg hs.below.size (fun k e => Nat.le_trans hB (hr k e).1))
theorem vals_set {vals : Array Value} {n x : Nat} {v : Value} (h : vals.size = n + 1) (hx : x < n) (j : Nat) : (vals.setIfInBounds x v)[j]? = if j = x then some v else vals[j]? := by
  rw [Array.getElem?_setIfInBounds]
  by_cases e : x = j
  · subst e
    simp
    omega
  · rw [if_neg e, if_neg (fun h => e h.symm)]
/-- A valid sequence's next number. -/
theorem dn_next {n : Nat} {pre : List { k : Nat // k < n }} {x : { k : Nat // k < n }} (h : (pre ++ [x]).map (·.1) = dn n (pre ++ [x]).length) : pre.map (·.1) = dn n pre.length ∧ x.1 = n - 1 - pre.length := by
  rw [List.length_append, List.length_singleton, dn_succ, List.map_append] at h
  have h2 := List.append_inj h (by simp [dn_length])
  refine ⟨h2.1, ?_⟩
  have := h2.2
  simpa using this
/-- The round of the last letter. -/
theorem CI.last {w : World} {lo kB tB rs rR rB kR n : Nat} {ts ys : List Int} {tb fb rb : Nat → Nat} {pre : List { k : Nat // k < n }} {W : World} (h : CI w lo kB tB rs rR rB kR n ts ys tb fb rb pre W) (hn : n = ys.length) (hord : w.heap.size ≤ kB ∧ kB < tB ∧ tB < rs ∧ rs < rR ∧ rR < rB ∧ rB < lo) (hpl : pre.length < n) (x : { k : Nat // k < n }) (hx : x.1 + 1 = n) :
    CI w lo kB tB rs rR rB kR n ts ys tb fb rb (pre ++ [x]) (W.setCell ⟨rR, x.1, none⟩ (.func (.func 83) #[] #[.pointer (some ⟨tb x.1, 0, none⟩), .pointer (some ⟨fb x.1, 0, none⟩)])) := by
  obtain ⟨vals, v1, v2, v3⟩ := h.row
  have hs : ∀ b, b ≠ rR → (W.setCell ⟨rR, x.1, none⟩ (.func (.func 83) #[] #[.pointer (some ⟨tb x.1, 0, none⟩), .pointer (some ⟨fb x.1, 0, none⟩)])).heap[b]? = W.heap[b]? := fun b hb => Below.heap_setCell W _ _ b hb
  refine ⟨h.below.setCell (p := ⟨rR, x.1, none⟩) (by simp; omega) _, (hs _ (by omega)).trans h.kids, (hs _ (by omega)).trans h.text, (hs _ (by omega)).trans h.res, (hs _ (by omega)).trans h.rest, by simp; exact h.size, _, ?_, heap_setCell_same W rR x.1 vals 49 _ v2, fun e => ?_⟩
  · simp [v1]
  · obtain ⟨e1, e2⟩ := dn_next e
    have hm : pre.length = 0 := by omega
    obtain ⟨c, y, l⟩ := v3 e1
    refine ⟨c, y, fun j h1 h2 => ?_, fun k h1 h2 => ?_, fun i j h1 h2 h3 => ?_, fun k h1 h2 => ?_⟩
    · rw [vals_set v1 x.2]
      by_cases ej : j = x.1
      · rw [if_pos ej]
        subst ej
        unfold restV
        rw [if_neg (by show ¬ x.1 = ys.length; omega), if_pos (by show x.1 + 1 = ys.length; omega)]
        rfl
      · rw [if_neg ej]
        refine l.row j ?_ h2
        simp at h1
        omega
    · simp at h1
      omega
    · simp at h1
      omega
    · simp at h1
      omega
/-- The world behind a call of known. -/
def knW (W : World) (S : ByteArray) (fn : Fn) (cp : Array Value) : World := (((W.alloc (.cells #[.string S] 9)).alloc (.cells #[.func fn #[] cp] 49)).alloc (.cells #[.slice none 0 0] 139)).alloc (.cells #[.slice none 0 0] 140)
theorem knW_facts (W : World) (S : ByteArray) (fn : Fn) (cp : Array Value) :
    (∀ b, b < W.heap.size → (knW W S fn cp).heap[b]? = W.heap[b]?) ∧ (knW W S fn cp).heap.size = W.heap.size + 4 ∧ (knW W S fn cp).heap[W.heap.size]? = some (.cells #[.string S] 9 (0, 0)) ∧ (knW W S fn cp).heap[W.heap.size + 1]? = some (.cells #[.func fn #[] cp] 49 (0, 0)) ∧ C1 (knW W S fn cp) (W.heap.size + 2) (.slice none 0 0) 139 ∧ C1 (knW W S fn cp) (W.heap.size + 3) (.slice none 0 0) 140 := by
  unfold knW
  refine ⟨fun b hb => ?_, by simp, ?_, ?_, ?_, ?_⟩
  · rw [Below.heap_alloc _ _ _ (by simp; omega), Below.heap_alloc _ _ _ (by simp; omega), Below.heap_alloc _ _ _ (by simp; omega), Below.heap_alloc _ _ _ hb]
  · rw [Below.heap_alloc _ _ _ (by simp; omega), Below.heap_alloc _ _ _ (by simp; omega), Below.heap_alloc _ _ _ (by simp)]
    exact heap_alloc_new W _
  · rw [Below.heap_alloc _ _ _ (by simp), Below.heap_alloc _ _ _ (by simp)]
    have h := heap_alloc_new (W.alloc (.cells #[.string S] 9)) (.cells #[.func fn #[] cp] 49)
    rw [show (W.alloc (.cells #[.string S] 9)).heap.size = W.heap.size + 1 by simp] at h
    exact h
  · unfold C1
    rw [Below.heap_alloc _ _ _ (by simp)]
    have h := heap_alloc_new ((W.alloc (.cells #[.string S] 9)).alloc (.cells #[.func fn #[] cp] 49)) (.cells #[.slice none 0 0] 139)
    rw [show ((W.alloc (.cells #[.string S] 9)).alloc (.cells #[.func fn #[] cp] 49)).heap.size = W.heap.size + 2 by simp] at h
    exact h
  · have h := heap_alloc_new (((W.alloc (.cells #[.string S] 9)).alloc (.cells #[.func fn #[] cp] 49)).alloc (.cells #[.slice none 0 0] 139)) (.cells #[.slice none 0 0] 140)
    rw [show (((W.alloc (.cells #[.string S] 9)).alloc (.cells #[.func fn #[] cp] 49)).alloc (.cells #[.slice none 0 0] 139)).heap.size = W.heap.size + 3 by simp] at h
    exact h
/-- The round of another letter. -/
theorem CI.more {w : World} {lo kB tB rs rR rB kR n : Nat} {ts ys : List Int} {tb fb rb : Nat → Nat} {pre : List { k : Nat // k < n }} {W : World} (h : CI w lo kB tB rs rR rB kR n ts ys tb fb rb pre W) (hn : n = ys.length) (hord : w.heap.size ≤ kB ∧ kB < tB ∧ tB < rs ∧ rs < rR ∧ rR < rB ∧ rB < lo) (hpl : pre.length < n) (x : { k : Nat // k < n }) (hx : x.1 + 1 < n) (Bx : Nat) (hBx : lo ≤ Bx)
    (b0 : W.heap[Bx]? = some (.cells #[.int .i64 (x.1 : Int)] 3 (0, 0))) (b1 : W.heap[Bx + 1]? = some (.cells #[.func (.func 83) #[] #[.pointer (some ⟨tb x.1, 0, none⟩), .pointer (some ⟨fb x.1, 0, none⟩)], .func (.func 44) #[] #[]] 52 (0, 0))) :
    CI w lo kB tB rs rR rB kR n ts ys tb fb rb (pre ++ [x]) ((knW (W.setCell ⟨rR, x.1, none⟩ (.func (.func 83) #[] #[.pointer (some ⟨tb x.1, 0, none⟩), .pointer (some ⟨fb x.1, 0, none⟩)])) (strOfNums ts) (.func 59) #[.pointer (some ⟨Bx + 1, 0, none⟩), .pointer (some ⟨rB, 0, none⟩), .pointer (some ⟨Bx, 0, none⟩)]).setCell ⟨rR, x.1, none⟩ (.func (.func 78) #[] #[.pointer (some ⟨W.heap.size + 2, 0, none⟩), .pointer (some ⟨W.heap.size, 0, none⟩), .pointer (some ⟨W.heap.size + 3, 0, none⟩), .pointer (some ⟨W.heap.size + 1, 0, none⟩)])) := by
  obtain ⟨vals, v1, v2, v3⟩ := h.row
  obtain ⟨W1, hW1⟩ : ∃ W1, W1 = W.setCell ⟨rR, x.1, none⟩ (.func (.func 83) #[] #[.pointer (some ⟨tb x.1, 0, none⟩), .pointer (some ⟨fb x.1, 0, none⟩)]) := ⟨_, rfl⟩
  have hs1 : ∀ b, b ≠ rR → W1.heap[b]? = W.heap[b]? := fun b hb => by rw [hW1]; exact Below.heap_setCell W _ _ b hb
  have hz1 : W1.heap.size = W.heap.size := by rw [hW1]; simp
  have r1 : W1.heap[rR]? = some (.cells (vals.setIfInBounds x.1 (.func (.func 83) #[] #[.pointer (some ⟨tb x.1, 0, none⟩), .pointer (some ⟨fb x.1, 0, none⟩)])) 49 (0, 0)) := by rw [hW1]; exact heap_setCell_same W rR x.1 vals 49 _ v2
  have hB1 : Below w.heap.size w W1 := by rw [hW1]; exact h.below.setCell (p := ⟨rR, x.1, none⟩) (by simp; omega) _
  rw [← hW1]
  obtain ⟨f1, f2, f3, f4, f5, f6⟩ := knW_facts W1 (strOfNums ts) (.func 59) #[.pointer (some ⟨Bx + 1, 0, none⟩), .pointer (some ⟨rB, 0, none⟩), .pointer (some ⟨Bx, 0, none⟩)]
  have hB2 : Below w.heap.size w (knW W1 (strOfNums ts) (.func 59) #[.pointer (some ⟨Bx + 1, 0, none⟩), .pointer (some ⟨rB, 0, none⟩), .pointer (some ⟨Bx, 0, none⟩)]) := by
    have h9 := hB1.size
    unfold knW
    exact (((hB1.alloc h9 _).alloc (by simp; omega) _).alloc (by simp; omega) _).alloc (by simp; omega) _
  generalize knW W1 (strOfNums ts) (.func 59) #[.pointer (some ⟨Bx + 1, 0, none⟩), .pointer (some ⟨rB, 0, none⟩), .pointer (some ⟨Bx, 0, none⟩)] = W2 at *
  rw [hz1] at f1 f2 f3 f4 f5 f6
  have hlo := h.size
  have hz2 := f2
  have hs2 : ∀ b, b < W.heap.size → b ≠ rR → W2.heap[b]? = W.heap[b]? := fun b hb hne => (f1 b hb).trans (hs1 b hne)
  have r2 : W2.heap[rR]? = some (.cells (vals.setIfInBounds x.1 (.func (.func 83) #[] #[.pointer (some ⟨tb x.1, 0, none⟩), .pointer (some ⟨fb x.1, 0, none⟩)])) 49 (0, 0)) := (f1 rR (by omega)).trans r1
  obtain ⟨V, hV⟩ : ∃ V : Value, V = .func (.func 78) #[] #[.pointer (some ⟨W.heap.size + 2, 0, none⟩), .pointer (some ⟨W.heap.size, 0, none⟩), .pointer (some ⟨W.heap.size + 3, 0, none⟩), .pointer (some ⟨W.heap.size + 1, 0, none⟩)] := ⟨_, rfl⟩
  rw [← hV]
  have hs : ∀ b, b ≠ rR → (W2.setCell ⟨rR, x.1, none⟩ V).heap[b]? = W2.heap[b]? := fun b hb => Below.heap_setCell W2 _ _ b hb
  have hbx := (Array.getElem?_eq_some_iff.1 b1).1
  refine ⟨hB2.setCell (p := ⟨rR, x.1, none⟩) (by simp; omega) _, (hs _ (by omega)).trans ((hs2 _ (by omega) (by omega)).trans h.kids), (hs _ (by omega)).trans ((hs2 _ (by omega) (by omega)).trans h.text), (hs _ (by omega)).trans ((hs2 _ (by omega) (by omega)).trans h.res), (hs _ (by omega)).trans ((hs2 _ (by omega) (by omega)).trans h.rest), by simp; omega, _, ?_, heap_setCell_same W2 rR x.1 _ 49 _ r2, fun e => ?_⟩
  · simp [v1]
  · obtain ⟨e1, e2⟩ := dn_next e
    obtain ⟨c, y, l⟩ := v3 e1
    have hpl2 : (pre ++ [x]).length = pre.length + 1 := by simp
    have hv2 : (vals.setIfInBounds x.1 (.func (.func 83) #[] #[.pointer (some ⟨tb x.1, 0, none⟩), .pointer (some ⟨fb x.1, 0, none⟩)])).size = n + 1 := by simp [v1]
    have keepL : ∀ k, n - pre.length ≤ k → k + 1 < n → LayAt (mkG 0 ts ys rB rR kB kR tb fb rb c y) (W2.setCell ⟨rR, x.1, none⟩ V) lo k := by
      intro k h1 h2
      have q := l.lay k h1 h2
      have q1 := q.lo.1
      have q2 := q.lo.2
      simp only [mkG] at q1 q2
      have t0 := (Array.getElem?_eq_some_iff.1 q.a0).1
      have t1 := (Array.getElem?_eq_some_iff.1 q.a1).1
      have t2 := (Array.getElem?_eq_some_iff.1 q.a5).1
      simp only [mkG] at t0 t1 t2
      have k9 : ∀ b, lo ≤ b → b < W.heap.size → (W2.setCell ⟨rR, x.1, none⟩ V).heap[b]? = W.heap[b]? := fun b hb1 hb2 => (hs b (by omega)).trans (hs2 b hb2 (by omega))
      exact ⟨(k9 _ (by simp only [mkG]; omega) (by simp only [mkG]; omega)).trans q.a0, (k9 _ (by simp only [mkG]; omega) (by simp only [mkG]; omega)).trans q.a1, (k9 _ (by simp only [mkG]; omega) (by simp only [mkG]; omega)).trans q.a2, (k9 _ (by simp only [mkG]; omega) (by simp only [mkG]; omega)).trans q.a3, (k9 _ (by simp only [mkG]; omega) (by simp only [mkG]; omega)).trans q.a4, (k9 _ (by simp only [mkG]; omega) (by simp only [mkG]; omega)).trans q.a5, q.lo⟩
    refine ⟨fun k => if k = x.1 then W.heap.size - 2 else c k, fun k => if k = x.1 then Bx else y k, fun j h1 h2 => ?_, fun k h1 h2 => ?_, fun i j h1 h2 h3 => ?_, fun k h1 h2 => ?_⟩
    · rw [vals_set hv2 x.2]
      rw [hpl2] at h1
      by_cases ej : j = x.1
      · rw [if_pos ej]
        subst ej
        unfold restV
        rw [if_neg (by show ¬ x.1 = ys.length; omega), if_neg (by show ¬ x.1 + 1 = ys.length; omega), hV]
        simp only [mkG, if_true]
        rw [show W.heap.size - 2 + 4 = W.heap.size + 2 by omega, show W.heap.size - 2 + 2 = W.heap.size by omega, show W.heap.size - 2 + 5 = W.heap.size + 3 by omega, show W.heap.size - 2 + 3 = W.heap.size + 1 by omega]
      · rw [if_neg ej, vals_set v1 x.2, if_neg ej, l.row j (by omega) h2]
        unfold restV leafV mkG
        simp only [if_neg ej]
    · rw [hpl2] at h1
      by_cases ek : k = x.1
      · subst ek
        refine ⟨?_, ?_, ?_, ?_, ?_, ?_, ?_⟩
        · simp only [mkG, if_true]
          exact (hs _ (by omega)).trans ((hs2 _ (by omega) (by omega)).trans b0)
        · simp only [mkG, if_true]
          exact (hs _ (by omega)).trans ((hs2 _ (by omega) (by omega)).trans b1)
        · simp only [mkG, if_true]
          rw [show W.heap.size - 2 + 2 = W.heap.size by omega]
          exact (hs _ (by omega)).trans f3
        · simp only [mkG, if_true]
          rw [show W.heap.size - 2 + 3 = W.heap.size + 1 by omega]
          exact (hs _ (by omega)).trans f4
        · simp only [mkG, if_true]
          rw [show W.heap.size - 2 + 4 = W.heap.size + 2 by omega]
          exact (hs _ (by omega)).trans f5
        · simp only [mkG, if_true]
          rw [show W.heap.size - 2 + 5 = W.heap.size + 3 by omega]
          exact (hs _ (by omega)).trans f6
        · simp only [mkG, if_true]
          omega
      · have q := keepL k (by omega) h2
        refine ⟨?_, ?_, ?_, ?_, ?_, ?_, ?_⟩
        · simp only [mkG, if_neg ek]; exact q.a0
        · simp only [mkG, if_neg ek]; exact q.a1
        · simp only [mkG, if_neg ek]; exact q.a2
        · simp only [mkG, if_neg ek]; exact q.a3
        · simp only [mkG, if_neg ek]; exact q.a4
        · simp only [mkG, if_neg ek]; exact q.a5
        · simp only [mkG, if_neg ek]; exact q.lo
    · rw [hpl2] at h1
      simp only [mkG]
      rw [if_neg (by omega : ¬ j = x.1)]
      by_cases ei : i = x.1
      · rw [if_pos ei]
        have := l.top j (by omega) h3
        simp only [mkG] at this
        omega
      · rw [if_neg ei]
        exact l.apart i j (by omega) h2 h3
    · rw [hpl2] at h1
      simp only [mkG, World.size_setCell]
      by_cases ek : k = x.1
      · rw [if_pos ek]
        omega
      · rw [if_neg ek]
        have := l.top k (by omega) h2
        simp only [mkG] at this
        omega
/-- A block that is none of the net's. -/
structure Out (g : Gr) (b : Nat) : Prop where
  one : b ≠ 1
  fixed : b ≠ g.rB ∧ b ≠ g.rR ∧ b ≠ g.kB ∧ b ≠ g.kR
  leaf : ∀ k, k < g.ys.length → b ≠ g.tb k ∧ b ≠ g.fb k ∧ b ≠ g.rb k
  lay : ∀ k, k + 1 < g.ys.length → b ≠ g.x k ∧ b ≠ g.x k + 1 ∧ b ≠ g.c k + 2 ∧ b ≠ g.c k + 3 ∧ b ≠ g.c k + 4 ∧ b ≠ g.c k + 5
theorem Net.patch {g : Gr} {W : World} (h : Net g (fun _ => none) W) {b : Nat} (hb : Out g b) (i : Nat) (v : Value) : Net g (fun _ => none) (W.setCell ⟨b, i, none⟩ v) := by
  have hs : ∀ b', b ≠ b' → (W.setCell ⟨b, i, none⟩ v).heap[b']? = W.heap[b']? := fun b' hne => Below.heap_setCell W _ _ b' (fun e => hne e.symm)
  have hF := h.fix
  refine ⟨⟨?_, ?_, ?_, ?_, ?_, ?_, ?_⟩, by simp; exact h.n1, ?_, ?_, ?_⟩
  · exact fun j hj => (World.cell?_of_block (a := ⟨1, j, none⟩) (hs 1 hb.one)).trans (hF.tab j hj)
  · exact fun k hk => ⟨(World.cell?_of_block (hs _ (hb.leaf k hk).1)).trans (hF.leaf k hk).text, (World.cell?_of_block (hs _ (hb.leaf k hk).2.1)).trans (hF.leaf k hk).asks, (World.cell?_of_block (hs _ (hb.leaf k hk).2.2)).trans (hF.leaf k hk).node⟩
  · exact (World.cell?_of_block (hs _ hb.fixed.1)).trans hF.rest
  · exact fun k hk => (World.cell?_of_block (hs _ hb.fixed.2.1)).trans (hF.restRow k hk)
  · exact (World.cell?_of_block (hs _ hb.fixed.2.2.1)).trans hF.kids
  · exact fun k hk => ⟨(World.cell?_of_block (hs _ hb.fixed.2.2.2)).trans (hF.kidRow k hk).1, (World.cell?_of_block (hs _ hb.fixed.2.2.2)).trans (hF.kidRow k hk).2⟩
  · exact fun k hk => ⟨(World.cell?_of_block (hs _ (hb.lay k hk).1)).trans (hF.lay k hk).1, (World.cell?_of_block (hs _ (hb.lay k hk).2.1)).trans (hF.lay k hk).2.1, (World.cell?_of_block (hs _ (hb.lay k hk).2.2.1)).trans (hF.lay k hk).2.2.1, (World.cell?_of_block (hs _ (hb.lay k hk).2.2.2.1)).trans (hF.lay k hk).2.2.2⟩
  · intro j hj
    exact (h.memo j hj).same (hs _ (hb.lay j hj).2.2.2.2.1) (hs _ (hb.lay j hj).2.2.2.2.2) (fun a d e => by cases e)
  · intro j a d e
    cases e
  · intro i j a d a' d' hij e
    cases e
theorem ne_tag {W : World} {b b' : Nat} {u u' : Array Value} {t t' : TypeId} {f f' : Nat × Nat} (h : W.heap[b]? = some (Obj.cells u t f)) (h' : W.heap[b']? = some (Obj.cells u' t' f')) (hne : t ≠ t') : b ≠ b' := by
  intro e
  subst e
  rw [h] at h'
  simp only [Option.some.injEq, Obj.cells.injEq] at h'
  exact hne h'.2.1
theorem cell_one {W : World} {b : Nat} {u : Array Value} {t : TypeId} {f : Nat × Nat} (h : W.heap[b]? = some (Obj.cells u t f)) (i : Nat) : W.cell? ⟨b, i, none⟩ = u[i]? := by simp only [World.cell?, h]; rfl
/-- The net stands. -/
theorem CI.net {w : World} {lo kB tB rs rR rB kR n : Nat} {ts ys : List Int} {tb fb rb : Nat → Nat} {pre : List { k : Nat // k < n }} {W W' : World} (h : CI w lo kB tB rs rR rB kR n ts ys tb fb rb pre W) (hn : n = ys.length) (hn1 : 1 ≤ n) (hn8 : n ≤ 8) (hord : w.heap.size ≤ kB ∧ kB < tB ∧ tB < rs ∧ rs < rR ∧ rR < rB ∧ rB < lo)
    (vals : Array Value) (v2 : W.heap[rR]? = some (.cells vals 49 (0, 0))) (c x : Nat → Nat) (l : Lays (mkG 0 ts ys rB rR kB kR tb fb rb c x) lo n n vals W)
    (hK : ∀ (b : Nat) (cs : Array Value) (t : TypeId) (f : Nat × Nat), b ≠ rs → W.heap[b]? = some (Obj.cells cs t f) → W'.heap[b]? = some (Obj.cells cs t f)) (hz : W.heap.size ≤ W'.heap.size) (hb : Below w.heap.size w W')
    (hl : ts.length ≤ 22) (hts : ∀ t ∈ ts, 0 ≤ t ∧ t ≤ 255) (hT : TabIn w) (h1 : 1 < w.heap.size) (hkR : kR < w.heap.size)
    (hc : ∀ k, k < n → w.cell? ⟨kR, k * 2, none⟩ = some (.func (.func 83) #[] #[.pointer (some ⟨tb k, 0, none⟩), .pointer (some ⟨fb k, 0, none⟩)]) ∧ w.cell? ⟨kR, k * 2 + 1, none⟩ = some (.func (.func 44) #[] #[]))
    (hL : ∀ k, k < n → Leaf w (tb k) (fb k) (rb k) ts (ys.getD k 0)) :
    Geo (mkG W'.heap.size ts ys rB rR kB kR tb fb rb c x) ∧ Net (mkG W'.heap.size ts ys rB rR kB kR tb fb rb c x) (fun _ => none) W' := by
  have hlo := h.size
  have lay : ∀ k, k + 1 < n → LayAt (mkG W'.heap.size ts ys rB rR kB kR tb fb rb c x) W' lo k := by
    intro k hk
    have q := l.lay k (by omega) hk
    have q1 := q.lo.1
    have q2 := q.lo.2
    simp only [mkG] at q1 q2
    exact ⟨hK _ _ _ _ (by simp only [mkG]; omega) q.a0, hK _ _ _ _ (by simp only [mkG]; omega) q.a1, hK _ _ _ _ (by simp only [mkG]; omega) q.a2, hK _ _ _ _ (by simp only [mkG]; omega) q.a3, hK _ _ _ _ (by simp only [mkG]; omega) q.a4, hK _ _ _ _ (by simp only [mkG]; omega) q.a5, q.lo⟩
  have row' : W'.heap[rR]? = some (.cells vals 49 (0, 0)) := hK _ _ _ _ (by omega) v2
  have old : ∀ b, b < lo → Fixd (mkG W'.heap.size ts ys rB rR kB kR tb fb rb c x) b := by
    intro b hb'
    refine ⟨by simp only [mkG]; omega, fun j hj => ?_⟩
    simp only [mkG] at hj ⊢
    have q := (lay j (by omega)).lo.2
    simp only [mkG] at q
    omega
  have tag : ∀ b u t f, W'.heap[b]? = some (Obj.cells u t f) → t ≠ 139 → t ≠ 140 → Fixd (mkG W'.heap.size ts ys rB rR kB kR tb fb rb c x) b := by
    intro b u t f hb' h9 h0
    refine ⟨(Array.getElem?_eq_some_iff.1 hb').1, fun j hj => ?_⟩
    have q := lay j (by simp only [mkG] at hj; omega)
    exact ⟨ne_tag hb' q.a4 h9, ne_tag hb' q.a5 h0⟩
  have hlf : ∀ k, k < n → tb k < w.heap.size ∧ fb k < w.heap.size ∧ rb k < w.heap.size := fun k hk => ⟨cell_lt (hL k hk).text, cell_lt (hL k hk).asks, cell_lt (hL k hk).node⟩
  refine ⟨⟨old 1 (by omega), fun k hk => ?_, old _ (by simp only [mkG]; omega), old _ (by simp only [mkG]; omega), old _ (by simp only [mkG]; omega), old _ (by simp only [mkG]; omega), fun k hk => ?_, fun i j hi hj hij => ?_, hl, by simp only [mkG]; omega, by simp only [mkG]; omega, hts⟩, ⟨⟨?_, ?_, ?_, ?_, ?_, ?_, ?_⟩, Nat.le_refl _, ?_, ?_, ?_⟩⟩
  · simp only [mkG] at hk
    have q := hlf k (by omega)
    exact ⟨old _ (by simp only [mkG]; omega), old _ (by simp only [mkG]; omega), old _ (by simp only [mkG]; omega)⟩
  · simp only [mkG] at hk
    have q := lay k (by omega)
    refine ⟨tag _ _ _ _ q.a0 (by decide) (by decide), tag _ _ _ _ q.a1 (by decide) (by decide), tag _ _ _ _ q.a2 (by decide) (by decide), tag _ _ _ _ q.a3 (by decide) (by decide), ?_⟩
    exact (Array.getElem?_eq_some_iff.1 q.a5).1
  · simp only [mkG] at hi hj ⊢
    rcases Nat.lt_or_gt_of_ne hij with e | e
    · have q := l.apart i j (by omega) e (by omega)
      simp only [mkG] at q
      omega
    · have q := l.apart j i (by omega) e (by omega)
      simp only [mkG] at q
      omega
  · exact hT.below hb h1
  · intro k hk
    simp only [mkG] at hk ⊢
    have q := hlf k (by omega)
    have q2 := hL k (by omega)
    exact ⟨(hb.cell (p := ⟨tb k, 0, none⟩) q.1).trans q2.text, (hb.cell (p := ⟨fb k, 0, none⟩) q.2.1).trans q2.asks, (hb.cell (p := ⟨rb k, 1, none⟩) q.2.2).trans q2.node⟩
  · have q := (hK _ _ _ _ (by omega) h.rest)
    simp only [mkG, ← hn]
    rw [cell_one q]
    rfl
  · intro k hk
    simp only [mkG] at hk ⊢
    rw [cell_one row', l.row k (by omega) (by omega)]
    rfl
  · have q := (hK _ _ _ _ (by omega) h.kids)
    simp only [mkG, ← hn]
    rw [cell_one q]
    rfl
  · intro k hk
    simp only [mkG] at hk ⊢
    exact ⟨(hb.cell (p := ⟨kR, k * 2, none⟩) hkR).trans (hc k (by omega)).1, (hb.cell (p := ⟨kR, k * 2 + 1, none⟩) hkR).trans (hc k (by omega)).2⟩
  · intro k hk
    simp only [mkG] at hk
    have q := lay k (by omega)
    refine ⟨?_, ?_, ?_, ?_⟩
    · rw [cell_one q.a0]; rfl
    · rw [cell_one q.a1]; rfl
    · rw [cell_one q.a2]; rfl
    · rw [cell_one q.a3]; rfl
  · intro j hj
    simp only [mkG] at hj
    have q := lay j (by omega)
    exact .inl ⟨rfl, q.a4, q.a5⟩
  · intro j a d hj
    cases hj
  · intro i j a d a' d' hij hi
    cases hi
end Go.Proofs.YtfpeajbfimodfaaGreatDoor.ci

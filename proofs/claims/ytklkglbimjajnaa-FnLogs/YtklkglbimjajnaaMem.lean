/- Memory that is written no more: frozen blocks, and what is read in them: rows, bytes, records, messages. -/
import Derived.Test.YtklkglbimjajnaaRaftF
import Derived.WalkKit
import Derived.ProofKit
import Derived.Below
import Derived.Laws.OwnMore
import Derived.Laws.Rows
namespace Go.Proofs.Ytklkglbimjajnaa.mem
open Go.ChangeShapes Go.WideShapes Go.ChangeAt Go.RowKit
open Go.Proofs.Ytklkglbimjajnaa.Raft
set_option linter.unusedVariables false

/-- Blocks that are written no more, and what they hold. -/
abbrev Fz := Nat → Option Obj
def In (M : Fz) (w : World) : Prop := ∀ b o, M b = some o → w.heap[b]? = some o
def Le (M M' : Fz) : Prop := ∀ b o, M b = some o → M' b = some o
def add (M : Fz) (b : Nat) (o : Obj) : Fz := fun x => if x = b then some o else M x
def cellM (M : Fz) (b i : Nat) : Option Value := match M b with
  | some (.cells cur _ _) => cur[i]?
  | _ => none

theorem Le.refl (M : Fz) : Le M M := fun _ _ h => h
theorem Le.trans {A B C : Fz} (h : Le A B) (k : Le B C) : Le A C := fun b o hb => k b o (h b o hb)
theorem Le.add {M : Fz} {b : Nat} (h : M b = none) (o : Obj) : Le M (add M b o) := fun x p hx => by
  unfold mem.add
  split
  · rename_i e; subst e; rw [h] at hx; cases hx
  · exact hx
theorem add_at (M : Fz) (b : Nat) (o : Obj) : add M b o b = some o := by simp [add]
theorem add_other {M : Fz} {b x : Nat} (h : x ≠ b) (o : Obj) : add M b o x = M x := by simp [add, h]
theorem In.cell {M : Fz} {w : World} (h : In M w) {b i : Nat} {v : Value} (hc : cellM M b i = some v) : w.cell? ⟨b, i, none⟩ = some v := by
  unfold cellM at hc
  split at hc
  · rename_i cur t fr e
    simp [World.cell?, h b _ e, hc]
  · cases hc
theorem Le.cell {M M' : Fz} (h : Le M M') {b i : Nat} {v : Value} (hc : cellM M b i = some v) : cellM M' b i = some v := by
  unfold cellM at hc ⊢
  split at hc
  · rename_i cur t fr e
    rw [h b _ e]
    exact hc
  · cases hc
theorem In.lt {M : Fz} {w : World} (h : In M w) {b : Nat} {o : Obj} (hb : M b = some o) : b < w.heap.size := (Array.getElem?_eq_some_iff.1 (h b o hb)).1
theorem In.fresh {M : Fz} {w : World} (h : In M w) {b : Nat} (hb : w.heap.size ≤ b) : M b = none := by
  cases e : M b with
  | none => rfl
  | some o => have := h.lt e; omega
theorem In.below {M : Fz} {w w' : World} (h : In M w) (hb : Below w.heap.size w w') : In M w' := fun b o e => (hb.block b (h.lt e)).trans (h b o e)
theorem In.grown {M : Fz} {w w' : World} {row : Option Nat} (h : In M w) (g : w.grownBy w' row) (hr : ∀ k, row = some k → M k = none) : In M w' := fun b o e => (g.block b (h.lt e) (fun e' => by rw [hr b e'.symm] at e; cases e)).trans (h b o e)
theorem In.set {M : Fz} {w : World} (h : In M w) {a : Addr} (ha : M a.block = none) (v : Value) : In M (w.setCell a v) := fun b o e => (Below.heap_setCell w a v b (fun e' => by rw [e', ha] at e; cases e)).trans (h b o e)
theorem In.add {M : Fz} {w : World} (h : In M w) {b : Nat} {o : Obj} (hb : w.heap[b]? = some o) : In (add M b o) w := fun x p hx => by
  unfold mem.add at hx
  split at hx
  · rename_i e; subst e; rw [hb]; exact hx
  · exact h x p hx
theorem cellM_lt {M : Fz} {w : World} (h : In M w) {b i : Nat} {v : Value} (hc : cellM M b i = some v) : b < w.heap.size := by
  unfold cellM at hc
  split at hc
  · rename_i e; exact h.lt e
  · cases hc
theorem cellM_in {M : Fz} {b i : Nat} {v : Value} (hc : cellM M b i = some v) : M b ≠ none := fun e => by simp [cellM, e] at hc

/-- The slice value v reads, among the frozen blocks, as n elements of sz cells each: these. -/
def RowM (M : Fz) (v : Value) (n sz : Nat) (xs : List Value) : Prop :=
  ∃ ao cap, v = .slice ao n cap ∧ n ≤ cap ∧ cap ≤ maxLen ∧ xs.length = n * sz ∧ (ao = none → n = 0 ∧ cap = 0) ∧
    (0 < n → ∃ b off, ao = some ⟨b, off, none⟩ ∧ ∀ i v, xs[i]? = some v → cellM M b (off + i) = some v)
theorem RowM.le {M M' : Fz} {v : Value} {n sz : Nat} {xs : List Value} (h : RowM M v n sz xs) (hl : Le M M') : RowM M' v n sz xs := by
  obtain ⟨ao, cap, rfl, h1, h2, h3, h4, h5⟩ := h
  refine ⟨ao, cap, rfl, h1, h2, h3, h4, fun hp => ?_⟩
  obtain ⟨b, off, rfl, hc⟩ := h5 hp
  exact ⟨b, off, rfl, fun i v hv => hl.cell (hc i v hv)⟩
theorem RowM.nil (M : Fz) (sz : Nat) : RowM M (.slice none 0 0) 0 sz [] := ⟨none, 0, rfl, Nat.le_refl _, by simp [maxLen], by simp, fun _ => ⟨rfl, rfl⟩, fun h => by omega⟩

/-- A row of the call's own is frozen. -/
theorem RowM.freeze {M : Fz} {w : World} {base e sz : Nat} {v : Value} {n : Nat} {xs : List Value} (h : w.ownsRow base e sz v n xs) (hI : In M w) (hM : ∀ g, v.ownBlock = some g → M g = none) :
    ∃ M', Le M M' ∧ In M' w ∧ RowM M' v n sz xs ∧ ∀ b, M' b ≠ none → M b ≠ none ∨ v.ownBlock = some b := by
  obtain ⟨h1, ⟨rfl, rfl⟩ | ⟨g, cap, cur, rfl, hb, hg, hnc, hcm, hcs, ht⟩⟩ := h
  · obtain rfl : xs = [] := List.length_eq_zero_iff.1 (by omega)
    exact ⟨M, Le.refl M, hI, RowM.nil M sz, fun b hb => .inl hb⟩
  · refine ⟨add M g (.cells cur e (0, 0)), Le.add (hM g rfl) _, hI.add hg, ⟨_, cap, rfl, hnc, hcm, h1, (fun h => by cases h), fun hp => ⟨g, 0, rfl, fun i v hv => ?_⟩⟩, fun b hb => ?_⟩
    · have hi : i < n * sz := by rw [← h1]; exact (List.getElem?_eq_some_iff.1 hv).1
      rw [← ht, List.getElem?_take_of_lt hi] at hv
      simp only [cellM, add_at, Nat.zero_add]
      simpa using hv
    · by_cases e : b = g
      · exact .inr (by simp [Value.ownBlock, e])
      · rw [add_other e] at hb; exact .inl hb

/-- A cell of a row, in a world. -/
theorem RowM.cell {M : Fz} {w : World} {ao : Option Addr} {n cap sz : Nat} {xs : List Value} (h : RowM M (.slice ao n cap) n sz xs) (hI : In M w) (hp : 0 < n) : ∃ b off, ao = some ⟨b, off, none⟩ ∧ ∀ i v, xs[i]? = some v → w.cell? ⟨b, off + i, none⟩ = some v := by
  obtain ⟨ao', cap', e, _, _, _, _, h5⟩ := h
  simp only [Value.slice.injEq, true_and] at e
  obtain ⟨rfl, rfl⟩ := e
  obtain ⟨b, off, rfl, hc⟩ := h5 hp
  exact ⟨b, off, rfl, fun i v hv => hI.cell (hc i v hv)⟩

theorem flat_len {α : Type} (f : α → List Value) (sz : Nat) (hf : ∀ a, (f a).length = sz) : ∀ l : List α, (l.flatMap f).length = l.length * sz
  | [] => by simp
  | a :: l => by
    rw [List.flatMap_cons, List.length_append, hf, flat_len f sz hf l, List.length_cons, Nat.succ_mul]
    omega
theorem flat_get {α : Type} (f : α → List Value) (sz : Nat) (hf : ∀ a, (f a).length = sz) : ∀ (l : List α) (k j : Nat) (a : α), l[k]? = some a → j < sz → (l.flatMap f)[k * sz + j]? = (f a)[j]?
  | [], k, j, a, h, _ => by simp at h
  | x :: l, 0, j, a, h, hj => by
    simp only [List.getElem?_cons_zero, Option.some.injEq] at h
    subst h
    rw [List.flatMap_cons, Nat.zero_mul, Nat.zero_add, List.getElem?_append_left (by rw [hf]; exact hj)]
  | x :: l, k + 1, j, a, h, hj => by
    rw [List.getElem?_cons_succ] at h
    rw [List.flatMap_cons, List.getElem?_append_right (by rw [hf, Nat.succ_mul]; omega), hf, ← flat_get f sz hf l k j a h hj]
    congr 1
    rw [Nat.succ_mul]
    omega

/-- Bytes. -/
def BytesM (M : Fz) (v : Value) (xs : List Int) : Prop := RowM M v xs.length 1 (xs.map (Value.int .u8)) ∧ ∀ x ∈ xs, 0 ≤ x ∧ x ≤ 255
theorem BytesM.le {M M' : Fz} {v : Value} {xs : List Int} (h : BytesM M v xs) (hl : Le M M') : BytesM M' v xs := ⟨h.1.le hl, h.2⟩

/-- A record and the value of its bytes. -/
structure RV where
  r : Rc
  dv : Value
def recCells (x : RV) : List Value := [.int .i64 x.r.term, .int .i64 x.r.index, x.dv]
theorem recCells_len (x : RV) : (recCells x).length = 3 := rfl
/-- Records. -/
def RecsV (M : Fz) (v : Value) (us : List RV) : Prop := RowM M v us.length 3 (us.flatMap recCells) ∧ ∀ x ∈ us, BytesM M x.dv x.r.data ∧ x.r.data.length ≤ 1000
def RecsM (M : Fz) (v : Value) (l : List Rc) : Prop := ∃ us, us.map (·.r) = l ∧ RecsV M v us
theorem RecsV.le {M M' : Fz} {v : Value} {us : List RV} (h : RecsV M v us) (hl : Le M M') : RecsV M' v us := ⟨h.1.le hl, fun x hx => ⟨(h.2 x hx).1.le hl, (h.2 x hx).2⟩⟩
theorem RecsM.le {M M' : Fz} {v : Value} {l : List Rc} (h : RecsM M v l) (hl : Le M M') : RecsM M' v l := by
  obtain ⟨us, h1, h2⟩ := h
  exact ⟨us, h1, h2.le hl⟩
theorem RecsM.nil (M : Fz) : RecsM M (.slice none 0 0) [] := ⟨[], rfl, RowM.nil M 3, by simp⟩

/-- A message and the value of its records. -/
structure MV where
  m : Msg
  lv : Value
def msgCells (x : MV) : List Value := [.int .i64 x.m.kind, .int .i64 x.m.frm, .int .i64 x.m.to, .int .i64 x.m.term, .int .i64 x.m.a, .int .i64 x.m.b, .int .i64 x.m.c, .bool x.m.ok, x.lv]
theorem msgCells_len (x : MV) : (msgCells x).length = 9 := rfl
def MsgsV (M : Fz) (v : Value) (us : List MV) : Prop := RowM M v us.length 9 (us.flatMap msgCells) ∧ ∀ x ∈ us, RecsM M x.lv x.m.log
theorem MsgsV.le {M M' : Fz} {v : Value} {us : List MV} (h : MsgsV M v us) (hl : Le M M') : MsgsV M' v us := ⟨h.1.le hl, fun x hx => (h.2 x hx).le hl⟩
end Go.Proofs.Ytklkglbimjajnaa.mem

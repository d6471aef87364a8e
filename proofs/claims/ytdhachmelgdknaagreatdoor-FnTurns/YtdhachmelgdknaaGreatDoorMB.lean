/- The source of choices: a byte, a number below another. -/
import Derived.Test.YtdhachmelgdknaaGreatDoorProg
import Derived.WalkKit
import Derived.ProofKit
import Derived.WalkSpells
import Derived.Below
import Derived.WalkSmall
import Derived.Laws.OwnMore
import Derived.Deep.QuietTactic
import Derived.BigQuiet
import Derived.Outline
import Derived.Laws.AppendOwnNone
import Derived.Deep.RegionLaw
/- Contracts of the laws' own helpers on slices of bytes: equal, marked, held, copied. -/
namespace Go.Proofs.YtdhachmelgdknaaGreatDoor.bytes
open Go.ChangeShapes Go.WideShapes Go.ChangeAt Go.RowKit
set_option linter.unusedVariables false

theorem hide {p : Prop} (h : p) : Hid p := h
theorem ret_bool {a b : Bool} (h : a = b) : Ending.returned (.bool a) = .returned (.bool b) := by rw [h]
theorem ret_int {k : IntKind} {a b : Int} (h : a = b) : Ending.returned (.int k a) = .returned (.int k b) := by rw [h]

/-- The slice value v reads, in world w, as the bytes xs. -/
def Rd (w : World) (v : Value) (xs : List Int) : Prop :=
  ∃ ao cap, v = .slice ao xs.length cap ∧ xs.length ≤ cap ∧ cap ≤ maxLen ∧ (∀ x ∈ xs, 0 ≤ x ∧ x ≤ 255) ∧
    (0 < xs.length → ∃ b off, ao = some ⟨b, off, none⟩ ∧ ∀ i, i < xs.length → w.cell? ⟨b, off + i, none⟩ = some (.int .u8 (xs.getD i 0)))

/-- The slice value v owns, in world w, a row of the bytes xs, in a block from base on. -/
def Own (w : World) (base : Nat) (v : Value) (xs : List Int) : Prop :=
  (∀ x ∈ xs, 0 ≤ x ∧ x ≤ 255) ∧ w.ownsRow base 5 1 v xs.length (xs.map (Value.int .u8))

theorem Own.rd {w : World} {base : Nat} {v : Value} {xs : List Int} (h : Own w base v xs) : Rd w v xs := by
  obtain ⟨hx, h⟩ := h
  have h' := h
  obtain ⟨h1, ⟨rfl, h2⟩ | ⟨g, cap, cur, rfl, hb, hg, hnc, hcm, hcs, htake⟩⟩ := h
  · exact ⟨none, 0, by rw [h2], by omega, by simp [maxLen], hx, fun hp => by omega⟩
  · refine ⟨_, cap, rfl, hnc, hcm, hx, fun hp => ⟨g, 0, rfl, fun i hi => ?_⟩⟩
    have := World.ownsRow.cellAt h' i (by omega)
    rw [Nat.zero_add, this]
    simp [hi]

theorem Own.lt {w : World} {base : Nat} {v : Value} {xs : List Int} (h : Own w base v xs) : ∀ k, v.ownBlock = some k → base ≤ k ∧ k < w.heap.size := World.ownsRow.lt h.2

theorem Own.below {w w' : World} {base B : Nat} {v : Value} {xs : List Int} (h : Own w base v xs) (hb : Below B w w') (hB : w.heap.size ≤ B) : Own w' base v xs := by
  refine ⟨h.1, ?_⟩
  obtain ⟨h1, h2 | ⟨g, cap, cur, rfl, hbg, hg, hnc, hcm, hcs, htake⟩⟩ := h.2
  · exact ⟨h1, .inl h2⟩
  · have hlt := (h.lt g rfl).2
    exact ⟨h1, .inr ⟨g, cap, cur, rfl, hbg, (hb.block g (by omega)).trans hg, hnc, hcm, hcs, htake⟩⟩

theorem Own.mono {w : World} {base base' : Nat} {v : Value} {xs : List Int} (h : Own w base v xs) (hb : base' ≤ base) : Own w base' v xs := by
  refine ⟨h.1, ?_⟩
  obtain ⟨h1, h2 | ⟨g, cap, cur, rfl, hbg, r⟩⟩ := h.2
  · exact ⟨h1, .inl h2⟩
  · exact ⟨h1, .inr ⟨g, cap, cur, rfl, by omega, r⟩⟩

theorem cell_lt {w : World} {a : Addr} {v : Value} (h : w.cell? a = some v) : a.block < w.heap.size := by
  simp only [World.cell?] at h
  cases e : w.heap[a.block]? with
  | none => simp [e] at h
  | some o => exact (Array.getElem?_eq_some_iff.1 e).1

theorem Rd.below {w w' : World} {B : Nat} {v : Value} {xs : List Int} (h : Rd w v xs) (hb : Below B w w') (hB : w.heap.size ≤ B) : Rd w' v xs := by
  obtain ⟨ao, cap, rfl, h1, h2, h3, h4⟩ := h
  refine ⟨ao, cap, rfl, h1, h2, h3, fun hp => ?_⟩
  obtain ⟨b, off, rfl, hc⟩ := h4 hp
  exact ⟨b, off, rfl, fun i hi => (hb.cell (by have := cell_lt (hc i hi); simp at this ⊢; omega)).trans (hc i hi)⟩

theorem grown_trans {a b c : World} {row : Option Nat} (h : a.grownBy b row) (k : b.grownBy c row) : a.grownBy c row :=
  ⟨k.os.trans h.os, k.tape.trans h.tape, k.output.trans h.output, Nat.le_trans h.size k.size, fun i hi hr => (k.block i (by have := h.size; omega) hr).trans (h.block i hi hr)⟩

theorem getD_bd {xs : List Int} (h : ∀ x ∈ xs, 0 ≤ x ∧ x ≤ 255) (k : Nat) : 0 ≤ xs.getD k 0 ∧ xs.getD k 0 ≤ 255 := by
  rw [List.getD_eq_getElem?_getD]
  by_cases hk : k < xs.length
  · rw [List.getElem?_eq_getElem hk]; exact h _ (List.getElem_mem hk)
  · rw [List.getElem?_eq_none (by omega)]; simp

/-- The bytes that a mark writes: k, k + 1, .. -/
def marks (k : Int) (n : Nat) : List Int := (List.range n).map fun (i : Nat) => (k + (i : Int)) % 256
theorem marks_length (k : Int) (n : Nat) : (marks k n).length = n := by simp [marks]
theorem marks_getD (k : Int) (n i : Nat) (h : i < n) : (marks k n).getD i 0 = (k + (i : Int)) % 256 := by simp [marks, h]
theorem marks_bd (k : Int) (n : Nat) : ∀ x ∈ marks k n, 0 ≤ x ∧ x ≤ 255 := by
  intro x hx
  simp only [marks, List.mem_map, List.mem_range] at hx
  obtain ⟨i, _, rfl⟩ := hx
  omega

theorem marks_set (q : Int) (xs : List Int) (k : Nat) (hk : k < xs.length) :
    (marks q k ++ xs.drop k).set k ((q + (k : Int)) % 256) = marks q (k + 1) ++ xs.drop (k + 1) := by
  have h1 : marks q (k + 1) = marks q k ++ [(q + (k : Int)) % 256] := by simp [marks, List.range_succ]
  rw [List.set_append_right _ _ (by simp [marks_length]), marks_length, Nat.sub_self, List.drop_eq_getElem_cons hk, List.set_cons_zero, h1, List.append_assoc]
  rfl

theorem info5 : (Tryz.prog.info? 5).map (fun i => (i.zero, i.size, i.bytes)) = some (some (.int .u8 0), 1, 1) := by kernel_rfl

theorem copy_set (xs : List Int) (k n : Nat) (hk : k < xs.length) (hn : xs.length = n) :
    (xs.take k ++ List.replicate (n - k) 0).set k (xs.getD k 0) = xs.take (k + 1) ++ List.replicate (n - (k + 1)) 0 := by
  have h2 : n - k = (n - (k + 1)) + 1 := by omega
  have hl : (xs.take k).length = k := by simp; omega
  rw [List.set_append_right _ _ (by omega), hl, Nat.sub_self, h2, List.replicate_succ, List.set_cons_zero, List.take_succ_eq_append_getElem hk, List.append_assoc]
  simp [List.getD_eq_getElem?_getD, hk]

theorem made_list (n : Nat) : (madeCells (Value.int .u8 0).cells (n * 1)).toList = (List.replicate n (0 : Int)).map (Value.int .u8) := by
  rw [Nat.mul_one]
  exact (toList_madeCells_one (.int .u8 0) n).trans (by simp)

end Go.Proofs.YtdhachmelgdknaaGreatDoor.bytes
/- Slices of bytes that are appended to one another, and rows of such slices: what is read, what is owned. -/
namespace Go.Proofs.YtdhachmelgdknaaGreatDoor.pile
open Go.ChangeShapes Go.WideShapes Go.ChangeAt Go.RowKit
open Go.Proofs.YtdhachmelgdknaaGreatDoor.bytes
set_option linter.unusedVariables false

/-- It reads as these bytes, and without an address it is the nil slice. -/
def RdA (w : World) (v : Value) (ys : List Int) : Prop := Rd w v ys ∧ ∀ n c, v = .slice none n c → v = .slice none 0 0

theorem Own.rdA {w : World} {base : Nat} {v : Value} {xs : List Int} (h : Own w base v xs) : RdA w v xs := by
  refine ⟨h.rd, fun n c e => ?_⟩
  obtain ⟨_, h1, ⟨rfl, h2⟩ | ⟨g, cap, cur, rfl, _⟩⟩ := h
  · rfl
  · simp at e
theorem RdA.below {w w' : World} {B : Nat} {v : Value} {xs : List Int} (h : RdA w v xs) (hb : Below B w w') (hB : w.heap.size ≤ B) : RdA w' v xs := ⟨h.1.below hb hB, h.2⟩

theorem add_at (b off i : Nat) : (⟨b, off, none⟩ : Addr).add i = ⟨b, off + i, none⟩ := by
  unfold Addr.add
  split
  · rename_i h; subst h; rfl
  · rfl

/-- 'append(out, ys...)': out a row of bytes of the call's own, ys whatever bytes can be read. -/
theorem wpList_append_rd {P : Program} (w : World) {ops : Array Oper} {rest : List Oper} {o : Oper} {a : Act} {Q : Exit → Act → World → Prop} (hgd : o.guard = none) (s x : Operand) (t : TypeId)
    (ho : o.op = .call { callee := .builtin .append, args := #[s, x], argTypes := #[t, t] }) (ht : P.underlying t = some (.slice 5))
    (hi : (P.info? 5).map (fun i => (i.zero, i.size, i.bytes)) = some (some (.int .u8 0), 1, 1))
    (base : Nat) (v : Value) (xs : List Int) (hs : a.eval s = v) (hown : Own w base v xs) (u : Value) (ys : List Int) (hx : a.eval x = u) (hr : RdA w u ys)
    (hlen : xs.length + ys.length ≤ 140737488355328) (hbase : base ≤ w.heap.size)
    (h : ∀ v' w', Own w' base v' (xs ++ ys) → w.grownBy w' v.ownBlock → wpList P ops Q rest (a.put o.dst v') w') : wpList P ops Q (o :: rest) a w := by
  obtain ⟨i0, hi1, hz0, hz1, hz2⟩ := info_parts hi
  obtain ⟨⟨ao, cap, rfl, h1, h2, h3, h4⟩, hnil⟩ := hr
  have hall : ∀ y ∈ xs ++ ys, 0 ≤ y ∧ y ≤ 255 := by
    intro y hy
    rcases List.mem_append.1 hy with hy | hy
    · exact hown.1 y hy
    · exact h3 y hy
  cases ao with
  | none =>
    have e := hnil _ _ rfl
    simp only [Value.slice.injEq, true_and] at e
    have hys : ys = [] := List.length_eq_zero_iff.1 e.1
    subst hys
    obtain rfl : cap = 0 := e.2
    refine wpList_append_own_none hgd s x t ho base 5 i0 1 ht hi1 v xs.length _ hs hown.2 hx ?_
    have := h v w (by simpa using hown) (World.grownBy.refl _ _)
    exact this
  | some ad =>
    refine wpList_append_own w hgd s x t ho base 5 i0 (.int .u8 0) 1 1 ht hi1 hz0 hz1 hz2 rfl (by decide) v xs.length _ hs hown.2 ad ys.length cap (ys.map (Value.int .u8)) hx (by simp) ?_ ?_ (by unfold maxLen; omega) (by omega) hbase ?_
    · intro j y hy
      simp only [List.getElem?_map, Option.map_eq_some_iff] at hy
      obtain ⟨z, hz, rfl⟩ := hy
      have hj : j < ys.length := (List.getElem?_eq_some_iff.1 hz).1
      obtain ⟨b, off, e, hc⟩ := h4 (by omega)
      simp only [Option.some.injEq] at e
      subst e
      rw [add_at, hc j hj]
      simp [List.getD_eq_getElem?_getD, hz]
    · intro y hy
      obtain ⟨z, _, rfl⟩ := List.mem_map.1 hy
      rfl
    · intro v' w' hown' hgrow _
      refine h v' w' ⟨hall, ?_⟩ hgrow
      rw [List.length_append, List.map_append]
      exact hown'

/-- The slice value p reads, in world w, as the row of values us. -/
def RdS (w : World) (p : Value) (us : List Value) : Prop :=
  ∃ ao cap, p = .slice ao us.length cap ∧ us.length ≤ cap ∧ cap ≤ maxLen ∧
    (0 < us.length → ∃ b off, ao = some ⟨b, off, none⟩ ∧ ∀ i, i < us.length → w.cell? ⟨b, off + i, none⟩ = some (us.getD i (.slice none 0 0)))

theorem RdS.below {w w' : World} {B : Nat} {v : Value} {us : List Value} (h : RdS w v us) (hb : Below B w w') (hB : w.heap.size ≤ B) : RdS w' v us := by
  obtain ⟨ao, cap, rfl, h1, h2, h4⟩ := h
  refine ⟨ao, cap, rfl, h1, h2, fun hp => ?_⟩
  obtain ⟨b, off, rfl, hc⟩ := h4 hp
  exact ⟨b, off, rfl, fun i hi => (hb.cell (by have := cell_lt (hc i hi); simp at this ⊢; omega)).trans (hc i hi)⟩

/-- Values that read, one by one, as these lists of bytes. -/
def Texts (w : World) (us : List Value) (xss : List (List Int)) : Prop := us.length = xss.length ∧ ∀ i, i < us.length → RdA w (us.getD i (.slice none 0 0)) (xss.getD i [])

theorem Texts.below {w w' : World} {B : Nat} {us : List Value} {xss : List (List Int)} (h : Texts w us xss) (hb : Below B w w') (hB : w.heap.size ≤ B) : Texts w' us xss := ⟨h.1, fun i hi => (h.2 i hi).below hb hB⟩

/-- How many bytes the first k of these have. -/
def sizeTo (xss : List (List Int)) (k : Nat) : Nat := (xss.take k).flatten.length
theorem flat_succ {xss : List (List Int)} {k : Nat} (h : k < xss.length) : (xss.take (k + 1)).flatten = (xss.take k).flatten ++ xss.getD k [] := by
  have e : xss.getD k [] = xss[k] := by simp [List.getD_eq_getElem?_getD, h]
  rw [List.take_succ_eq_append_getElem h, List.flatten_append, e]
  simp only [List.flatten_cons, List.flatten_nil, List.append_nil]
theorem sizeTo_succ {xss : List (List Int)} {k : Nat} (h : k < xss.length) : sizeTo xss (k + 1) = sizeTo xss k + (xss.getD k []).length := by
  unfold sizeTo
  rw [flat_succ h, List.length_append]
theorem sizeTo_le (xss : List (List Int)) (k : Nat) : sizeTo xss k ≤ xss.flatten.length := by
  unfold sizeTo
  have : xss.flatten = (xss.take k).flatten ++ (xss.drop k).flatten := by rw [← List.flatten_append, List.take_append_drop]
  rw [this]; simp
end Go.Proofs.YtdhachmelgdknaaGreatDoor.pile
namespace Go.Proofs.YtdhachmelgdknaaGreatDoor.src
open Go.ChangeShapes Go.WideShapes Go.ChangeAt Go.RowKit
open Go.Proofs.YtdhachmelgdknaaGreatDoor.bytes Go.Proofs.YtdhachmelgdknaaGreatDoor.pile
set_option linter.unusedVariables false

theorem below_same (w : World) (n : Nat) : Below w.heap.size w (w.drewN n) := ⟨rfl, rfl, rfl, Nat.le_refl _, fun _ _ => rfl⟩
theorem rd_setCell {w : World} {ao : Option Addr} {n cap : Nat} {xs : List Int} (h : RdA w (.slice ao n cap) xs) {a : Addr} (ha : 0 < xs.length → ∀ x, ao = some x → x.block ≠ a.block) (u : Value) : RdA (w.setCell a u) (.slice ao n cap) xs := by
  obtain ⟨⟨ao', cap', e, h1, h2, h3, h4⟩, hnil⟩ := h
  simp only [Value.slice.injEq] at e
  obtain ⟨rfl, rfl, rfl⟩ := e
  refine ⟨⟨ao, cap, rfl, h1, h2, h3, fun hp => ?_⟩, hnil⟩
  obtain ⟨b, off, rfl, hc⟩ := h4 hp
  refine ⟨b, off, rfl, fun i hi => ?_⟩
  rw [World.cell?_of_block (Below.heap_setCell w a u b (ha hp _ rfl))]
  exact hc i hi
/-- The source of choices at block d. -/
structure SS (w : World) (d : Nat) (ao : Option Addr) (cap : Nat) (xs : List Int) (at_ : Nat) (sd : Int) : Prop where
  blk : w.heap[d]? = some (.cells #[.slice ao xs.length cap, .int .i64 at_, .int .i64 sd] 37 (0, 0))
  data : RdA w (.slice ao xs.length cap) xs
  far : 0 < xs.length → ∀ x, ao = some x → x.block ≠ d
  sd0 : 0 ≤ sd
  sd1 : sd < 2147483648

theorem SS.lt {w : World} {d : Nat} {ao : Option Addr} {cap : Nat} {xs : List Int} {at_ : Nat} {sd : Int} (h : SS w d ao cap xs at_ sd) : d < w.heap.size := (Array.getElem?_eq_some_iff.1 h.blk).1
theorem SS.c0 {w : World} {d : Nat} {ao : Option Addr} {cap : Nat} {xs : List Int} {at_ : Nat} {sd : Int} (h : SS w d ao cap xs at_ sd) : w.cell? ⟨d, 0, none⟩ = some (.slice ao xs.length cap) := by simp [World.cell?, h.blk]
theorem SS.c1 {w : World} {d : Nat} {ao : Option Addr} {cap : Nat} {xs : List Int} {at_ : Nat} {sd : Int} (h : SS w d ao cap xs at_ sd) : w.cell? ⟨d, 1, none⟩ = some (.int .i64 at_) := by simp [World.cell?, h.blk]
theorem SS.c2 {w : World} {d : Nat} {ao : Option Addr} {cap : Nat} {xs : List Int} {at_ : Nat} {sd : Int} (h : SS w d ao cap xs at_ sd) : w.cell? ⟨d, 2, none⟩ = some (.int .i64 sd) := by simp [World.cell?, h.blk]
theorem SS.fz {w : World} {d : Nat} {ao : Option Addr} {cap : Nat} {xs : List Int} {at_ : Nat} {sd : Int} (h : SS w d ao cap xs at_ sd) (i : Nat) : w.frozen? ⟨d, i, none⟩ = false := by simp [World.frozen?, h.blk]
theorem SS.below {w w' : World} {d : Nat} {ao : Option Addr} {cap : Nat} {xs : List Int} {at_ : Nat} {sd : Int} (h : SS w d ao cap xs at_ sd) (hb : Below w.heap.size w w') : SS w' d ao cap xs at_ sd :=
  ⟨(hb.block d h.lt).trans h.blk, h.data.below hb (Nat.le_refl _), h.far, h.sd0, h.sd1⟩
theorem SS.set1 {w : World} {d : Nat} {ao : Option Addr} {cap : Nat} {xs : List Int} {at_ : Nat} {sd : Int} (h : SS w d ao cap xs at_ sd) (n : Nat) : SS (w.setCell ⟨d, 1, none⟩ (.int .i64 n)) d ao cap xs n sd where
  blk := by
    have := heap_setCell_same w d 1 _ 37 (.int .i64 n) h.blk
    simpa using this
  data := rd_setCell h.data (fun hp x hx => h.far hp x hx) _
  far := h.far
  sd0 := h.sd0
  sd1 := h.sd1
theorem SS.set2 {w : World} {d : Nat} {ao : Option Addr} {cap : Nat} {xs : List Int} {at_ : Nat} {sd : Int} (h : SS w d ao cap xs at_ sd) (s : Int) (h0 : 0 ≤ s) (h1 : s < 2147483648) : SS (w.setCell ⟨d, 2, none⟩ (.int .i64 s)) d ao cap xs at_ s where
  blk := by
    have := heap_setCell_same w d 2 _ 37 (.int .i64 s) h.blk
    simpa using this
  data := rd_setCell h.data (fun hp x hx => h.far hp x hx) _
  far := h.far
  sd0 := h0
  sd1 := h1

/-- All but block d stays. -/
def Kept (d : Nat) (w w' : World) : Prop := w.grownBy w' (some d)
theorem Kept.refl (d : Nat) (w : World) : Kept d w w := World.grownBy.refl _ _
theorem Kept.trans {d : Nat} {a b c : World} (h : Kept d a b) (g : Kept d b c) : Kept d a c := grown_trans h g
theorem kept_set {w : World} {d : Nat} {cur : Array Value} (h : w.heap[d]? = some (.cells cur 37 (0, 0))) (i : Nat) (u : Value) : Kept d w (w.setCell ⟨d, i, none⟩ u) := ⟨rfl, rfl, rfl, by simp, fun k _ hk => heap_setCell_other w ⟨d, i, none⟩ k u (fun e => hk (by simp [e]))⟩
theorem kept_drewN {w : World} {d : Nat} (hd : d ≤ w.heap.size) (m : Nat) : Kept d w (w.drewN m) := ⟨rfl, rfl, rfl, Nat.le_refl _, fun _ _ _ => rfl⟩

set_option maxRecDepth 20000 in
set_option maxHeartbeats 1000000 in
theorem byte_any (w : World) (d : Nat) (ao : Option Addr) (cap : Nat) (xs : List Int) (at_ : Nat) (sd : Int) (h : SS w d ao cap xs at_ sd) (hat : at_ ≤ 1000000000000) :
    Calls Tryz.prog 16 #[.pointer (some ⟨d, 0, none⟩)] w fun e w' => ∃ (r : Int) (sd' : Int), e = .returned (.int .i64 r) ∧ 0 ≤ r ∧ r ≤ 255 ∧ SS w' d ao cap xs (at_ + 1) sd' ∧ Kept d w w' := by
  have HS : Hid (SS w d ao cap xs at_ sd) := h
  have hd := h.lt
  have c0 := h.c0
  have c1 := h.c1
  have c2 := h.c2
  have f1 := h.fz 1
  have f2 := h.fz 2
  have s0 := h.sd0
  have s1 := h.sd1
  have HS1 : Hid (SS (w.setCell ⟨d, 1, none⟩ (.int .i64 ((at_ : Int) + 1))) d ao cap xs (at_ + 1) sd) := by
    have := h.set1 (at_ + 1)
    rw [show (((at_ + 1 : Nat) : Nat) : Int) = (at_ : Int) + 1 by omega] at this
    exact this
  have HK1 : Hid (Kept d w (w.setCell ⟨d, 1, none⟩ (.int .i64 ((at_ : Int) + 1)))) := kept_set h.blk 1 _
  have hdat := h.data.1
  obtain ⟨ao', ca, e, ha1, ha2, hx, ha3⟩ := hdat
  obtain ⟨rfl, _, rfl⟩ : ao' = ao ∧ True ∧ ca = cap := by simp at e; exact ⟨e.1.symm, trivial, e.2.symm⟩
  clear e
  unfold maxLen at ha2
  have hfar := h.far
  clear h
  by_cases hin : (at_ : Int) + 1 ≤ xs.length
  · obtain ⟨ab, aoff, rfl, hca⟩ := ha3 (by omega)
    have hc := hca at_ (by omega)
    have hcb := getD_bd hx at_
    have hne : ab ≠ d := hfar (by omega) _ rfl
    clear hca ha3 hfar
    generalize xs.getD at_ 0 = c at hc hcb
    have hc' : (w.setCell ⟨d, 1, none⟩ (.int .i64 ((at_ : Int) + 1))).cell? ⟨ab, aoff + at_, none⟩ = some (.int .u8 c) := by
      rw [World.cell?_of_block (Below.heap_setCell w ⟨d, 1, none⟩ (.int .i64 ((at_ : Int) + 1)) ab hne)]
      exact hc
    have k0 := HS1.out.c0
    have k1 := HS1.out.c1
    have k2 := HS1.out.c2
    have g2 := HS1.out.fz 2
    rw [show (((at_ + 1 : Nat) : Nat) : Int) = (at_ : Int) + 1 by omega] at k1
    go_enter Tryz.func16, Tryz.ntmps16
    go_wp2
    go_quiet (fail)
    go_wp2
    have hw1 : IntKind.i64.wrap (at_ : Int) = at_ := by rw [IntKind.wrap_i64]; omega
    have hw2 : IntKind.i64.wrap (sd * 31) = sd * 31 := by rw [IntKind.wrap_i64]; omega
    have hw3 : IntKind.i64.wrap (sd * 31 + c) = sd * 31 + c := by rw [IntKind.wrap_i64]; omega
    have hw4 : IntKind.i64.wrap (sd * 31 + c + 7) = sd * 31 + c + 7 := by rw [IntKind.wrap_i64]; omega
    have hw5 : IntKind.i64.wrap c = c := by rw [IntKind.wrap_i64]; omega
    have hlt : (at_ : Int) < xs.length := by omega
    have hlt0 : (0 : Int) ≤ at_ := by omega
    go_region_law (fail)
    all_goals
      go_wp2
      go_quiet (fail)
      go_wp2
      go_ret
      have ht : (sd * 31 + c + 7).tmod 2147483648 = (sd * 31 + c + 7) % 2147483648 := Int.tmod_eq_emod_of_nonneg (by omega)
      refine ⟨c, (sd * 31 + c + 7).tmod 2147483648, rfl, hcb.1, hcb.2, ((HS1.out.below (below_same _ _)).set2 _ (by rw [ht]; omega) (by rw [ht]; omega)).below (below_same _ _), ?_⟩
      exact ((HK1.out.trans (kept_drewN (by simp; omega) _)).trans (kept_set (HS1.out.below (below_same _ _)).blk 2 _)).trans (kept_drewN (by simp; omega) _)
  · by_cases h3 : (3000 : Int) < (at_ : Int) + 1
    · go_enter Tryz.func16, Tryz.ntmps16
      go_wp2
      go_quiet (fail)
      go_wp2
      go_ret
      exact ⟨0, sd, rfl, by omega, by omega, HS1.out.below (below_same _ _), HK1.out.trans (kept_drewN (by simp; omega) _)⟩
    · go_enter Tryz.func16, Tryz.ntmps16
      go_wp2
      go_quiet (fail)
      go_wp2
      go_ret
      refine ⟨_, _, rfl, by omega, by omega, (HS1.out.below (below_same _ _)).set2 _ (by omega) (by omega), ?_⟩
      exact (HK1.out.trans (kept_drewN (by simp; omega) _)).trans (kept_set (HS1.out.below (below_same _ _)).blk 2 _)
/-- A number from 0 to n - 1 is drawn. -/
def NextOf (n : Int) (w : World) (d : Nat) (ao : Option Addr) (cap : Nat) (xs : List Int) (at_ : Nat) (r : Int) (w' : World) : Prop :=
  ∃ (a : Nat) (sd' : Int), 0 ≤ r ∧ (r < n ∨ (n ≤ 1 ∧ r = 0)) ∧ a ≤ at_ + 3 ∧ SS w' d ao cap xs a sd' ∧ Kept d w w'

set_option maxHeartbeats 1000000 in
theorem next_any (w : World) (d : Nat) (ao : Option Addr) (cap : Nat) (xs : List Int) (at_ : Nat) (sd : Int) (n : Int) (hn : n ≤ 256) (h : SS w d ao cap xs at_ sd) (hat : at_ ≤ 1000000000000) :
    Calls Tryz.prog 9 #[.pointer (some ⟨d, 0, none⟩), .int .i64 n] w fun e w' => ∃ r : Int, e = .returned (.int .i64 r) ∧ NextOf n w d ao cap xs at_ r w' := by
  have HS : Hid (SS w d ao cap xs at_ sd) := h
  clear h
  by_cases h1 : n ≤ 1
  · go_enter Tryz.func9, Tryz.ntmps9
    go_wp2
    go_ret
    exact ⟨0, rfl, at_, sd, by omega, .inr ⟨h1, rfl⟩, by omega, HS.out, Kept.refl _ _⟩
  · go_enter Tryz.func9, Tryz.ntmps9
    go_wp2_with fail
    refine (byte_any _ d ao cap xs at_ sd HS.out hat).mono ?_
    rintro e w1 ⟨r, sd1, rfl, r0, r1, S1, K1⟩
    have HF : Hid (SS w1 d ao cap xs (at_ + 1) sd1 ∧ Kept d w w1) := ⟨S1, K1⟩
    clear S1 K1
    go_wp2
    go_ret
    exact ⟨_, rfl, at_ + 1, sd1, Int.emod_nonneg _ (by omega), .inl (Int.emod_lt_of_pos _ (by omega)), by omega, HF.out.1, HF.out.2⟩

end Go.Proofs.YtdhachmelgdknaaGreatDoor.src

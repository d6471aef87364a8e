/- A pattern of letters is read as letters, one behind the other. -/
import Derived.Test.YtfpeajbfimodfaaGreatDoorAtom
import Derived.WalkMore
import Derived.ScopeJumps
import Derived.Deep.AppendLies
namespace Go.Proofs.YtfpeajbfimodfaaGreatDoor.pat
open Go.ChangeShapes Go.WideShapes Go.ChangeAt Go.RowKit
open Go.Proofs.YtfpeajbfimodfaaGreatDoor.bytes Go.Proofs.YtfpeajbfimodfaaGreatDoor.pile Go.Proofs.YtfpeajbfimodfaaGreatDoor.src Go.Proofs.YtfpeajbfimodfaaGreatDoor.letters Go.Proofs.YtfpeajbfimodfaaGreatDoor.read Go.Proofs.YtfpeajbfimodfaaGreatDoor.atom
set_option linter.unusedVariables false

/-- As Q; by a goto to a label: what J says of it. -/
def jumps (J : Nat → Act → World → Prop) (Q : Exit → Act → World → Prop) : Exit → Act → World → Prop
  | .goto l, a, w => J l a w
  | e, a, w => Q e a w
/-- A scope in which the run jumps to several labels: what holds at every jump, and a measure that every pass from a label lowers. -/
theorem wp_scope_many {P : Program} {a : Act} {w : World} {Q : Exit → Act → World → Prop} {c : Code} (J : Nat → Act → World → Prop) (μ : Nat → Act → World → Nat)
    (first : c.wp P (jumps J Q) a w)
    (pass : ∀ l a w, J l a w → ∃ rest, findLabel c l = some rest ∧ rest.wp P (jumps (fun l' a' w' => J l' a' w' ∧ μ l' a' w' < μ l a w) Q) a w) : (Code.scope c).wp P Q a w := by
  intro b k cs
  have key : ∀ n l a w, μ l a w = n → J l a w → ∃ rest, findLabel c l = some rest ∧ ∃ e a' w', Q e a' w' ∧ Arrives P (lone (b.at a (.code rest :: .inScope c :: k)) cs w) b k cs e a' w' := by
    intro n
    induction n using Nat.strongRecOn with
    | _ n ih =>
      intro l a w hn hJ
      obtain ⟨rest, hf, hp⟩ := pass l a w hJ
      refine ⟨rest, hf, ?_⟩
      obtain ⟨e, a₁, w₁, hq, harr⟩ := hp b (.inScope c :: k) cs
      cases e with
      | normal => exact ⟨.normal, a₁, w₁, hq, Steps.trans harr (.one step_inScope)⟩
      | exit id => exact ⟨.exit id, a₁, w₁, hq, fun k' hk => harr k' (by simp [exitTo, hk])⟩
      | goto l' =>
        obtain ⟨hJ', hlt⟩ := hq
        obtain ⟨rest', hf', e₂, a₂, w₂, hq₂, harr₂⟩ := ih _ (by omega) l' a₁ w₁ rfl hJ'
        have hg : gotoIn l' (.inScope c :: k) = some (.code rest' :: .inScope c :: k) := by simp [gotoIn, hf']
        exact ⟨e₂, a₂, w₂, hq₂, .of_steps (harr _ hg) harr₂⟩
      | ret => exact ⟨_, a₁, w₁, hq, harr⟩
      | panic ch => exact ⟨_, a₁, w₁, hq, harr⟩
      | outgrown => exact ⟨_, a₁, w₁, hq, harr⟩
  obtain ⟨e, a₁, w₁, hq, harr⟩ := first b (.inScope c :: k) cs
  cases e with
  | normal => exact ⟨.normal, a₁, w₁, hq, .head step_scope (Steps.trans harr (.one step_inScope))⟩
  | exit id => exact ⟨.exit id, a₁, w₁, hq, fun k' hk => .head step_scope (harr k' (by simp [exitTo, hk]))⟩
  | goto l' =>
    obtain ⟨rest', hf', e₂, a₂, w₂, hq₂, harr₂⟩ := key _ l' a₁ w₁ rfl hq
    have hg : gotoIn l' (.inScope c :: k) = some (.code rest' :: .inScope c :: k) := by simp [gotoIn, hf']
    exact ⟨e₂, a₂, w₂, hq₂, .of_steps (.head step_scope (harr _ hg)) harr₂⟩
  | ret => exact ⟨_, a₁, w₁, hq, .of_steps (.one step_scope) harr⟩
  | panic ch => exact ⟨_, a₁, w₁, hq, .of_steps (.one step_scope) harr⟩
  | outgrown => exact ⟨_, a₁, w₁, hq, .of_steps (.one step_scope) harr⟩

/-- The cells of a letter's node. -/
def nodeC (c : Int) : List Value := [.int .i64 1, .int .i64 c, .int .i64 0, .string ⟨#[]⟩, .slice none 0 0]
def nodes (ys : List Int) : List Value := ys.flatMap nodeC
theorem info26 : (Tryz.prog.info? 26).map (fun i => (i.zero, i.size, i.bytes)) = some (some (.agg #[.int .i64 0, .int .i64 0, .int .i64 0, .string ⟨#[]⟩, .slice none 0 0]), 5, 64) := by kernel_rfl
theorem nodes_len (ys : List Int) : (nodes ys).length = ys.length * 5 := by
  unfold nodes
  induction ys with
  | nil => rfl
  | cons y ys ih => rw [List.flatMap_cons, List.length_append, ih]; simp [nodeC]; omega
theorem nodes_snoc (ys : List Int) (c : Int) : nodes (ys ++ [c]) = nodes ys ++ nodeC c := by unfold nodes; simp
theorem row_slice {w : World} {base : Nat} {v : Value} {n : Nat} {xs : List Value} (h : w.ownsRow base 26 5 v n xs) (hn : 0 < n) : ∃ g cap, v = .slice (some ⟨g, 0, none⟩) n cap ∧ base ≤ g ∧ g < w.heap.size := by
  have hlt := World.ownsRow.lt h
  obtain ⟨h1, ⟨rfl, h2⟩ | ⟨g, cap, cur, rfl, hb, _⟩⟩ := h
  · omega
  · exact ⟨g, cap, rfl, hb, (hlt g rfl).2⟩
theorem row_keep {w w' : World} {base : Nat} {v : Value} {n : Nat} {xs : List Value} {r : Option Nat} (h : w.ownsRow base 26 5 v n xs) (hg : w.grownBy w' r) (hn : ∀ b, v.ownBlock = some b → some b ≠ r) : w'.ownsRow base 26 5 v n xs := by
  have hlt := World.ownsRow.lt h
  obtain ⟨h1, h2 | ⟨g, cap, cur, rfl, hbg, hgg, hnc, hcm, hcs, htake⟩⟩ := h
  · exact ⟨h1, .inl h2⟩
  · exact ⟨h1, .inr ⟨g, cap, cur, rfl, hbg, (hg.block g (hlt g rfl).2 (hn g rfl)).trans hgg, hnc, hcm, hcs, htake⟩⟩
theorem grown_any {a b : World} {r : Option Nat} {d : Nat} (h : a.grownBy b r) (hr : ∀ k, r = some k → a.heap.size ≤ k ∨ k = d) : a.grownBy b (some d) :=
  ⟨h.os, h.tape, h.output, h.size, fun k hk hn => h.block k hk (fun e => by rcases hr k e.symm with h1 | h1
                                                                            · omega
                                                                            · exact hn (by rw [h1]))⟩
/-- What holds where the next atom is read: k of them stand already. -/
structure AtAtom (w : World) (d : Nat) (ys : List Int) (ere : Bool) (k : Nat) (va : Value) (w' : World) : Prop where
  le : k ≤ ys.length
  rd : PR w' d ys ere (leadOf ere) k
  row : w'.ownsRow (w.heap.size + 1) 26 5 va k (nodes (ys.take k))
  res : w'.heap[w.heap.size]? = some (.cells #[.int .i64 0, .int .i64 0, .int .i64 0, .string ⟨#[]⟩, .slice none 0 0] 26 (0, 0))
  grown : w.grownBy w' (some d)
theorem AtAtom.drewN {w : World} {d : Nat} {ys : List Int} {ere : Bool} {k : Nat} {va : Value} {w' : World} (h : AtAtom w d ys ere k va w') (m : Nat) : AtAtom w d ys ere k va (w'.drewN m) := ⟨h.le, ⟨h.rd.blk⟩, h.row, h.res, ⟨h.grown.os, h.grown.tape, h.grown.output, h.grown.size, h.grown.block⟩⟩
/-- An atom more. -/
theorem AtAtom.next {w : World} {d : Nat} {ys : List Int} {ere : Bool} {k : Nat} {va : Value} {wr w3 w4 : World} {v4 : Value} (hd : d < w.heap.size) (h : AtAtom w d ys ere k va wr) (hk : k < ys.length) (P3 : PR w3 d ys ere (leadOf ere) (k + 1)) (G3 : wr.grownBy w3 (some d))
    (h4 : w4.ownsRow (w.heap.size + 1) 26 5 v4 (k + 1) (nodes (ys.take k) ++ nodeC (ys.getD k 0))) (g4 : (w3.alloc (.cells (nodeC (ys.getD k 0)).toArray 26)).grownBy w4 va.ownBlock) : AtAtom w d ys ere (k + 1) v4 w4 := by
  have hlt := World.ownsRow.lt h.row
  have hs3 := G3.size
  have hs := h.grown.size
  have hR : w.heap.size < wr.heap.size := (Array.getElem?_eq_some_iff.1 h.res).1
  have hne : ∀ j, va.ownBlock = some j → w.heap.size + 1 ≤ j := fun j hj => (hlt j hj).1
  have hblk : ∀ j, j ≤ w.heap.size → j < wr.heap.size → j ≠ d → w4.heap[j]? = wr.heap[j]? := fun j hj hj2 hjd =>
    (g4.block j (by simp; omega) (fun e => by have := hne j e.symm; omega)).trans ((Below.heap_alloc w3 _ j (by omega)).trans (G3.block j hj2 (by simp; omega)))
  refine ⟨by omega, ⟨?_⟩, ?_, (hblk _ (Nat.le_refl _) hR (by omega)).trans h.res, ?_⟩
  · exact (g4.block d (by simp; omega) (fun e => by have := hne d e.symm; omega)).trans ((Below.heap_alloc w3 _ d (by omega)).trans P3.blk)
  · have e : nodes (ys.take (k + 1)) = nodes (ys.take k) ++ nodeC (ys.getD k 0) := by
      rw [List.take_succ_eq_append_getElem hk, nodes_snoc, List.getD_eq_getElem?_getD, List.getElem?_eq_getElem hk]
      rfl
    rw [e]
    exact h4
  · have k1 : wr.grownBy (w3.alloc (.cells (nodeC (ys.getD k 0)).toArray 26)) (some d) := grown_trans G3 (World.grownBy_alloc w3 _ (some d))
    exact ⟨g4.os.trans (k1.os.trans h.grown.os), g4.tape.trans (k1.tape.trans h.grown.tape), g4.output.trans (k1.output.trans h.grown.output), Nat.le_trans hs (Nat.le_trans k1.size g4.size), fun j hj hn => (hblk j (by omega) (by omega) (fun e => hn (by rw [e]))).trans (h.grown.block j hj hn)⟩
theorem res_cells {W : World} {R : Nat} (h : W.heap[R]? = some (.cells #[.int .i64 0, .int .i64 0, .int .i64 0, .string ⟨#[]⟩, .slice none 0 0] 26 (0, 0))) : W.cell? ⟨R, 0, none⟩ = some (.int .i64 0) ∧ W.cell? ⟨R, 1, none⟩ = some (.int .i64 0) ∧ W.cell? ⟨R, 2, none⟩ = some (.int .i64 0) ∧ W.cell? ⟨R, 3, none⟩ = some (.string ⟨#[]⟩) ∧ W.cell? ⟨R, 4, none⟩ = some (.slice none 0 0) := by
  simp [World.cell?, h]
theorem res_fz {W : World} {R : Nat} (h : W.heap[R]? = some (.cells #[.int .i64 0, .int .i64 0, .int .i64 0, .string ⟨#[]⟩, .slice none 0 0] 26 (0, 0))) (i : Nat) : W.frozen? ⟨R, i, none⟩ = false := by simp [World.frozen?, h]
theorem cat_news (wr : World) (v : Value) (hv : v.oneCell' = true) : (∀ j u, ([.int .i64 7, .int .i64 0, .int .i64 0, .string ⟨#[]⟩, v] : List Value)[j]? = some u → (wr.alloc (.cells #[.int .i64 7, .int .i64 0, .int .i64 0, .string ⟨#[]⟩, v] 26)).cell? ((⟨wr.heap.size, 0, none⟩ : Addr).add j) = some u) ∧ ∀ u ∈ ([.int .i64 7, .int .i64 0, .int .i64 0, .string ⟨#[]⟩, v] : List Value), u.oneCell' = true := by
  refine ⟨World.news_of_block (heap_alloc_new wr _), fun u hu => ?_⟩
  simp only [List.mem_cons, List.not_mem_nil, or_false] at hu
  rcases hu with rfl | rfl | rfl | rfl | rfl <;> first | rfl | exact hv
theorem pat_made {w : World} {d : Nat} {ys : List Int} {ere : Bool} {va : Value} {wr w5 : World} {v5 : Value} (h : AtAtom w d ys ere ys.length va wr) (hn : 1 ≤ ys.length)
    (h5 : w5.ownsRow (w.heap.size + 1) 26 5 v5 (0 + 1) ([] ++ [.int .i64 7, .int .i64 0, .int .i64 0, .string ⟨#[]⟩, va])) (g5 : (wr.alloc (.cells #[.int .i64 7, .int .i64 0, .int .i64 0, .string ⟨#[]⟩, va] 26)).grownBy w5 (Value.slice none 0 0).ownBlock) :
    ∃ g cap, v5 = .slice (some ⟨g, 0, none⟩) (0 + 1) cap ∧ AtAtom w d ys ere ys.length va w5 ∧ w5.cell? ⟨g, 0, none⟩ = some (.int .i64 7) ∧ w5.cell? ⟨g, 1, none⟩ = some (.int .i64 0) ∧ w5.cell? ⟨g, 2, none⟩ = some (.int .i64 0) ∧ w5.cell? ⟨g, 3, none⟩ = some (.string ⟨#[]⟩) ∧ w5.cell? ⟨g, 4, none⟩ = some va ∧ ¬ g = w.heap.size := by
  have hA : wr.grownBy w5 none := grown_trans (World.grownBy_alloc wr _ none) g5
  obtain ⟨g, cap, rfl, hb, hl⟩ := row_slice h5 (by omega)
  refine ⟨g, cap, rfl, ⟨h.le, ⟨?_⟩, row_keep h.row hA (fun b hb => by simp), ?_, ?_⟩, World.ownsRow.cellAt h5 0 (by omega), World.ownsRow.cellAt h5 1 (by omega), World.ownsRow.cellAt h5 2 (by omega), World.ownsRow.cellAt h5 3 (by omega), World.ownsRow.cellAt h5 4 (by omega), by omega⟩
  · exact (hA.block d (Array.getElem?_eq_some_iff.1 h.rd.blk).1 (by simp)).trans h.rd.blk
  · exact (hA.block _ (Array.getElem?_eq_some_iff.1 h.res).1 (by simp)).trans h.res
  · exact ⟨hA.os.trans h.grown.os, hA.tape.trans h.grown.tape, hA.output.trans h.grown.output, Nat.le_trans h.grown.size hA.size, fun j hj hn => (hA.block j (by have := h.grown.size; omega) (by simp)).trans (h.grown.block j hj hn)⟩
def resW (W : World) (R : Nat) (v : Value) : World := ((((W.setCell ⟨R, 0, none⟩ (.int .i64 7)).setCell ⟨R, 1, none⟩ (.int .i64 0)).setCell ⟨R, 2, none⟩ (.int .i64 0)).setCell ⟨R, 3, none⟩ (.string ⟨#[]⟩)).setCell ⟨R, 4, none⟩ v
set_option maxHeartbeats 2000000 in
theorem pat_end {w : World} {d g0 cap0 : Nat} {ys : List Int} {ere : Bool} {w5 : World} (h : AtAtom w d ys ere ys.length (.slice (some ⟨g0, 0, none⟩) ys.length cap0) w5) (hg0 : w.heap.size + 1 ≤ g0) (v : Value) :
    (resW w5 w.heap.size v).heap[w.heap.size]? = some (.cells #[.int .i64 7, .int .i64 0, .int .i64 0, .string ⟨#[]⟩, v] 26 (0, 0)) ∧ (resW w5 w.heap.size v).ownsRow (w.heap.size + 1) 26 5 (.slice (some ⟨g0, 0, none⟩) ys.length cap0) ys.length (nodes ys) ∧ w.grownBy (resW w5 w.heap.size v) (some d) := by
  have hg : w5.grownBy (resW w5 w.heap.size v) (some w.heap.size) := by
    refine ⟨rfl, by unfold resW; simp, rfl, by unfold resW; simp, fun k hk hn => ?_⟩
    unfold resW
    exact five_other _ _ _ (fun e => hn (by rw [e])) _ _ _ _ _
  refine ⟨five h.res _ _ _ _ _, ?_, ?_⟩
  · have hr := row_keep h.row hg (fun b hb e => by simp [Value.ownBlock] at hb e; omega)
    rw [List.take_length] at hr
    exact hr
  · exact ⟨hg.os.trans h.grown.os, hg.tape.trans h.grown.tape, hg.output.trans h.grown.output, Nat.le_trans h.grown.size hg.size, fun j hj hn => (hg.block j (by have := h.grown.size; omega) (by simp; omega)).trans (h.grown.block j hj hn)⟩
theorem frame104 (a : Act) (hs : a.tmps.size = 104) : ∃ u : Nat → Value, a = { tmps := #[a.tmps.getD 0 undef, a.tmps.getD 1 undef, a.tmps.getD 2 undef, a.tmps.getD 3 undef, a.tmps.getD 4 undef, a.tmps.getD 5 undef, a.tmps.getD 6 undef, u 7, u 8, u 9, u 10, u 11, u 12, u 13, u 14, u 15, u 16, u 17, u 18, u 19, u 20, u 21, u 22, u 23, u 24, u 25, u 26, u 27, u 28, u 29, u 30, u 31, u 32, u 33, u 34, u 35, u 36, u 37, u 38, u 39, u 40, u 41, u 42, u 43, u 44, u 45, u 46, u 47, u 48, u 49, u 50, u 51, u 52, u 53, u 54, u 55, u 56, u 57, u 58, u 59, u 60, u 61, u 62, u 63, u 64, u 65, u 66, u 67, u 68, u 69, u 70, u 71, u 72, u 73, u 74, u 75, u 76, u 77, u 78, u 79, u 80, u 81, u 82, u 83, u 84, u 85, u 86, u 87, u 88, u 89, u 90, u 91, u 92, u 93, u 94, u 95, u 96, u 97, u 98, u 99, u 100, u 101, u 102, u 103], defers := a.defers } := by
  refine ⟨fun i => a.tmps.getD i undef, ?_⟩
  have h : a.tmps = ((List.range 104).map (fun i => a.tmps.getD i undef)).toArray := by
    apply Array.ext
    · simp [hs]
    · intro i h1 h2
      simp [Array.getD, h1]
  cases a with
  | mk tmps defers =>
    have e : tmps = #[tmps.getD 0 undef, tmps.getD 1 undef, tmps.getD 2 undef, tmps.getD 3 undef, tmps.getD 4 undef, tmps.getD 5 undef, tmps.getD 6 undef, tmps.getD 7 undef, tmps.getD 8 undef, tmps.getD 9 undef, tmps.getD 10 undef, tmps.getD 11 undef, tmps.getD 12 undef, tmps.getD 13 undef, tmps.getD 14 undef, tmps.getD 15 undef, tmps.getD 16 undef, tmps.getD 17 undef, tmps.getD 18 undef, tmps.getD 19 undef, tmps.getD 20 undef, tmps.getD 21 undef, tmps.getD 22 undef, tmps.getD 23 undef, tmps.getD 24 undef, tmps.getD 25 undef, tmps.getD 26 undef, tmps.getD 27 undef, tmps.getD 28 undef, tmps.getD 29 undef, tmps.getD 30 undef, tmps.getD 31 undef, tmps.getD 32 undef, tmps.getD 33 undef, tmps.getD 34 undef, tmps.getD 35 undef, tmps.getD 36 undef, tmps.getD 37 undef, tmps.getD 38 undef, tmps.getD 39 undef, tmps.getD 40 undef, tmps.getD 41 undef, tmps.getD 42 undef, tmps.getD 43 undef, tmps.getD 44 undef, tmps.getD 45 undef, tmps.getD 46 undef, tmps.getD 47 undef, tmps.getD 48 undef, tmps.getD 49 undef, tmps.getD 50 undef, tmps.getD 51 undef, tmps.getD 52 undef, tmps.getD 53 undef, tmps.getD 54 undef, tmps.getD 55 undef, tmps.getD 56 undef, tmps.getD 57 undef, tmps.getD 58 undef, tmps.getD 59 undef, tmps.getD 60 undef, tmps.getD 61 undef, tmps.getD 62 undef, tmps.getD 63 undef, tmps.getD 64 undef, tmps.getD 65 undef, tmps.getD 66 undef, tmps.getD 67 undef, tmps.getD 68 undef, tmps.getD 69 undef, tmps.getD 70 undef, tmps.getD 71 undef, tmps.getD 72 undef, tmps.getD 73 undef, tmps.getD 74 undef, tmps.getD 75 undef, tmps.getD 76 undef, tmps.getD 77 undef, tmps.getD 78 undef, tmps.getD 79 undef, tmps.getD 80 undef, tmps.getD 81 undef, tmps.getD 82 undef, tmps.getD 83 undef, tmps.getD 84 undef, tmps.getD 85 undef, tmps.getD 86 undef, tmps.getD 87 undef, tmps.getD 88 undef, tmps.getD 89 undef, tmps.getD 90 undef, tmps.getD 91 undef, tmps.getD 92 undef, tmps.getD 93 undef, tmps.getD 94 undef, tmps.getD 95 undef, tmps.getD 96 undef, tmps.getD 97 undef, tmps.getD 98 undef, tmps.getD 99 undef, tmps.getD 100 undef, tmps.getD 101 undef, tmps.getD 102 undef, tmps.getD 103 undef] := h.trans rfl
    exact congrArg (fun t => (⟨t, defers⟩ : Act)) e
theorem at_next {w : World} {d : Nat} {ys : List Int} {ere : Bool} {k : Nat} {va : Value} {wr w3 w4 : World} {v4 : Value} (hd : d < w.heap.size) (h : AtAtom w d ys ere k va wr) (hk : k < ys.length) (P3 : PR w3 d ys ere (leadOf ere) (k + 1)) (G3 : wr.grownBy w3 (some d))
    (h4 : w4.ownsRow (w.heap.size + 1) 26 5 v4 (k + 1) (nodes (ys.take k) ++ nodeC (ys.getD k 0))) (g4 : (w3.alloc (.cells (nodeC (ys.getD k 0)).toArray 26)).grownBy w4 va.ownBlock) : ∃ g cap, v4 = .slice (some ⟨g, 0, none⟩) (k + 1) cap ∧ AtAtom w d ys ere (k + 1) (.slice (some ⟨g, 0, none⟩) (k + 1) cap) w4 ∧ w4.cell? ⟨g, 0, none⟩ = some (.int .i64 1) := by
  have hA := AtAtom.next hd h hk P3 G3 h4 g4
  obtain ⟨g, cap, rfl, _, _⟩ := row_slice hA.row (by omega)
  have hc := World.ownsRow.cellAt hA.row 0 (by omega)
  refine ⟨g, cap, rfl, hA, hc.trans ?_⟩
  cases ys with
  | nil => simp at hk
  | cons y ys => rfl
theorem node_news (w3 : World) (c : Int) : (∀ j u, (nodeC c)[j]? = some u → (w3.alloc (.cells (nodeC c).toArray 26)).cell? ((⟨w3.heap.size, 0, none⟩ : Addr).add j) = some u) ∧ ∀ u ∈ nodeC c, u.oneCell' = true := by
  refine ⟨World.news_of_block (heap_alloc_new w3 _), fun u hu => ?_⟩
  simp only [nodeC, List.mem_cons, List.not_mem_nil, or_false] at hu
  rcases hu with rfl | rfl | rfl | rfl | rfl <;> rfl
theorem node_cells {w : World} {base g cap n : Nat} {ys : List Int} (h : w.ownsRow base 26 5 (.slice (some ⟨g, 0, none⟩) n cap) n (nodes ys)) (hn : 0 < n) (hy : ys.length = n) : w.cell? ⟨g, 0, none⟩ = some (.int .i64 1) := by
  have hc := World.ownsRow.cellAt h 0 (by omega)
  rw [hc]
  cases ys with
  | nil => simp at hy; omega
  | cons y ys => rfl

set_option maxRecDepth 20000 in
set_option maxHeartbeats 8000000 in
theorem pattern_any (w : World) (d : Nat) (ys : List Int) (ere : Bool) (h : PR w d ys ere (leadOf ere) 0) (hl : ys.length ≤ 8) (h1 : 1 ≤ ys.length) (hy : ∀ y ∈ ys, Letter y) :
    Calls Tryz.prog 20 #[.pointer (some ⟨d, 0, none⟩), .bool false] w fun e w' => ∃ g cap, e = .returned (.agg #[.int .i64 7, .int .i64 0, .int .i64 0, .string ⟨#[]⟩, .slice (some ⟨g, 0, none⟩) ys.length cap]) ∧ w'.ownsRow (w.heap.size + 1) 26 5 (.slice (some ⟨g, 0, none⟩) ys.length cap) ys.length (nodes ys) ∧ w.grownBy w' (some d) := by
  have hd : d < w.heap.size := (Array.getElem?_eq_some_iff.1 h.blk).1
  have HEn : Hid (∀ (W : World) (k : Nat), PR W d ys ere (leadOf ere) k → Calls Tryz.prog 29 #[.pointer (some ⟨d, 0, none⟩)] W fun e w' => e = .returned (.bool (decide (k = ys.length))) ∧ ∃ m, w' = W.drewN m) := hide (fun W k hP => ended_any W d ys ere _ k hP hl)
  have HSe : Hid (∀ (W : World) (k : Nat), k ≤ ys.length → PR W d ys ere (leadOf ere) k → Calls Tryz.prog 30 #[.pointer (some ⟨d, 0, none⟩), .string (strOfNums [124])] W fun e w' => e = .returned (.bool false) ∧ ∃ m, w' = W.drewN m) := hide (fun W k hk hP => sees_no W d ys ere _ k hP hl hk hy 124 [] (no_of (by omega)) (by simp))
  have HTk : Hid (∀ (W : World) (k : Nat), k ≤ ys.length → PR W d ys ere (leadOf ere) k → Calls Tryz.prog 34 #[.pointer (some ⟨d, 0, none⟩), .string (strOfNums [124])] W fun e w' => e = .returned (.bool false) ∧ ∃ m, w' = W.drewN m) := hide (fun W k hk hP => takes_no W d ys ere _ k hP hl hk hy 124 [] (no_of (by omega)) (by simp))
  have HAt : Hid (∀ (W : World) (k : Nat) (f : Bool), k < ys.length → PR W d ys ere (leadOf ere) k → Calls Tryz.prog 31 #[.pointer (some ⟨d, 0, none⟩), .bool false, .bool f] W fun e w' => e = .returned (.agg #[.int .i64 1, .int .i64 (ys.getD k 0), .int .i64 0, .string ⟨#[]⟩, .slice none 0 0]) ∧ PR w' d ys ere (leadOf ere) (k + 1) ∧ W.grownBy w' (some d)) := hide (fun W k f hk hP => atom_any W d ys ere f k hP hl hk hy)
  have HRp : Hid (∀ (W : World) (k : Nat), k ≤ ys.length → PR W d ys ere (leadOf ere) k → Calls Tryz.prog 33 #[.pointer (some ⟨d, 0, none⟩)] W fun e w' => e = .returned (.tuple #[.int .i64 0, .int .i64 0, .bool false]) ∧ ∃ m, w' = W.drewN m) := hide (fun W k hk hP => repetition_no W d ys ere k hP hl hk hy)
  have HSt : Hid (∀ (W : World) (k g n cap : Nat), 1 ≤ n → PR W d ys ere (leadOf ere) k → W.cell? ⟨g, 0, none⟩ = some (.int .i64 1) → Calls Tryz.prog 32 #[.pointer (some ⟨d, 0, none⟩), .slice (some ⟨g, 0, none⟩) n cap] W fun e w' => e = .returned (.bool false) ∧ w' = W) := hide (fun W k g n cap hn hP hc => star_no W d ys ere k hP g n cap hn hc)
  obtain ⟨i0, hi, hz0, hz1, hz2⟩ := info_parts info26
  have HI := hide (And.intro hi (And.intro hz0 (And.intro hz1 hz2)))
  clear hi hz0 hz1 hz2
  have HS0 : Hid (AtAtom w d ys ere 0 (.slice none 0 0) (w.alloc (.cells #[.int .i64 0, .int .i64 0, .int .i64 0, .string ⟨#[]⟩, .slice none 0 0] 26))) := by
    refine hide ⟨by omega, ⟨(Below.heap_alloc w _ d hd).trans h.blk⟩, ⟨by simp [nodes], .inl ⟨rfl, rfl⟩⟩, heap_alloc_new w _, World.grownBy_alloc w _ _⟩
  clear h hy
  go_enter Tryz.func20, Tryz.ntmps20
  go_wp2
  refine wp_scope_many (fun l a' w' => a'.tmps.size = 104 ∧ a'.defers = [] ∧ a'.tmps.getD 0 undef = .pointer (some ⟨d, 0, none⟩) ∧ a'.tmps.getD 1 undef = .bool false ∧ a'.tmps.getD 2 undef = undef ∧ a'.tmps.getD 3 undef = undef ∧ a'.tmps.getD 4 undef = .pointer (some ⟨w.heap.size, 0, none⟩) ∧ a'.tmps.getD 5 undef = .slice none 0 0 ∧ ((l = 1 ∧ ∃ k : Nat, 1 ≤ k ∧ AtAtom w d ys ere k (a'.tmps.getD 6 undef) w') ∨ (l = 0 ∧ AtAtom w d ys ere ys.length (a'.tmps.getD 6 undef) w'))) (fun l a' _ => if l = 0 then 0 else 1 + (ys.length - (match a'.tmps.getD 6 undef with | .slice _ n _ => n | _ => 0))) ?_ ?_
  · have HA := HS0
    clear HS0
    generalize w.alloc (.cells #[.int .i64 0, .int .i64 0, .int .i64 0, .string ⟨#[]⟩, .slice none 0 0] 26) = wr at HA ⊢
    cases ere with
    | false =>
      go_wp2
      go_step3
      go_wp2_with fail
      refine (HEn.out _ 0 ?_).mono ?_
      · exact HA.out.rd
      rintro e w1 ⟨rfl, m1, rfl⟩
      have HA0 := HA
      clear HA
      have HA := hide (HA0.out.drewN m1)
      have hde : decide (0 = ys.length) = false := by simp; omega
      rw [hde]
      clear hde
      have c1 := HA.out.rd.c1
      go_wp2_with fail
      refine (HAt.out _ 0 _ (by omega) ?_).mono ?_
      · exact HA.out.rd
      rintro e w3 ⟨rfl, P3, G3⟩
      have HNx : Hid (∀ v4 w4, w4.ownsRow (w.heap.size + 1) 26 5 v4 (0 + 1) (nodes (ys.take 0) ++ nodeC (ys.getD 0 0)) → (w3.alloc (.cells (nodeC (ys.getD 0 0)).toArray 26)).grownBy w4 (.slice none 0 0 : Value).ownBlock → ∃ g cap, v4 = .slice (some ⟨g, 0, none⟩) (0 + 1) cap ∧ AtAtom w d ys false (0 + 1) (.slice (some ⟨g, 0, none⟩) (0 + 1) cap) w4 ∧ w4.cell? ⟨g, 0, none⟩ = some (.int .i64 1)) := hide (fun v4 w4 a b => at_next hd HA.out (by omega) P3 G3 a b)
      have HRow : Hid ((w3.alloc (.cells (nodeC (ys.getD 0 0)).toArray 26)).ownsRow (w.heap.size + 1) 26 5 (.slice none 0 0) 0 (nodes (ys.take 0))) := hide (World.ownsRow.alloc (row_keep HA.out.row G3 (fun b hb e => by have := (World.ownsRow.lt HA.out.row b hb).1; simp at e; omega)) _)
      have HNews := hide (node_news w3 (ys.getD 0 0))
      have hbs : w.heap.size + 1 ≤ w3.heap.size := by have h1 := (Array.getElem?_eq_some_iff.1 HA.out.res).1; have h2 := G3.size; simp at h1 h2; omega
      clear P3 G3 HA HA0 c1
      obtain ⟨c, hc⟩ : ∃ c, c = ys.getD 0 0 := ⟨_, rfl⟩
      rw [← hc] at HNx HRow HNews ⊢
      clear hc
      go_wp2_with (at_builtin; refine wpList_append_own _ rfl _ _ 24 rfl (w.heap.size + 1) 26 i0 _ 5 64 Tryz.underlying24 HI.out.1 HI.out.2.1 HI.out.2.2.1 HI.out.2.2.2 rfl (by decide) (.slice none 0 0) 0 (nodes (ys.take 0)) rfl HRow.out ⟨w3.heap.size, 0, none⟩ 1 1 (nodeC c) rfl rfl HNews.out.1 HNews.out.2 (by unfold maxLen; omega) (by omega) (by simp; omega) ?_; intro v4 w4 h4 g4 _; obtain ⟨g, cap, rfl, hA4, hc4⟩ := HNx.out v4 w4 h4 g4; have HA4 := hide (And.intro hA4 hc4); clear h4 g4 hA4 hc4)
      clear HNx HRow HNews hbs
      go_step3
      go_wp2_with fail
      refine (HSt.out _ (0 + 1) g (0 + 1) cap (by omega) HA4.out.1.rd HA4.out.2).mono ?_
      rintro e w5 ⟨rfl, hw5⟩
      replace hw5 := hw5.symm
      subst hw5
      go_wp2_with fail
      refine (HRp.out _ (0 + 1) (by omega) HA4.out.1.rd).mono ?_
      rintro e w6 ⟨rfl, m6, rfl⟩
      have HA6 := hide (HA4.out.1.drewN m6)
      clear HA4
      go_wp2
      go_step3
      exact ⟨rfl, rfl, rfl, rfl, rfl, rfl, rfl, rfl, Or.inl ⟨rfl, 0 + 1, by omega, HA6.out⟩⟩
    | true =>
      go_wp2
      go_step3
      go_wp2_with fail
      refine (HEn.out _ 0 ?_).mono ?_
      · exact HA.out.rd
      rintro e w1 ⟨rfl, m1, rfl⟩
      have HA0 := HA
      clear HA
      have HA := hide (HA0.out.drewN m1)
      have hde : decide (0 = ys.length) = false := by simp; omega
      rw [hde]
      clear hde
      have c1 := HA.out.rd.c1
      go_wp2_with fail
      refine (HSe.out _ 0 HA.out.le ?_).mono ?_
      · exact HA.out.rd
      rintro e w2 ⟨rfl, m2, rfl⟩
      clear HA c1
      have HA := hide (HA0.out.drewN (m1 + m2))
      go_wp2_with fail
      refine (HAt.out _ 0 _ (by omega) ?_).mono ?_
      · exact HA.out.rd
      rintro e w3 ⟨rfl, P3, G3⟩
      have HNx : Hid (∀ v4 w4, w4.ownsRow (w.heap.size + 1) 26 5 v4 (0 + 1) (nodes (ys.take 0) ++ nodeC (ys.getD 0 0)) → (w3.alloc (.cells (nodeC (ys.getD 0 0)).toArray 26)).grownBy w4 (.slice none 0 0 : Value).ownBlock → ∃ g cap, v4 = .slice (some ⟨g, 0, none⟩) (0 + 1) cap ∧ AtAtom w d ys true (0 + 1) (.slice (some ⟨g, 0, none⟩) (0 + 1) cap) w4 ∧ w4.cell? ⟨g, 0, none⟩ = some (.int .i64 1)) := hide (fun v4 w4 a b => at_next hd HA.out (by omega) P3 G3 a b)
      have HRow : Hid ((w3.alloc (.cells (nodeC (ys.getD 0 0)).toArray 26)).ownsRow (w.heap.size + 1) 26 5 (.slice none 0 0) 0 (nodes (ys.take 0))) := hide (World.ownsRow.alloc (row_keep HA.out.row G3 (fun b hb e => by have := (World.ownsRow.lt HA.out.row b hb).1; simp at e; omega)) _)
      have HNews := hide (node_news w3 (ys.getD 0 0))
      have hbs : w.heap.size + 1 ≤ w3.heap.size := by have h1 := (Array.getElem?_eq_some_iff.1 HA.out.res).1; have h2 := G3.size; simp at h1 h2; omega
      clear P3 G3 HA HA0
      obtain ⟨c, hc⟩ : ∃ c, c = ys.getD 0 0 := ⟨_, rfl⟩
      rw [← hc] at HNx HRow HNews ⊢
      clear hc
      go_wp2_with (at_builtin; refine wpList_append_own _ rfl _ _ 24 rfl (w.heap.size + 1) 26 i0 _ 5 64 Tryz.underlying24 HI.out.1 HI.out.2.1 HI.out.2.2.1 HI.out.2.2.2 rfl (by decide) (.slice none 0 0) 0 (nodes (ys.take 0)) rfl HRow.out ⟨w3.heap.size, 0, none⟩ 1 1 (nodeC c) rfl rfl HNews.out.1 HNews.out.2 (by unfold maxLen; omega) (by omega) (by simp; omega) ?_; intro v4 w4 h4 g4 _; obtain ⟨g, cap, rfl, hA4, hc4⟩ := HNx.out v4 w4 h4 g4; have HA4 := hide (And.intro hA4 hc4); clear h4 g4 hA4 hc4)
      clear HNx HRow HNews hbs
      go_step3
      go_wp2_with fail
      refine (HSt.out _ (0 + 1) g (0 + 1) cap (by omega) HA4.out.1.rd HA4.out.2).mono ?_
      rintro e w5 ⟨rfl, hw5⟩
      replace hw5 := hw5.symm
      subst hw5
      go_wp2_with fail
      refine (HRp.out _ (0 + 1) (by omega) HA4.out.1.rd).mono ?_
      rintro e w6 ⟨rfl, m6, rfl⟩
      have HA6 := hide (HA4.out.1.drewN m6)
      clear HA4
      go_wp2
      go_step3
      exact ⟨rfl, rfl, rfl, rfl, rfl, rfl, rfl, rfl, Or.inl ⟨rfl, 0 + 1, by omega, HA6.out⟩⟩
  · intro l a' wr hJ
    obtain ⟨hs, hdf, e0, e1, e2, e3, e4, e5, hJ⟩ := hJ
    obtain ⟨u, hu⟩ := frame104 a' hs
    rw [e0, e1, e2, e3, e4, e5, hdf] at hu
    obtain ⟨va, e6⟩ : ∃ va, a'.tmps.getD 6 undef = va := ⟨_, rfl⟩
    rw [e6] at hu hJ ⊢
    clear hs hdf e0 e1 e2 e3 e4 e5 e6
    subst hu
    rcases hJ with ⟨rfl, k, hk1, hA⟩ | ⟨rfl, hA⟩
    · refine ⟨_, rfl, ?_⟩
      obtain ⟨g0, cap0, rfl, _, _⟩ := row_slice hA.row (by omega)
      have HA := hide hA
      have hkl := hA.le
      clear hA HS0
      by_cases hkn : k < ys.length
      · cases ere with
        | false =>
          go_wp2_with fail
          refine (HEn.out _ k ?_).mono ?_
          · exact HA.out.rd
          rintro e w1 ⟨rfl, m1, rfl⟩
          have HA0 := HA
          clear HA
          have HA := hide (HA0.out.drewN m1)
          have hde : decide (k = ys.length) = false := by simp; omega
          rw [hde]
          clear hde
          have c1 := HA.out.rd.c1
          go_wp2_with fail
          refine (HAt.out _ k _ (by omega) ?_).mono ?_
          · exact HA.out.rd
          rintro e w3 ⟨rfl, P3, G3⟩
          have HNx : Hid (∀ v4 w4, w4.ownsRow (w.heap.size + 1) 26 5 v4 (k + 1) (nodes (ys.take k) ++ nodeC (ys.getD k 0)) → (w3.alloc (.cells (nodeC (ys.getD k 0)).toArray 26)).grownBy w4 (.slice (some ⟨g0, 0, none⟩) k cap0 : Value).ownBlock → ∃ g cap, v4 = .slice (some ⟨g, 0, none⟩) (k + 1) cap ∧ AtAtom w d ys false (k + 1) (.slice (some ⟨g, 0, none⟩) (k + 1) cap) w4 ∧ w4.cell? ⟨g, 0, none⟩ = some (.int .i64 1)) := hide (fun v4 w4 a b => at_next hd HA.out (by omega) P3 G3 a b)
          have HRow : Hid ((w3.alloc (.cells (nodeC (ys.getD k 0)).toArray 26)).ownsRow (w.heap.size + 1) 26 5 (.slice (some ⟨g0, 0, none⟩) k cap0) k (nodes (ys.take k))) := hide (World.ownsRow.alloc (row_keep HA.out.row G3 (fun b hb e => by have := (World.ownsRow.lt HA.out.row b hb).1; simp at e; omega)) _)
          have HNews := hide (node_news w3 (ys.getD k 0))
          have hbs : w.heap.size + 1 ≤ w3.heap.size := by have h1 := (Array.getElem?_eq_some_iff.1 HA.out.res).1; have h2 := G3.size; simp at h1 h2; omega
          clear P3 G3 HA HA0 c1
          obtain ⟨c, hc⟩ : ∃ c, c = ys.getD k 0 := ⟨_, rfl⟩
          rw [← hc] at HNx HRow HNews ⊢
          clear hc
          go_wp2_with (at_builtin; refine wpList_append_own _ rfl _ _ 24 rfl (w.heap.size + 1) 26 i0 _ 5 64 Tryz.underlying24 HI.out.1 HI.out.2.1 HI.out.2.2.1 HI.out.2.2.2 rfl (by decide) (.slice (some ⟨g0, 0, none⟩) k cap0) k (nodes (ys.take k)) rfl HRow.out ⟨w3.heap.size, 0, none⟩ 1 1 (nodeC c) rfl rfl HNews.out.1 HNews.out.2 (by unfold maxLen; omega) (by omega) (by simp; omega) ?_; intro v4 w4 h4 g4 _; obtain ⟨g, cap, rfl, hA4, hc4⟩ := HNx.out v4 w4 h4 g4; have HA4 := hide (And.intro hA4 hc4); clear h4 g4 hA4 hc4)
          clear HNx HRow HNews hbs
          go_step3
          go_wp2_with fail
          refine (HSt.out _ (k + 1) g (k + 1) cap (by omega) HA4.out.1.rd HA4.out.2).mono ?_
          rintro e w5 ⟨rfl, hw5⟩
          replace hw5 := hw5.symm
          subst hw5
          go_wp2_with fail
          refine (HRp.out _ (k + 1) (by omega) HA4.out.1.rd).mono ?_
          rintro e w6 ⟨rfl, m6, rfl⟩
          have HA6 := hide (HA4.out.1.drewN m6)
          clear HA4
          go_wp2
          go_step3
          refine ⟨⟨rfl, rfl, rfl, rfl, rfl, rfl, rfl, rfl, Or.inl ⟨rfl, k + 1, by omega, HA6.out⟩⟩, ?_⟩
          show 1 + (ys.length - (k + 1)) < 1 + (ys.length - k)
          omega
        | true =>
          go_wp2_with fail
          refine (HEn.out _ k ?_).mono ?_
          · exact HA.out.rd
          rintro e w1 ⟨rfl, m1, rfl⟩
          have HA0 := HA
          clear HA
          have HA := hide (HA0.out.drewN m1)
          have hde : decide (k = ys.length) = false := by simp; omega
          rw [hde]
          clear hde
          have c1 := HA.out.rd.c1
          go_wp2_with fail
          refine (HSe.out _ k HA.out.le ?_).mono ?_
          · exact HA.out.rd
          rintro e w2 ⟨rfl, m2, rfl⟩
          clear HA c1
          have HA := hide (HA0.out.drewN (m1 + m2))
          go_wp2_with fail
          refine (HAt.out _ k _ (by omega) ?_).mono ?_
          · exact HA.out.rd
          rintro e w3 ⟨rfl, P3, G3⟩
          have HNx : Hid (∀ v4 w4, w4.ownsRow (w.heap.size + 1) 26 5 v4 (k + 1) (nodes (ys.take k) ++ nodeC (ys.getD k 0)) → (w3.alloc (.cells (nodeC (ys.getD k 0)).toArray 26)).grownBy w4 (.slice (some ⟨g0, 0, none⟩) k cap0 : Value).ownBlock → ∃ g cap, v4 = .slice (some ⟨g, 0, none⟩) (k + 1) cap ∧ AtAtom w d ys true (k + 1) (.slice (some ⟨g, 0, none⟩) (k + 1) cap) w4 ∧ w4.cell? ⟨g, 0, none⟩ = some (.int .i64 1)) := hide (fun v4 w4 a b => at_next hd HA.out (by omega) P3 G3 a b)
          have HRow : Hid ((w3.alloc (.cells (nodeC (ys.getD k 0)).toArray 26)).ownsRow (w.heap.size + 1) 26 5 (.slice (some ⟨g0, 0, none⟩) k cap0) k (nodes (ys.take k))) := hide (World.ownsRow.alloc (row_keep HA.out.row G3 (fun b hb e => by have := (World.ownsRow.lt HA.out.row b hb).1; simp at e; omega)) _)
          have HNews := hide (node_news w3 (ys.getD k 0))
          have hbs : w.heap.size + 1 ≤ w3.heap.size := by have h1 := (Array.getElem?_eq_some_iff.1 HA.out.res).1; have h2 := G3.size; simp at h1 h2; omega
          clear P3 G3 HA HA0
          obtain ⟨c, hc⟩ : ∃ c, c = ys.getD k 0 := ⟨_, rfl⟩
          rw [← hc] at HNx HRow HNews ⊢
          clear hc
          go_wp2_with (at_builtin; refine wpList_append_own _ rfl _ _ 24 rfl (w.heap.size + 1) 26 i0 _ 5 64 Tryz.underlying24 HI.out.1 HI.out.2.1 HI.out.2.2.1 HI.out.2.2.2 rfl (by decide) (.slice (some ⟨g0, 0, none⟩) k cap0) k (nodes (ys.take k)) rfl HRow.out ⟨w3.heap.size, 0, none⟩ 1 1 (nodeC c) rfl rfl HNews.out.1 HNews.out.2 (by unfold maxLen; omega) (by omega) (by simp; omega) ?_; intro v4 w4 h4 g4 _; obtain ⟨g, cap, rfl, hA4, hc4⟩ := HNx.out v4 w4 h4 g4; have HA4 := hide (And.intro hA4 hc4); clear h4 g4 hA4 hc4)
          clear HNx HRow HNews hbs
          go_step3
          go_wp2_with fail
          refine (HSt.out _ (k + 1) g (k + 1) cap (by omega) HA4.out.1.rd HA4.out.2).mono ?_
          rintro e w5 ⟨rfl, hw5⟩
          replace hw5 := hw5.symm
          subst hw5
          go_wp2_with fail
          refine (HRp.out _ (k + 1) (by omega) HA4.out.1.rd).mono ?_
          rintro e w6 ⟨rfl, m6, rfl⟩
          have HA6 := hide (HA4.out.1.drewN m6)
          clear HA4
          go_wp2
          go_step3
          refine ⟨⟨rfl, rfl, rfl, rfl, rfl, rfl, rfl, rfl, Or.inl ⟨rfl, k + 1, by omega, HA6.out⟩⟩, ?_⟩
          show 1 + (ys.length - (k + 1)) < 1 + (ys.length - k)
          omega
      · obtain rfl : k = ys.length := by omega
        cases ere with
        | false =>
          go_wp2_with fail
          refine (HEn.out _ ys.length ?_).mono ?_
          · exact HA.out.rd
          rintro e w1 ⟨rfl, m1, rfl⟩
          have HA1 := hide (HA.out.drewN m1)
          have hde : decide (ys.length = ys.length) = true := by simp
          rw [hde]
          clear hde HA
          go_wp2
          go_step3
          refine ⟨⟨rfl, rfl, rfl, rfl, rfl, rfl, rfl, rfl, Or.inr ⟨rfl, HA1.out⟩⟩, ?_⟩
          simp
        | true =>
          go_wp2_with fail
          refine (HEn.out _ ys.length ?_).mono ?_
          · exact HA.out.rd
          rintro e w1 ⟨rfl, m1, rfl⟩
          have HA1 := hide (HA.out.drewN m1)
          have hde : decide (ys.length = ys.length) = true := by simp
          rw [hde]
          clear hde HA
          go_wp2
          go_step3
          refine ⟨⟨rfl, rfl, rfl, rfl, rfl, rfl, rfl, rfl, Or.inr ⟨rfl, HA1.out⟩⟩, ?_⟩
          simp
    · refine ⟨_, rfl, ?_⟩
      obtain ⟨g0, cap0, rfl, hg0, hg1⟩ := row_slice hA.row (by omega)
      have HA := hide hA
      clear hA HS0
      cases ere with
      | false =>
        have c1 := HA.out.rd.c1
        have HGo := hide (fun v5 w5 => pat_made (v5 := v5) (w5 := w5) HA.out h1)
        have HNw := hide (cat_news wr (.slice (some ⟨g0, 0, none⟩) ys.length cap0) rfl)
        have HEm : Hid ((wr.alloc (.cells #[.int .i64 7, .int .i64 0, .int .i64 0, .string ⟨#[]⟩, .slice (some ⟨g0, 0, none⟩) ys.length cap0] 26)).ownsRow (w.heap.size + 1) 26 5 (.slice none 0 0) 0 []) := hide ⟨by simp, .inl ⟨rfl, rfl⟩⟩
        have hbs : w.heap.size + 1 ≤ wr.heap.size := (Array.getElem?_eq_some_iff.1 HA.out.res).1
        clear HA
        go_wp2_with (at_builtin; refine wpList_append_own _ rfl _ _ 24 rfl (w.heap.size + 1) 26 i0 _ 5 64 Tryz.underlying24 HI.out.1 HI.out.2.1 HI.out.2.2.1 HI.out.2.2.2 rfl (by decide) (.slice none 0 0) 0 [] rfl HEm.out ⟨wr.heap.size, 0, none⟩ 1 1 [.int .i64 7, .int .i64 0, .int .i64 0, .string ⟨#[]⟩, .slice (some ⟨g0, 0, none⟩) ys.length cap0] rfl rfl HNw.out.1 HNw.out.2 (by unfold maxLen; omega) (by omega) (by simp; omega) ?_; intro v5 w5 h5 g5 _; obtain ⟨gb, capb, rfl, hA5, b0, b1, b2, b3, b4, hne⟩ := HGo.out v5 w5 h5 g5; have HA5 := hide hA5; have d1 := hA5.rd.c1; obtain ⟨r0, r1, r2, r3, r4⟩ := res_cells hA5.res; have q0 := res_fz hA5.res 0; have q1 := res_fz hA5.res 1; have q2 := res_fz hA5.res 2; have q3 := res_fz hA5.res 3; have q4 := res_fz hA5.res 4; clear h5 g5 hA5)
        have HE := hide (pat_end HA5.out hg0 (.slice (some ⟨g0, 0, none⟩) ys.length cap0))
        simp only [jumps]
        exact bodyPost_ret (results_cell_row rfl _ _ w.heap.size 26 _ (0, 0) _ rfl HE.out.1 Tryz.underlying26 rfl (size26.trans (by simp))) rfl ⟨g0, cap0, rfl, HE.out.2.1, HE.out.2.2⟩
      | true =>
        have c1 := HA.out.rd.c1
        have HGo := hide (fun v5 w5 => pat_made (v5 := v5) (w5 := w5) HA.out h1)
        have HNw := hide (cat_news wr (.slice (some ⟨g0, 0, none⟩) ys.length cap0) rfl)
        have HEm : Hid ((wr.alloc (.cells #[.int .i64 7, .int .i64 0, .int .i64 0, .string ⟨#[]⟩, .slice (some ⟨g0, 0, none⟩) ys.length cap0] 26)).ownsRow (w.heap.size + 1) 26 5 (.slice none 0 0) 0 []) := hide ⟨by simp, .inl ⟨rfl, rfl⟩⟩
        have hbs : w.heap.size + 1 ≤ wr.heap.size := (Array.getElem?_eq_some_iff.1 HA.out.res).1
        clear HA
        go_wp2_with (at_builtin; refine wpList_append_own _ rfl _ _ 24 rfl (w.heap.size + 1) 26 i0 _ 5 64 Tryz.underlying24 HI.out.1 HI.out.2.1 HI.out.2.2.1 HI.out.2.2.2 rfl (by decide) (.slice none 0 0) 0 [] rfl HEm.out ⟨wr.heap.size, 0, none⟩ 1 1 [.int .i64 7, .int .i64 0, .int .i64 0, .string ⟨#[]⟩, .slice (some ⟨g0, 0, none⟩) ys.length cap0] rfl rfl HNw.out.1 HNw.out.2 (by unfold maxLen; omega) (by omega) (by simp; omega) ?_; intro v5 w5 h5 g5 _; obtain ⟨gb, capb, rfl, hA5, b0, b1, b2, b3, b4, hne⟩ := HGo.out v5 w5 h5 g5; have HA5 := hide hA5; have d1 := hA5.rd.c1; obtain ⟨r0, r1, r2, r3, r4⟩ := res_cells hA5.res; have q0 := res_fz hA5.res 0; have q1 := res_fz hA5.res 1; have q2 := res_fz hA5.res 2; have q3 := res_fz hA5.res 3; have q4 := res_fz hA5.res 4; clear h5 g5 hA5)
        refine (HTk.out _ ys.length (Nat.le_refl _) HA5.out.rd).mono ?_
        rintro e w6 ⟨rfl, m6, rfl⟩
        have HE := hide (pat_end (HA5.out.drewN m6) hg0 (.slice (some ⟨g0, 0, none⟩) ys.length cap0))
        go_wp2
        simp only [jumps]
        exact bodyPost_ret (results_cell_row rfl _ _ w.heap.size 26 _ (0, 0) _ rfl HE.out.1 Tryz.underlying26 rfl (size26.trans (by simp))) rfl ⟨g0, cap0, rfl, HE.out.2.1, HE.out.2.2⟩
end Go.Proofs.YtfpeajbfimodfaaGreatDoor.pat

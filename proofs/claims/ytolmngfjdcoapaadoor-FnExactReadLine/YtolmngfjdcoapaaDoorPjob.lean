/- The event of a job that a line names: the program's side. -/
import Derived.Test.YtolmngfjdcoapaaDoorPev
namespace Go.Proofs.YtolmngfjdcoapaaDoor.phr
open Go.ChangeShapes Go.WideShapes Go.ChangeAt Go.RowKit
open Go.Proofs.YtolmngfjdcoapaaDoor.bytes Go.Proofs.YtolmngfjdcoapaaDoor.pile Go.Proofs.YtolmngfjdcoapaaDoor.jhelp Go.Proofs.YtolmngfjdcoapaaDoor.num Go.Proofs.YtolmngfjdcoapaaDoor.ijob
set_option linter.unusedVariables false
def txt : ByteArray := ⟨#[111, 110, 101, 10, 116, 119, 111, 10, 116, 104, 114, 101, 101, 10]⟩
def tx (v : Int) : ByteArray := if v = 0 then txt else emp
/-- The job behind the word job: its node and its bytes. -/
def jobP (s : ByteArray) : Option (Int × List Int) :=
  (numS (cutA s).data.toList).bind fun n => (numS (cutA (cutB s)).data.toList).bind fun c => (numS (cutA (cutB (cutB s))).data.toList).bind fun q =>
    if cutA (cutB (cutB (cutB s))) = emp then none else
      (numS (cutA (cutB (cutB (cutB (cutB s))))).data.toList).bind fun v =>
        if jobB c q (cutA (cutB (cutB (cutB s)))).size v (cutB (cutB (cutB (cutB (cutB s))))).size (tx v).size = true then some (n, jobN c q (cutA (cutB (cutB (cutB s)))) v (cutB (cutB (cutB (cutB (cutB s))))) (tx v) false false) else none
def PjE (w : World) (b : Nat) (kind : Int) (s : ByteArray) (f : Bool) (e : Ending) (w' : World) : Prop :=
  ∃ (n : Int) (o : Option Addr) (l k : Nat) (f' : Bool), e = .returned (.agg #[.int .i64 kind, .int .i64 n, .slice o l k]) ∧ Ph w' b (cutB (cutB (cutB (cutB (cutB s))))) f' ∧ w.grownBy w' (some b) ∧ ((∃ xs, jobP s = some (n, xs) ∧ f' = f ∧ Own w' w.heap.size (.slice o l k) xs) ∨ (jobP s = none ∧ f' = true))
theorem numE_flag {w : World} {b : Nat} {s : ByteArray} {f : Bool} {e : Ending} {w' : World} (h : NumE w b s f e w') : ∃ (v : Int) (f' : Bool), e = .returned (.int .i64 v) ∧ Ph w' b (cutB s) f' ∧ w.grownBy w' (some b) ∧ (numS (cutA s).data.toList = some v ∧ f' = f ∨ numS (cutA s).data.toList = none ∧ f' = true) := h
theorem own_keep {w w' : World} {base : Nat} {v : Value} {xs : List Int} (h : Own w base v xs) (hk : ∀ g, v.ownBlock = some g → w'.heap[g]? = w.heap[g]?) : Own w' base v xs := by
  refine ⟨h.1, ?_⟩
  obtain ⟨h1, h2 | ⟨g, cap, cur, rfl, hb, hg, r⟩⟩ := h.2
  · exact ⟨h1, .inl h2⟩
  · exact ⟨h1, .inr ⟨g, cap, cur, rfl, hb, (hk g rfl).trans hg, r⟩⟩
set_option maxHeartbeats 4000000 in
theorem chain (w : World) (b : Nat) (kind : Int) (s : ByteArray) (f : Bool) (h : Ph w b s f) (hs : s.size < 4294967281) (hv : Vr w) (hb4 : 4 ≤ b) (W0 : World) (hW0 : w.alloc (.cells #[.int .i64 0, .int .i64 0, .slice none 0 0] 24) = W0) : Hid (Calls Tryd.prog 27 #[.pointer (some ⟨b, 0, none⟩)] W0 fun e w1 => ∃ n, e = .returned (.int .i64 n) ∧ ∃ W1, Hid (w1.alloc (.cells #[.int .i64 kind, .int .i64 n, .slice none 0 0] 24) = W1) ∧
    Hid (Calls Tryd.prog 27 #[.pointer (some ⟨b, 0, none⟩)] W1 fun e w2 => ∃ c, e = .returned (.int .i64 c) ∧ Hid (Calls Tryd.prog 27 #[.pointer (some ⟨b, 0, none⟩)] w2 fun e w3 => ∃ q, e = .returned (.int .i64 q) ∧
    Hid (Calls Tryd.prog 14 #[.pointer (some ⟨b, 0, none⟩)] w3 fun e w4 => ∃ F, e = .returned (.string F) ∧ Hid (Calls Tryd.prog 27 #[.pointer (some ⟨b, 0, none⟩)] w4 fun e w5 => ∃ v, e = .returned (.int .i64 v) ∧ ∃ R, (∀ ob, (w5.alloc ob).cell? ⟨b, 0, none⟩ = some (.string R)) ∧
    ((v = 0 ∧ Hid (Calls Tryd.prog 29 #[.agg #[.int .i64 c, .int .i64 q, .string F, .int .i64 v, .string R, .string txt, .bool false, .bool false]] (w5.alloc (.cells #[.int .i64 c, .int .i64 q, .string F, .int .i64 v, .string R, .string txt, .bool false, .bool false] 50)) fun e w6 => ∃ (o : Option Addr) (l k : Nat) (code : Int), e = .returned (.tuple #[.slice o l k, .int .i64 code]) ∧ ((w6.cell? ⟨w1.heap.size, 0, none⟩ = some (.int .i64 kind) ∧ w6.cell? ⟨w1.heap.size, 1, none⟩ = some (.int .i64 n) ∧ w6.cell? ⟨w1.heap.size, 2, none⟩ = some (.slice none 0 0) ∧ w6.frozen? ⟨w1.heap.size, 2, none⟩ = false) ∧ (w6.cell? ⟨w.heap.size, 0, none⟩ = some (.int .i64 0) ∧ w6.cell? ⟨w.heap.size, 1, none⟩ = some (.int .i64 0) ∧ w6.cell? ⟨w.heap.size, 2, none⟩ = some (.slice none 0 0)) ∧ (w6.frozen? ⟨w.heap.size, 0, none⟩ = false ∧ w6.frozen? ⟨w.heap.size, 1, none⟩ = false ∧ w6.frozen? ⟨w.heap.size, 2, none⟩ = false) ∧ (∃ f0, w6.cell? ⟨b, 1, none⟩ = some (.bool f0)) ∧ w6.frozen? ⟨b, 1, none⟩ = false) ∧ ((code = 0 ∧ ∃ W7, w6.setCell ⟨w1.heap.size, 2, none⟩ (.slice o l k) = W7 ∧ ((W7.cell? ⟨w1.heap.size, 0, none⟩ = some (.int .i64 kind) ∧ W7.cell? ⟨w1.heap.size, 1, none⟩ = some (.int .i64 n) ∧ W7.cell? ⟨w1.heap.size, 2, none⟩ = some (.slice o l k)) ∧ (W7.cell? ⟨w.heap.size, 0, none⟩ = some (.int .i64 0) ∧ W7.cell? ⟨w.heap.size, 1, none⟩ = some (.int .i64 0) ∧ W7.cell? ⟨w.heap.size, 2, none⟩ = some (.slice none 0 0)) ∧ (W7.frozen? ⟨w.heap.size, 0, none⟩ = false ∧ W7.frozen? ⟨w.heap.size, 1, none⟩ = false ∧ W7.frozen? ⟨w.heap.size, 2, none⟩ = false)) ∧ ∃ WF, Hid (((W7.setCell ⟨w.heap.size, 0, none⟩ (.int .i64 kind)).setCell ⟨w.heap.size, 1, none⟩ (.int .i64 n)).setCell ⟨w.heap.size, 2, none⟩ (.slice o l k) = WF) ∧ (WF.cell? ⟨w.heap.size, 0, none⟩ = some (.int .i64 kind) ∧ WF.cell? ⟨w.heap.size, 1, none⟩ = some (.int .i64 n) ∧ WF.cell? ⟨w.heap.size, 2, none⟩ = some (.slice o l k)) ∧ Hid (PjE w b kind s f (.returned (.agg #[.int .i64 kind, .int .i64 n, .slice o l k])) WF)) ∨ (code = 1 ∧ ∃ W6, w6.setCell ⟨b, 1, none⟩ (.bool true) = W6 ∧ (W6.cell? ⟨w1.heap.size, 2, none⟩ = some (.slice none 0 0) ∧ W6.frozen? ⟨w1.heap.size, 2, none⟩ = false) ∧ ∃ W7, W6.setCell ⟨w1.heap.size, 2, none⟩ (.slice o l k) = W7 ∧ ((W7.cell? ⟨w1.heap.size, 0, none⟩ = some (.int .i64 kind) ∧ W7.cell? ⟨w1.heap.size, 1, none⟩ = some (.int .i64 n) ∧ W7.cell? ⟨w1.heap.size, 2, none⟩ = some (.slice o l k)) ∧ (W7.cell? ⟨w.heap.size, 0, none⟩ = some (.int .i64 0) ∧ W7.cell? ⟨w.heap.size, 1, none⟩ = some (.int .i64 0) ∧ W7.cell? ⟨w.heap.size, 2, none⟩ = some (.slice none 0 0)) ∧ (W7.frozen? ⟨w.heap.size, 0, none⟩ = false ∧ W7.frozen? ⟨w.heap.size, 1, none⟩ = false ∧ W7.frozen? ⟨w.heap.size, 2, none⟩ = false)) ∧ ∃ WF, Hid (((W7.setCell ⟨w.heap.size, 0, none⟩ (.int .i64 kind)).setCell ⟨w.heap.size, 1, none⟩ (.int .i64 n)).setCell ⟨w.heap.size, 2, none⟩ (.slice o l k) = WF) ∧ (WF.cell? ⟨w.heap.size, 0, none⟩ = some (.int .i64 kind) ∧ WF.cell? ⟨w.heap.size, 1, none⟩ = some (.int .i64 n) ∧ WF.cell? ⟨w.heap.size, 2, none⟩ = some (.slice o l k)) ∧ Hid (PjE w b kind s f (.returned (.agg #[.int .i64 kind, .int .i64 n, .slice o l k])) WF))))) ∨ (v ≠ 0 ∧ Hid (Calls Tryd.prog 29 #[.agg #[.int .i64 c, .int .i64 q, .string F, .int .i64 v, .string R, .string emp, .bool false, .bool false]] (w5.alloc (.cells #[.int .i64 c, .int .i64 q, .string F, .int .i64 v, .string R, .string emp, .bool false, .bool false] 50)) fun e w6 => ∃ (o : Option Addr) (l k : Nat) (code : Int), e = .returned (.tuple #[.slice o l k, .int .i64 code]) ∧ ((w6.cell? ⟨w1.heap.size, 0, none⟩ = some (.int .i64 kind) ∧ w6.cell? ⟨w1.heap.size, 1, none⟩ = some (.int .i64 n) ∧ w6.cell? ⟨w1.heap.size, 2, none⟩ = some (.slice none 0 0) ∧ w6.frozen? ⟨w1.heap.size, 2, none⟩ = false) ∧ (w6.cell? ⟨w.heap.size, 0, none⟩ = some (.int .i64 0) ∧ w6.cell? ⟨w.heap.size, 1, none⟩ = some (.int .i64 0) ∧ w6.cell? ⟨w.heap.size, 2, none⟩ = some (.slice none 0 0)) ∧ (w6.frozen? ⟨w.heap.size, 0, none⟩ = false ∧ w6.frozen? ⟨w.heap.size, 1, none⟩ = false ∧ w6.frozen? ⟨w.heap.size, 2, none⟩ = false) ∧ (∃ f0, w6.cell? ⟨b, 1, none⟩ = some (.bool f0)) ∧ w6.frozen? ⟨b, 1, none⟩ = false) ∧ ((code = 0 ∧ ∃ W7, w6.setCell ⟨w1.heap.size, 2, none⟩ (.slice o l k) = W7 ∧ ((W7.cell? ⟨w1.heap.size, 0, none⟩ = some (.int .i64 kind) ∧ W7.cell? ⟨w1.heap.size, 1, none⟩ = some (.int .i64 n) ∧ W7.cell? ⟨w1.heap.size, 2, none⟩ = some (.slice o l k)) ∧ (W7.cell? ⟨w.heap.size, 0, none⟩ = some (.int .i64 0) ∧ W7.cell? ⟨w.heap.size, 1, none⟩ = some (.int .i64 0) ∧ W7.cell? ⟨w.heap.size, 2, none⟩ = some (.slice none 0 0)) ∧ (W7.frozen? ⟨w.heap.size, 0, none⟩ = false ∧ W7.frozen? ⟨w.heap.size, 1, none⟩ = false ∧ W7.frozen? ⟨w.heap.size, 2, none⟩ = false)) ∧ ∃ WF, Hid (((W7.setCell ⟨w.heap.size, 0, none⟩ (.int .i64 kind)).setCell ⟨w.heap.size, 1, none⟩ (.int .i64 n)).setCell ⟨w.heap.size, 2, none⟩ (.slice o l k) = WF) ∧ (WF.cell? ⟨w.heap.size, 0, none⟩ = some (.int .i64 kind) ∧ WF.cell? ⟨w.heap.size, 1, none⟩ = some (.int .i64 n) ∧ WF.cell? ⟨w.heap.size, 2, none⟩ = some (.slice o l k)) ∧ Hid (PjE w b kind s f (.returned (.agg #[.int .i64 kind, .int .i64 n, .slice o l k])) WF)) ∨ (code = 1 ∧ ∃ W6, w6.setCell ⟨b, 1, none⟩ (.bool true) = W6 ∧ (W6.cell? ⟨w1.heap.size, 2, none⟩ = some (.slice none 0 0) ∧ W6.frozen? ⟨w1.heap.size, 2, none⟩ = false) ∧ ∃ W7, W6.setCell ⟨w1.heap.size, 2, none⟩ (.slice o l k) = W7 ∧ ((W7.cell? ⟨w1.heap.size, 0, none⟩ = some (.int .i64 kind) ∧ W7.cell? ⟨w1.heap.size, 1, none⟩ = some (.int .i64 n) ∧ W7.cell? ⟨w1.heap.size, 2, none⟩ = some (.slice o l k)) ∧ (W7.cell? ⟨w.heap.size, 0, none⟩ = some (.int .i64 0) ∧ W7.cell? ⟨w.heap.size, 1, none⟩ = some (.int .i64 0) ∧ W7.cell? ⟨w.heap.size, 2, none⟩ = some (.slice none 0 0)) ∧ (W7.frozen? ⟨w.heap.size, 0, none⟩ = false ∧ W7.frozen? ⟨w.heap.size, 1, none⟩ = false ∧ W7.frozen? ⟨w.heap.size, 2, none⟩ = false)) ∧ ∃ WF, Hid (((W7.setCell ⟨w.heap.size, 0, none⟩ (.int .i64 kind)).setCell ⟨w.heap.size, 1, none⟩ (.int .i64 n)).setCell ⟨w.heap.size, 2, none⟩ (.slice o l k) = WF) ∧ (WF.cell? ⟨w.heap.size, 0, none⟩ = some (.int .i64 kind) ∧ WF.cell? ⟨w.heap.size, 1, none⟩ = some (.int .i64 n) ∧ WF.cell? ⟨w.heap.size, 2, none⟩ = some (.slice o l k)) ∧ Hid (PjE w b kind s f (.returned (.agg #[.int .i64 kind, .int .i64 n, .slice o l k])) WF))))))))))) := by
  have b0 : Below w.heap.size w W0 := by rw [← hW0]; exact more (Below.refl _ _) _
  have x0 : W0.heap[w.heap.size]? = some (.cells #[.int .i64 0, .int .i64 0, .slice none 0 0] 24 (0, 0)) := by rw [← hW0]; exact heap_alloc_new w _
  have sz0 : W0.heap.size = w.heap.size + 1 := by rw [← hW0]; exact World.size_alloc ..
  have hbl := h.lt
  have c1 := (cut_size s).2
  have c2 := (cut_size (cutB s)).2
  have c3 := (cut_size (cutB (cutB s))).2
  have c3a := (cut_size (cutB (cutB (cutB s)))).1
  have c4 := (cut_size (cutB (cutB (cutB s)))).2
  have c5 := (cut_size (cutB (cutB (cutB (cutB s))))).2
  refine (number_any W0 b s f (h.below b0) hs (hv.below b0) hb4).mono ?_
  rintro e w1 ⟨n, f1, rfl, p1, g1, hn1⟩
  obtain ⟨W1, hW1⟩ : ∃ W1, w1.alloc (.cells #[.int .i64 kind, .int .i64 n, .slice none 0 0] 24) = W1 := ⟨_, rfl⟩
  have b1 : Below w1.heap.size w1 W1 := by rw [← hW1]; exact more (Below.refl _ _) _
  have x1 : W1.heap[w1.heap.size]? = some (.cells #[.int .i64 kind, .int .i64 n, .slice none 0 0] 24 (0, 0)) := by rw [← hW1]; exact heap_alloc_new w1 _
  have sz1 : W1.heap.size = w1.heap.size + 1 := by rw [← hW1]; exact World.size_alloc ..
  have gs1 := g1.size
  have gW1 : w.grownBy W1 (some b) := grown_tr (grown_tr (grown_of b0) g1) (grown_of b1)
  refine ⟨n, rfl, W1, hW1, ?_⟩
  refine (number_any W1 b (cutB s) f1 (p1.below b1) (by omega) (hv.grown gW1 hb4) hb4).mono ?_
  rintro e w2 ⟨c, f2, rfl, p2, g2, hn2⟩
  refine ⟨c, rfl, ?_⟩
  refine (number_any w2 b _ f2 p2 (by omega) (hv.grown (grown_tr gW1 g2) hb4) hb4).mono ?_
  rintro e w3 ⟨q, f3, rfl, p3, g3, hn3⟩
  refine ⟨q, rfl, ?_⟩
  refine (word_any w3 b _ f3 p3 (by omega) (hv.grown (grown_tr (grown_tr gW1 g2) g3) hb4)).mono ?_
  rintro e w4 ⟨rfl, p4, g4⟩
  refine ⟨_, rfl, ?_⟩
  refine (number_any w4 b _ _ p4 (by omega) (hv.grown (grown_tr (grown_tr (grown_tr gW1 g2) g3) g4) hb4) hb4).mono ?_
  rintro e w5 ⟨v, f5, rfl, p5, g5, hn5⟩
  obtain ⟨F, hF⟩ : ∃ F, cutA (cutB (cutB (cutB s))) = F := ⟨_, rfl⟩
  obtain ⟨R, hR⟩ : ∃ R, cutB (cutB (cutB (cutB (cutB s)))) = R := ⟨_, rfl⟩
  rw [hF] at hn5 p4 c3a ⊢
  rw [hR] at p5 c5
  have g15 : W1.grownBy w5 (some b) := grown_tr (grown_tr (grown_tr g2 g3) g4) g5
  have g05 : w.grownBy w5 (some b) := grown_tr gW1 g15
  have s15 := g15.size
  refine ⟨v, rfl, R, fun ob => cell_of (p5.below ((Below.refl _ _).alloc (Nat.le_refl _) _)) rfl, ?_⟩
  have body : ∀ T, T.size ≤ 2000 → tx v = T → Hid (Calls Tryd.prog 29 #[.agg #[.int .i64 c, .int .i64 q, .string F, .int .i64 v, .string R, .string T, .bool false, .bool false]] (w5.alloc (.cells #[.int .i64 c, .int .i64 q, .string F, .int .i64 v, .string R, .string T, .bool false, .bool false] 50)) fun e w6 => ∃ (o : Option Addr) (l k : Nat) (code : Int), e = .returned (.tuple #[.slice o l k, .int .i64 code]) ∧ ((w6.cell? ⟨w1.heap.size, 0, none⟩ = some (.int .i64 kind) ∧ w6.cell? ⟨w1.heap.size, 1, none⟩ = some (.int .i64 n) ∧ w6.cell? ⟨w1.heap.size, 2, none⟩ = some (.slice none 0 0) ∧ w6.frozen? ⟨w1.heap.size, 2, none⟩ = false) ∧ (w6.cell? ⟨w.heap.size, 0, none⟩ = some (.int .i64 0) ∧ w6.cell? ⟨w.heap.size, 1, none⟩ = some (.int .i64 0) ∧ w6.cell? ⟨w.heap.size, 2, none⟩ = some (.slice none 0 0)) ∧ (w6.frozen? ⟨w.heap.size, 0, none⟩ = false ∧ w6.frozen? ⟨w.heap.size, 1, none⟩ = false ∧ w6.frozen? ⟨w.heap.size, 2, none⟩ = false) ∧ (∃ f0, w6.cell? ⟨b, 1, none⟩ = some (.bool f0)) ∧ w6.frozen? ⟨b, 1, none⟩ = false) ∧ ((code = 0 ∧ ∃ W7, w6.setCell ⟨w1.heap.size, 2, none⟩ (.slice o l k) = W7 ∧ ((W7.cell? ⟨w1.heap.size, 0, none⟩ = some (.int .i64 kind) ∧ W7.cell? ⟨w1.heap.size, 1, none⟩ = some (.int .i64 n) ∧ W7.cell? ⟨w1.heap.size, 2, none⟩ = some (.slice o l k)) ∧ (W7.cell? ⟨w.heap.size, 0, none⟩ = some (.int .i64 0) ∧ W7.cell? ⟨w.heap.size, 1, none⟩ = some (.int .i64 0) ∧ W7.cell? ⟨w.heap.size, 2, none⟩ = some (.slice none 0 0)) ∧ (W7.frozen? ⟨w.heap.size, 0, none⟩ = false ∧ W7.frozen? ⟨w.heap.size, 1, none⟩ = false ∧ W7.frozen? ⟨w.heap.size, 2, none⟩ = false)) ∧ ∃ WF, Hid (((W7.setCell ⟨w.heap.size, 0, none⟩ (.int .i64 kind)).setCell ⟨w.heap.size, 1, none⟩ (.int .i64 n)).setCell ⟨w.heap.size, 2, none⟩ (.slice o l k) = WF) ∧ (WF.cell? ⟨w.heap.size, 0, none⟩ = some (.int .i64 kind) ∧ WF.cell? ⟨w.heap.size, 1, none⟩ = some (.int .i64 n) ∧ WF.cell? ⟨w.heap.size, 2, none⟩ = some (.slice o l k)) ∧ Hid (PjE w b kind s f (.returned (.agg #[.int .i64 kind, .int .i64 n, .slice o l k])) WF)) ∨ (code = 1 ∧ ∃ W6, w6.setCell ⟨b, 1, none⟩ (.bool true) = W6 ∧ (W6.cell? ⟨w1.heap.size, 2, none⟩ = some (.slice none 0 0) ∧ W6.frozen? ⟨w1.heap.size, 2, none⟩ = false) ∧ ∃ W7, W6.setCell ⟨w1.heap.size, 2, none⟩ (.slice o l k) = W7 ∧ ((W7.cell? ⟨w1.heap.size, 0, none⟩ = some (.int .i64 kind) ∧ W7.cell? ⟨w1.heap.size, 1, none⟩ = some (.int .i64 n) ∧ W7.cell? ⟨w1.heap.size, 2, none⟩ = some (.slice o l k)) ∧ (W7.cell? ⟨w.heap.size, 0, none⟩ = some (.int .i64 0) ∧ W7.cell? ⟨w.heap.size, 1, none⟩ = some (.int .i64 0) ∧ W7.cell? ⟨w.heap.size, 2, none⟩ = some (.slice none 0 0)) ∧ (W7.frozen? ⟨w.heap.size, 0, none⟩ = false ∧ W7.frozen? ⟨w.heap.size, 1, none⟩ = false ∧ W7.frozen? ⟨w.heap.size, 2, none⟩ = false)) ∧ ∃ WF, Hid (((W7.setCell ⟨w.heap.size, 0, none⟩ (.int .i64 kind)).setCell ⟨w.heap.size, 1, none⟩ (.int .i64 n)).setCell ⟨w.heap.size, 2, none⟩ (.slice o l k) = WF) ∧ (WF.cell? ⟨w.heap.size, 0, none⟩ = some (.int .i64 kind) ∧ WF.cell? ⟨w.heap.size, 1, none⟩ = some (.int .i64 n) ∧ WF.cell? ⟨w.heap.size, 2, none⟩ = some (.slice o l k)) ∧ Hid (PjE w b kind s f (.returned (.agg #[.int .i64 kind, .int .i64 n, .slice o l k])) WF)))) := fun T hT htx => by
    obtain ⟨X, hX⟩ : ∃ X, w5.alloc (.cells #[.int .i64 c, .int .i64 q, .string F, .int .i64 v, .string R, .string T, .bool false, .bool false] 50) = X := ⟨_, rfl⟩
    have bX : Below w5.heap.size w5 X := by rw [← hX]; exact more (Below.refl _ _) _
    rw [hX]
    refine (implJob X c q F v R T false false (by unfold maxLen; omega) (by unfold maxLen; omega) (by unfold maxLen; omega)).mono ?_
    rintro e w6 ⟨u, rfl, ho, b6⟩
    obtain ⟨o, k, rfl⟩ : ∃ o k, u = .slice o (jobA c q F v R T false false).length k := by
      obtain ⟨ao, cp, e, _⟩ := ho.rd
      exact ⟨ao, cp, e⟩
    obtain ⟨l, hl⟩ : ∃ l, (jobA c q F v R T false false).length = l := ⟨_, rfl⟩
    rw [hl] at ho ⊢
    have bXs := bX.size
    have b6s := b6.size
    have g06 : w.grownBy w6 (some b) := grown_tr g05 (grown_of (bX.trans (b6.mono bX.size)))
    have y1 : w6.heap[w1.heap.size]? = some (.cells #[.int .i64 kind, .int .i64 n, .slice none 0 0] 24 (0, 0)) := (b6.block _ (by omega)).trans ((bX.block _ (by omega)).trans ((g15.block _ (by omega) (by simp; have := p1.lt; omega)).trans x1))
    have y0 : w6.heap[w.heap.size]? = some (.cells #[.int .i64 0, .int .i64 0, .slice none 0 0] 24 (0, 0)) := (b6.block _ (by omega)).trans ((bX.block _ (by omega)).trans ((g15.block _ (by omega) (by simp; omega)).trans ((b1.block _ (by omega)).trans ((g1.block _ (by omega) (by simp; omega)).trans x0))))
    have p6 : Ph w6 b R f5 := (p5.below bX).below b6
    have ne10 : w1.heap.size ≠ w.heap.size := by omega
    have neb1 : b ≠ w1.heap.size := by have := p1.lt; omega
    have neb0 : b ≠ w.heap.size := by omega
    have hlo : ∀ g, (Value.slice o l k).ownBlock = some g → X.heap.size ≤ g := fun g hg => (Own.lt ho g hg).1
    -- the last stores
    have last : ∀ (Wz : World) (fz : Bool), Wz.heap[w1.heap.size]? = some (.cells #[.int .i64 kind, .int .i64 n, .slice none 0 0] 24 (0, 0)) → Wz.heap[w.heap.size]? = some (.cells #[.int .i64 0, .int .i64 0, .slice none 0 0] 24 (0, 0)) → Ph Wz b R fz → w.grownBy Wz (some b) → Own Wz X.heap.size (.slice o l k) (jobA c q F v R T false false) →
        ((∃ xs, jobP s = some (n, xs) ∧ fz = f ∧ xs = jobA c q F v R T false false) ∨ (jobP s = none ∧ fz = true)) → ∃ W7, Wz.setCell ⟨w1.heap.size, 2, none⟩ (.slice o l k) = W7 ∧ ((W7.cell? ⟨w1.heap.size, 0, none⟩ = some (.int .i64 kind) ∧ W7.cell? ⟨w1.heap.size, 1, none⟩ = some (.int .i64 n) ∧ W7.cell? ⟨w1.heap.size, 2, none⟩ = some (.slice o l k)) ∧ (W7.cell? ⟨w.heap.size, 0, none⟩ = some (.int .i64 0) ∧ W7.cell? ⟨w.heap.size, 1, none⟩ = some (.int .i64 0) ∧ W7.cell? ⟨w.heap.size, 2, none⟩ = some (.slice none 0 0)) ∧ (W7.frozen? ⟨w.heap.size, 0, none⟩ = false ∧ W7.frozen? ⟨w.heap.size, 1, none⟩ = false ∧ W7.frozen? ⟨w.heap.size, 2, none⟩ = false)) ∧ ∃ WF, Hid (((W7.setCell ⟨w.heap.size, 0, none⟩ (.int .i64 kind)).setCell ⟨w.heap.size, 1, none⟩ (.int .i64 n)).setCell ⟨w.heap.size, 2, none⟩ (.slice o l k) = WF) ∧ (WF.cell? ⟨w.heap.size, 0, none⟩ = some (.int .i64 kind) ∧ WF.cell? ⟨w.heap.size, 1, none⟩ = some (.int .i64 n) ∧ WF.cell? ⟨w.heap.size, 2, none⟩ = some (.slice o l k)) ∧ Hid (PjE w b kind s f (.returned (.agg #[.int .i64 kind, .int .i64 n, .slice o l k])) WF) := fun Wz fz z1 z0 zp zg zo hj => by
      have e1 := heap_setCell_same Wz w1.heap.size 2 _ 24 (.slice o l k) z1
      have z0' : (Wz.setCell ⟨w1.heap.size, 2, none⟩ (.slice o l k)).heap[w.heap.size]? = some (.cells #[.int .i64 0, .int .i64 0, .slice none 0 0] 24 (0, 0)) := (Below.heap_setCell _ _ _ _ ne10.symm).trans z0
      obtain ⟨q1, q2⟩ := st3 z0' (.int .i64 kind) (.int .i64 n) (.slice o l k)
      have keep : ∀ x, x ≠ w1.heap.size → x ≠ w.heap.size → ((((Wz.setCell ⟨w1.heap.size, 2, none⟩ (.slice o l k)).setCell ⟨w.heap.size, 0, none⟩ (.int .i64 kind)).setCell ⟨w.heap.size, 1, none⟩ (.int .i64 n)).setCell ⟨w.heap.size, 2, none⟩ (.slice o l k)).heap[x]? = Wz.heap[x]? := fun x h1 h2 => (q2 x h2).trans (Below.heap_setCell _ _ _ _ h1)
      have e1' : (Wz.setCell ⟨w1.heap.size, 2, none⟩ (.slice o l k)).heap[w1.heap.size]? = some (.cells #[.int .i64 kind, .int .i64 n, .slice o l k] 24 (0, 0)) := by simpa using e1
      refine ⟨_, rfl, ⟨⟨cell_of e1' rfl, cell_of e1' rfl, cell_of e1' rfl⟩, ⟨cell_of z0' rfl, cell_of z0' rfl, cell_of z0' rfl⟩, ⟨frozen_of z0' 0, frozen_of z0' 1, frozen_of z0' 2⟩⟩, _, rfl, ⟨cell_of q1 rfl, cell_of q1 rfl, cell_of q1 rfl⟩, n, o, l, k, fz, rfl, by rw [hR]; exact (keep b neb1 neb0).trans zp, ⟨zg.os, zg.tape, zg.output, by simpa using zg.size, fun x hx hn => (keep x (by have := g1.size; omega) (by omega)).trans (zg.block x hx hn)⟩, ?_⟩
      rcases hj with ⟨xs, j1, j2, rfl⟩ | hj
      · refine .inl ⟨_, j1, j2, (own_keep zo (fun g hg => keep g ?_ ?_)).mono (by have := gW1.size; omega)⟩
        · have := hlo g hg; omega
        · have := hlo g hg; omega
      · exact .inr hj
    have hjp : jobP s = (numS (cutA s).data.toList).bind fun n => (numS (cutA (cutB s)).data.toList).bind fun c => (numS (cutA (cutB (cutB s))).data.toList).bind fun q => if F = emp then none else (numS (cutA (cutB (cutB (cutB (cutB s))))).data.toList).bind fun v => if jobB c q F.size v R.size (tx v).size = true then some (n, jobN c q F v R (tx v) false false) else none := by
      unfold jobP
      rw [hF, hR]
    refine ⟨o, l, k, _, rfl, ⟨⟨cell_of y1 rfl, cell_of y1 rfl, cell_of y1 rfl, frozen_of y1 2⟩, ⟨cell_of y0 rfl, cell_of y0 rfl, cell_of y0 rfl⟩, ⟨frozen_of y0 0, frozen_of y0 1, frozen_of y0 2⟩, ⟨_, cell_of p6 rfl⟩, frozen_of p6 1⟩, ?_⟩
    cases hjb : jobB c q F.size v R.size T.size with
    | true =>
      obtain ⟨j1, j2⟩ := jobA_yes (e := false) (q := false) hjb
      refine .inl ⟨by rw [j2], last w6 f5 y1 y0 p6 g06 ho ?_⟩
      rw [hjp]
      rcases hn1 with ⟨m1, rfl⟩ | ⟨m1, rfl⟩
      · rcases hn2 with ⟨m2, rfl⟩ | ⟨m2, rfl⟩
        · rcases hn3 with ⟨m3, rfl⟩ | ⟨m3, rfl⟩
          · by_cases hFe : F = emp
            · right
              rw [m1, m2, m3]
              simp only [Option.bind_some, hFe, if_true, true_and]
              rcases hn5 with ⟨_, rfl⟩ | ⟨_, rfl⟩ <;> simp [hFe]
            · rcases hn5 with ⟨m5, rfl⟩ | ⟨m5, rfl⟩
              · left
                rw [m1, m2, m3, m5]
                simp only [Option.bind_some, hFe, if_false]
                rw [htx, if_pos hjb]
                exact ⟨_, rfl, by simp, j1.symm⟩
              · right
                rw [m1, m2, m3, m5]
                simp [hFe]
          · right
            rw [m1, m2, m3]
            rcases hn5 with ⟨_, rfl⟩ | ⟨_, rfl⟩ <;> simp
        · right
          rw [m1, m2]
          rcases hn3 with ⟨_, rfl⟩ | ⟨_, rfl⟩ <;> rcases hn5 with ⟨_, rfl⟩ | ⟨_, rfl⟩ <;> simp
      · right
        rw [m1]
        rcases hn2 with ⟨_, rfl⟩ | ⟨_, rfl⟩ <;> rcases hn3 with ⟨_, rfl⟩ | ⟨_, rfl⟩ <;> rcases hn5 with ⟨_, rfl⟩ | ⟨_, rfl⟩ <;> simp
    | false =>
      obtain ⟨j1, j2⟩ := jobA_no (e := false) (q := false) hjb
      have y1' := (Below.heap_setCell w6 ⟨b, 1, none⟩ (.bool true) _ neb1.symm).trans y1
      refine .inr ⟨by rw [j2], _, rfl, ⟨cell_of y1' rfl, frozen_of y1' 2⟩, last _ true ((Below.heap_setCell _ _ _ _ neb1.symm).trans y1) ((Below.heap_setCell _ _ _ _ neb0.symm).trans y0) (set1 p6 true) (grown_set g06 1 _) (own_keep ho (fun g hg => Below.heap_setCell _ _ _ _ (by have := hlo g hg; have := p5.lt; show g ≠ b; omega))) (.inr ⟨?_, rfl⟩)⟩
      rw [hjp]
      rcases hn1 with ⟨m1, rfl⟩ | ⟨m1, rfl⟩
      · rcases hn2 with ⟨m2, rfl⟩ | ⟨m2, rfl⟩
        · rcases hn3 with ⟨m3, rfl⟩ | ⟨m3, rfl⟩
          · rcases hn5 with ⟨m5, rfl⟩ | ⟨m5, rfl⟩
            · rw [m1, m2, m3, m5]
              simp only [Option.bind_some]
              rw [htx, hjb]
              simp
            · rw [m1, m2, m3, m5]
              simp
          · rw [m1, m2, m3]; rfl
        · rw [m1, m2]; rfl
      · rw [m1]; rfl
  by_cases hv0 : v = 0
  · exact .inl ⟨hv0, body txt (by decide) (by unfold tx; rw [if_pos hv0])⟩
  · exact .inr ⟨hv0, body emp (by decide) (by unfold tx; rw [if_neg hv0])⟩
set_option maxRecDepth 10000 in
set_option maxHeartbeats 4000000 in
theorem pevent_any (w : World) (b : Nat) (kind : Int) (s : ByteArray) (f : Bool) (h : Ph w b s f) (hs : s.size < 4294967281) (hv : Vr w) (hb4 : 4 ≤ b) :
    Calls Tryd.prog 21 #[.int .i64 kind, .pointer (some ⟨b, 0, none⟩)] w fun e w' => PjE w b kind s f e w' := by
  obtain ⟨W0, hW0⟩ : ∃ W0, w.alloc (.cells #[.int .i64 0, .int .i64 0, .slice none 0 0] 24) = W0 := ⟨_, rfl⟩
  have HN := chain w b kind s f h hs hv hb4 W0 hW0
  clear h hs hv
  go_enter Tryd.func21, Tryd.ntmps21
  go_wp2_with fail
  (try rw [hW0])
  refine HN.out.mono ?_
  rintro e w1 ⟨n, rfl, W1, hW1, H1⟩
  clear HN hW0
  go_wp2_with fail
  rw [hW1.out]
  refine H1.out.mono ?_
  rintro e w2 ⟨c, rfl, H2⟩
  clear H1 hW1
  go_wp2_with fail
  refine H2.out.mono ?_
  rintro e w3 ⟨q, rfl, H3⟩
  clear H2
  go_wp2_with fail
  refine H3.out.mono ?_
  rintro e w4 ⟨F, rfl, H4⟩
  clear H3
  go_wp2_with fail
  refine H4.out.mono ?_
  rintro e w5 ⟨v, rfl, R, hc0, H5⟩
  clear H4
  rcases H5 with ⟨rfl, H5⟩ | ⟨hv0, H5⟩
  · go_wp2_with fail
    refine H5.out.mono ?_
    rintro e w6 ⟨o, l, k, code, rfl, ⟨⟨e0, e1, e2, e3⟩, ⟨d0, d1, d2⟩, ⟨f0, f1, f2⟩, ⟨f9, c9⟩, g9⟩, hcode⟩
    clear H5 hc0
    rcases hcode with ⟨rfl, W7, hW7, ⟨⟨i0, i1, i2⟩, ⟨j0, j1, j2⟩, ⟨l0, l1, l2⟩⟩, WF, hWF, ⟨k0, k1, k2⟩, HF⟩ | ⟨rfl, W6, hW6, ⟨h6, h7⟩, W7, hW7, ⟨⟨i0, i1, i2⟩, ⟨j0, j1, j2⟩, ⟨l0, l1, l2⟩⟩, WF, hWF, ⟨k0, k1, k2⟩, HF⟩
    · go_wp2
      rw [hWF.out]
      refine bodyPost_ret (v := .agg #[.int .i64 kind, .int .i64 n, .slice o l k]) ?_ rfl HF.out
      simp [results, Tryd.results21, go_sem, k0, k1, k2]
    · go_wp2
      rw [hWF.out]
      refine bodyPost_ret (v := .agg #[.int .i64 kind, .int .i64 n, .slice o l k]) ?_ rfl HF.out
      simp [results, Tryd.results21, go_sem, k0, k1, k2]
  · have hv1 : (v == 0) = false := by simpa using hv0
    go_wp2_with fail
    refine H5.out.mono ?_
    rintro e w6 ⟨o, l, k, code, rfl, ⟨⟨e0, e1, e2, e3⟩, ⟨d0, d1, d2⟩, ⟨f0, f1, f2⟩, ⟨f9, c9⟩, g9⟩, hcode⟩
    clear H5 hc0
    rcases hcode with ⟨rfl, W7, hW7, ⟨⟨i0, i1, i2⟩, ⟨j0, j1, j2⟩, ⟨l0, l1, l2⟩⟩, WF, hWF, ⟨k0, k1, k2⟩, HF⟩ | ⟨rfl, W6, hW6, ⟨h6, h7⟩, W7, hW7, ⟨⟨i0, i1, i2⟩, ⟨j0, j1, j2⟩, ⟨l0, l1, l2⟩⟩, WF, hWF, ⟨k0, k1, k2⟩, HF⟩
    · go_wp2
      rw [hWF.out]
      refine bodyPost_ret (v := .agg #[.int .i64 kind, .int .i64 n, .slice o l k]) ?_ rfl HF.out
      simp [results, Tryd.results21, go_sem, k0, k1, k2]
    · go_wp2
      rw [hWF.out]
      refine bodyPost_ret (v := .agg #[.int .i64 kind, .int .i64 n, .slice o l k]) ?_ rfl HF.out
      simp [results, Tryd.results21, go_sem, k0, k1, k2]
end Go.Proofs.YtolmngfjdcoapaaDoor.phr

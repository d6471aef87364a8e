/- A disk that can be read stays so where no block of bytes, and none of rows of bytes, is touched. -/
import Derived.Test.YtipcdioolafkpaaSpecAct
namespace Go.Proofs.Ytipcdioolafkpaa.keeps
open Go.ChangeShapes Go.WideShapes Go.ChangeAt Go.RowKit
open Go.Proofs.Ytipcdioolafkpaa.bytes Go.Proofs.Ytipcdioolafkpaa.pile Go.Proofs.Ytipcdioolafkpaa.reader Go.Proofs.Ytipcdioolafkpaa.lists Go.Proofs.Ytipcdioolafkpaa.sizes Go.Proofs.Ytipcdioolafkpaa.marked Go.Proofs.Ytipcdioolafkpaa.disks Go.Proofs.Ytipcdioolafkpaa.diskmarks Go.Proofs.Ytipcdioolafkpaa.specdisk Go.Proofs.Ytipcdioolafkpaa.tracks Go.Proofs.Ytipcdioolafkpaa.trackof Go.Proofs.Ytipcdioolafkpaa.crashes Go.Proofs.Ytipcdioolafkpaa.crashed Go.Proofs.Ytipcdioolafkpaa.acts Go.Proofs.Ytipcdioolafkpaa.diskof Go.Proofs.Ytipcdioolafkpaa.beside Go.Proofs.Ytipcdioolafkpaa.doside Go.Proofs.Ytipcdioolafkpaa.implrun Go.Proofs.Ytipcdioolafkpaa.speccrash Go.Proofs.Ytipcdioolafkpaa.specact
set_option linter.unusedVariables false

def KeepT (w w' : World) : Prop := ∀ (b : Nat) (cur : Array Value) (t : Nat) (fr : Nat × Nat), w.heap[b]? = some (Obj.cells cur t fr) → t = 5 ∨ t = 22 → w'.heap[b]? = w.heap[b]?
theorem KeepT.refl (w : World) : KeepT w w := fun _ _ _ _ _ _ => rfl
theorem KeepT.trans {a b c : World} (h : KeepT a b) (k : KeepT b c) : KeepT a c := fun i cur t fr hi ht => (k i cur t fr ((h i cur t fr hi ht).trans hi) ht).trans (h i cur t fr hi ht)
theorem KeepT.set {w : World} {b t : Nat} {cur : Array Value} (k : w.heap[b]? = some (.cells cur t (0, 0))) (h5 : t ≠ 5) (h22 : t ≠ 22) (i : Nat) (v : Value) : KeepT w (w.setCell ⟨b, i, none⟩ v) := fun b' cur' t' fr hb ht => by
  have hne : b' ≠ b := by
    intro e
    subst e
    rw [k] at hb
    simp only [Option.some.injEq, Obj.cells.injEq] at hb
    obtain ⟨_, rfl, _⟩ := hb
    rcases ht with e | e
    · exact h5 e
    · exact h22 e
  exact heap_setCell_other w ⟨b, i, none⟩ b' v hne
theorem KeepT.below {w w' : World} (h : Below w.heap.size w w') : KeepT w w' := fun b cur t fr hb _ => h.block b (Array.getElem?_eq_some_iff.1 hb).1
theorem KeepT.grown {w w' : World} {base n : Nat} {v : Value} {us : List Value} (h : w.grownBy w' v.ownBlock) (ho : w.ownsRow base 3 1 v n us) : KeepT w w' := fun b cur t fr hb ht => by
  refine h.block b (Array.getElem?_eq_some_iff.1 hb).1 fun e => ?_
  obtain ⟨c, hc⟩ := own_typed ho e.symm
  rw [hc] at hb
  simp only [Option.some.injEq, Obj.cells.injEq] at hb
  obtain ⟨_, rfl, _⟩ := hb
  rcases ht with e | e <;> exact absurd e (by decide)

theorem rdA_keep {w w' : World} {v : Value} {xs : List Int} (h : RdA w v xs) (ty : xs ≠ [] → Ty w v) (hk : KeepT w w') : RdA w' v xs := by
  obtain ⟨⟨ao, cap, rfl, h1, h2, h3, h4⟩, hn⟩ := h
  refine ⟨⟨ao, cap, rfl, h1, h2, h3, fun hp => ?_⟩, hn⟩
  obtain ⟨b, off, rfl, hc⟩ := h4 hp
  obtain ⟨o, n, c, cur, fr, e, hb⟩ := ty (by intro e; subst e; simp at hp)
  simp only [Value.slice.injEq, Option.some.injEq] at e
  obtain ⟨rfl, _⟩ := e
  exact ⟨b, off, rfl, fun i hi => (World.cell?_of_block (a := ⟨b, off + i, none⟩) (hk b cur 5 fr hb (.inl rfl))).trans (hc i hi)⟩
theorem ty_keep {w w' : World} {v : Value} (h : Ty w v) (hk : KeepT w w') : Ty w' v := by
  obtain ⟨o, n, c, cur, fr, e, hb⟩ := h
  exact ⟨o, n, c, cur, fr, e, (hk _ cur 5 fr hb (.inl rfl)).trans hb⟩
theorem DiskRd.keep {w w' : World} {s p : Value} {xs : List Int} {us : List Value} {cs : List (List Int)} (h : DiskRd w s p xs us cs) (hk : KeepT w w') : DiskRd w' s p xs us cs := by
  refine ⟨rdA_keep h.synced h.sty hk, ?_, ⟨h.texts.1, fun i hi => rdA_keep (h.texts.2 i hi) (h.wty i hi) hk⟩, h.nil, fun o n c e hp => ?_, fun hx => ty_keep (h.sty hx) hk, fun i hi hc => ty_keep (h.wty i hi hc) hk⟩
  · have ht := h.typed
    obtain ⟨ao, cap, rfl, h1, h2, h4⟩ := h.writes
    refine ⟨ao, cap, rfl, h1, h2, fun hp => ?_⟩
    obtain ⟨b, off, rfl, hc⟩ := h4 hp
    obtain ⟨cur, fr, hb⟩ := ht _ _ _ rfl hp
    exact ⟨b, off, rfl, fun i hi => (World.cell?_of_block (a := ⟨b, off + i, none⟩) (hk b cur 22 fr hb (.inr rfl))).trans (hc i hi)⟩
  · obtain ⟨cur, fr, hb⟩ := h.typed o n c e hp
    exact ⟨cur, fr, (hk _ cur 22 fr hb (.inr rfl)).trans hb⟩
end Go.Proofs.Ytipcdioolafkpaa.keeps

/- Steps within regions: append of readable bytes. -/
import Derived.Test.YtipcdioolafkpaaPays
import Derived.Deep.AppendLies
namespace Go.Proofs.Ytipcdioolafkpaa.steps
open Go.ChangeShapes Go.WideShapes Go.ChangeAt Go.RowKit
open Go.Proofs.Ytipcdioolafkpaa.bytes Go.Proofs.Ytipcdioolafkpaa.pile Go.Proofs.Ytipcdioolafkpaa.put Go.Proofs.Ytipcdioolafkpaa.crcs Go.Proofs.Ytipcdioolafkpaa.join Go.Proofs.Ytipcdioolafkpaa.frames Go.Proofs.Ytipcdioolafkpaa.votes Go.Proofs.Ytipcdioolafkpaa.pays
set_option linter.unusedVariables false

/-- 'append(out, ys...)' within a region that draws its order. -/
theorem step_append_rd {P : Program} (w : World) {ops : Array Oper} {o : Oper} {a : Act} {K : Act → World → Prop} {Q : Exit → Act → World → Prop} {E : Prop} (hgd : o.guard = none) (s x : Operand) (t : TypeId)
    (ho : o.op = .call { callee := .builtin .append, args := #[s, x], argTypes := #[t, t] }) (ht : P.underlying t = some (.slice 5))
    (hi : (P.info? 5).map (fun i => (i.zero, i.size, i.bytes)) = some (some (.int .u8 0), 1, 1))
    (base : Nat) (v : Value) (xs : List Int) (hs : a.eval s = v) (hown : Own w base v xs) (u : Value) (ys : List Int) (hx : a.eval x = u) (hr : RdA w u ys)
    (hlen : xs.length + ys.length ≤ 140737488355328) (hbase : base ≤ w.heap.size)
    (h : ∀ v' w', Own w' base v' (xs ++ ys) → w.grownBy w' v.ownBlock → K (a.put o.dst v') w') :
    if Region.wanted o (yielded ops a.tmps) = true then Oper.wp P o a w K Q else E := by
  have hw : Region.wanted o (yielded ops a.tmps) = true := by simp [Region.wanted, hgd]
  rw [if_pos hw]
  obtain ⟨i0, hi1, hz0, hz1, hz2⟩ := info_parts hi
  obtain ⟨⟨ao, cap, rfl, h1, h2, h3, h4⟩, hnil⟩ := hr
  have hall : ∀ y ∈ xs ++ ys, 0 ≤ y ∧ y ≤ 255 := by
    intro y hy
    rcases List.mem_append.1 hy with hy | hy
    · exact hown.1 y hy
    · exact h3 y hy
  cases ao with
  | none =>
    have e := hnil _ _ rfl
    simp only [Value.slice.injEq, true_and] at e
    have hys : ys = [] := List.length_eq_zero_iff.1 e.1
    subst hys
    obtain rfl : cap = 0 := e.2
    have hrun := run_append_owned_none (P := P) (w := w) base t o.type 5 i0 1 ht hi1 v xs.length _ hown.2
    have hK := h v w (by simpa using hown) (World.grownBy.refl _ _)
    unfold Oper.wp
    simp only [List.length_nil] at hx
    simp [execOp, ho, resolve, invoke, builtin, hs, hx, hrun, Result.andThen]
    exact hK
  | some ad =>
    refine wp_append_own w s x t ho base 5 i0 (.int .u8 0) 1 1 ht hi1 hz0 hz1 hz2 rfl (by decide) v xs.length _ hs hown.2 ad ys.length cap (ys.map (Value.int .u8)) hx (by simp) ?_ ?_ (by unfold maxLen; omega) (by omega) hbase ?_
    · intro j y hy
      simp only [List.getElem?_map, Option.map_eq_some_iff] at hy
      obtain ⟨z, hz, rfl⟩ := hy
      have hj : j < ys.length := (List.getElem?_eq_some_iff.1 hz).1
      obtain ⟨b, off, e, hc⟩ := h4 (by omega)
      simp only [Option.some.injEq] at e
      subst e
      rw [add_at, hc j hj]
      simp [List.getD_eq_getElem?_getD, hz]
    · intro y hy
      obtain ⟨z, _, rfl⟩ := List.mem_map.1 hy
      rfl
    · intro v' w' hown' hgrow _
      refine h v' w' ⟨hall, ?_⟩ hgrow
      rw [List.length_append, List.map_append]
      exact hown'

theorem lit_at {w : World} {k base : Nat} {x : Int} (h : w.heap[k]? = some (.cells #[.int .u8 x] 5 (0, 0))) (hb : base ≤ k) (hx : 0 ≤ x ∧ x ≤ 255) : Own w base (.slice (some ⟨k, 0, none⟩) 1 1) [x] :=
  ⟨by simpa using hx, rfl, .inr ⟨k, 1, #[.int .u8 x], rfl, hb, h, Nat.le_refl _, by simp [maxLen], by simp, by simp⟩⟩
end Go.Proofs.Ytipcdioolafkpaa.steps

/- Contracts of the program's writer of values: numbers, texts. -/
import Derived.Test.YtolmngfjdcoapaaDoorJHelp
import Derived.Deep.AppendLies
import Derived.Deep.RegionHeldLaw
namespace Go.Proofs.YtolmngfjdcoapaaDoor.wr
open Go.ChangeShapes Go.WideShapes Go.ChangeAt Go.RowKit
open Go.Proofs.YtolmngfjdcoapaaDoor.bytes Go.Proofs.YtolmngfjdcoapaaDoor.pile Go.Proofs.YtolmngfjdcoapaaDoor.put Go.Proofs.YtolmngfjdcoapaaDoor.jhelp
set_option linter.unusedVariables false

/-- 'append(out, ys...)' within a region that draws its order. -/
theorem step_append_rd {P : Program} (w : World) {ops : Array Oper} {o : Oper} {a : Act} {K : Act → World → Prop} {Q : Exit → Act → World → Prop} {E : Prop} (hgd : o.guard = none) (s x : Operand) (t : TypeId)
    (ho : o.op = .call { callee := .builtin .append, args := #[s, x], argTypes := #[t, t] }) (ht : P.underlying t = some (.slice 5))
    (hi : (P.info? 5).map (fun i => (i.zero, i.size, i.bytes)) = some (some (.int .u8 0), 1, 1))
    (base : Nat) (v : Value) (xs : List Int) (hs : a.eval s = v) (hown : Own w base v xs) (u : Value) (ys : List Int) (hx : a.eval x = u) (hr : RdA w u ys)
    (hlen : xs.length + ys.length ≤ 140737488355328) (hbase : base ≤ w.heap.size)
    (h : ∀ v' w', Own w' base v' (xs ++ ys) → w.grownBy w' v.ownBlock → K (a.put o.dst v') w') :
    if Region.wanted o (yielded ops a.tmps) = true then Oper.wp P o a w K Q else E := by
  have hw : Region.wanted o (yielded ops a.tmps) = true := by simp [Region.wanted, hgd]
  rw [if_pos hw]
  obtain ⟨i0, hi1, hz0, hz1, hz2⟩ := info_parts hi
  obtain ⟨⟨ao, cap, rfl, h1, h2, h3, h4⟩, hnil⟩ := hr
  have hall : ∀ y ∈ xs ++ ys, 0 ≤ y ∧ y ≤ 255 := by
    intro y hy
    rcases List.mem_append.1 hy with hy | hy
    · exact hown.1 y hy
    · exact h3 y hy
  cases ao with
  | none =>
    have e := hnil _ _ rfl
    simp only [Value.slice.injEq, true_and] at e
    have hys : ys = [] := List.length_eq_zero_iff.1 e.1
    subst hys
    obtain rfl : cap = 0 := e.2
    have hrun := run_append_owned_none (P := P) (w := w) base t o.type 5 i0 1 ht hi1 v xs.length _ hown.2
    have hK := h v w (by simpa using hown) (World.grownBy.refl _ _)
    unfold Oper.wp
    simp only [List.length_nil] at hx
    simp [execOp, ho, resolve, invoke, builtin, hs, hx, hrun, Result.andThen]
    exact hK
  | some ad =>
    refine wp_append_own w s x t ho base 5 i0 (.int .u8 0) 1 1 ht hi1 hz0 hz1 hz2 rfl (by decide) v xs.length _ hs hown.2 ad ys.length cap (ys.map (Value.int .u8)) hx (by simp) ?_ ?_ (by unfold maxLen; omega) (by omega) hbase ?_
    · intro j y hy
      simp only [List.getElem?_map, Option.map_eq_some_iff] at hy
      obtain ⟨z, hz, rfl⟩ := hy
      have hj : j < ys.length := (List.getElem?_eq_some_iff.1 hz).1
      obtain ⟨b, off, e, hc⟩ := h4 (by omega)
      simp only [Option.some.injEq] at e
      subst e
      rw [add_at, hc j hj]
      simp [List.getD_eq_getElem?_getD, hz]
    · intro y hy
      obtain ⟨z, _, rfl⟩ := List.mem_map.1 hy
      rfl
    · intro v' w' hown' hgrow _
      refine h v' w' ⟨hall, ?_⟩ hgrow
      rw [List.length_append, List.map_append]
      exact hown'

/-- What a writer leaves alone: the cells of all other types. -/
def Kp (w w' : World) : Prop := w.heap.size ≤ w'.heap.size ∧ ∀ (b : Nat) (cur : Array Value) (t : TypeId) (fr : Nat × Nat), w.heap[b]? = some (Obj.cells cur t fr) → t ≠ 5 → t ≠ 70 → w'.heap[b]? = some (Obj.cells cur t fr)
theorem Kp.refl (w : World) : Kp w w := ⟨Nat.le_refl _, fun _ _ _ _ h _ _ => h⟩
theorem Kp.trans {a b c : World} (h : Kp a b) (k : Kp b c) : Kp a c := ⟨Nat.le_trans h.1 k.1, fun x cur t fr hx h1 h2 => k.2 x cur t fr (h.2 x cur t fr hx h1 h2) h1 h2⟩
theorem Kp.below {w w' : World} (h : Below w.heap.size w w') : Kp w w' := ⟨h.size, fun b cur t fr hb _ _ => kept h hb (Nat.le_refl _)⟩
theorem own_block {w : World} {base : Nat} {v : Value} {xs : List Int} (h : Own w base v xs) {g : Nat} (hg : v.ownBlock = some g) : ∃ cur, w.heap[g]? = some (.cells cur 5 (0, 0)) := by
  obtain ⟨_, _, ⟨rfl, _⟩ | ⟨g', cap, cur, rfl, _, hh, _⟩⟩ := h
  · simp [Value.ownBlock] at hg
  · simp only [Value.ownBlock, Option.some.injEq] at hg
    subst hg
    exact ⟨cur, hh⟩
theorem own_not {w : World} {base : Nat} {v : Value} {xs : List Int} (h : Own w base v xs) {d : Nat} {cur : Array Value} {t : Nat} {fr : Nat × Nat} (hd : w.heap[d]? = some (.cells cur t fr)) (ht : t ≠ 5) : v.ownBlock ≠ some d := by
  intro hg
  obtain ⟨c, hc⟩ := own_block h hg
  rw [hd] at hc
  simp only [Option.some.injEq, Obj.cells.injEq] at hc
  exact ht hc.2.1
theorem Kp.grown {w w' : World} {base : Nat} {v : Value} {xs : List Int} (h : Own w base v xs) (hg : w.grownBy w' v.ownBlock) : Kp w w' :=
  ⟨hg.size, fun b cur t fr hb h5 _ => (hg.block b (Array.getElem?_eq_some_iff.1 hb).1 (Ne.symm (own_not h hb h5))).trans hb⟩

theorem set_block {w : World} {d : Nat} {x v : Value} {t : Nat} (h : w.heap[d]? = some (.cells #[x] t (0, 0))) : (w.setCell ⟨d, 0, none⟩ v).heap[d]? = some (.cells #[v] t (0, 0)) := by
  have hd := (Array.getElem?_eq_some_iff.1 h).1
  simp [World.setCell, Array.getElem?_modify, h]
theorem set_other {w : World} {d b : Nat} {v : Value} (h : b ≠ d) : (w.setCell ⟨d, 0, none⟩ v).heap[b]? = w.heap[b]? := by
  have h' : ¬ d = b := fun e => h e.symm
  simp [World.setCell, Array.getElem?_modify, h']
theorem Kp.set {w : World} {d : Nat} {x v : Value} (h : w.heap[d]? = some (.cells #[x] 70 (0, 0))) : Kp w (w.setCell ⟨d, 0, none⟩ v) := by
  refine ⟨by simp, fun b cur t fr hb _ h41 => ?_⟩
  by_cases e : b = d
  · subst e
    rw [h] at hb
    simp only [Option.some.injEq, Obj.cells.injEq] at hb
    exact absurd hb.2.1.symm h41
  · rw [set_other e]; exact hb

/-- The writer at block d holds the bytes xs, in a row from base on. -/
def Wrt (w : World) (base d : Nat) (xs : List Int) : Prop := ∃ o n c, w.heap[d]? = some (.cells #[.slice o n c] 70 (0, 0)) ∧ Own w base (.slice o n c) xs

theorem Wrt.below {w w' : World} {base d : Nat} {xs : List Int} (h : Wrt w base d xs) (hb : Below w.heap.size w w') : Wrt w' base d xs := by
  obtain ⟨o, n, c, h1, h2⟩ := h
  exact ⟨o, n, c, kept hb h1 (Nat.le_refl _), h2.below hb (Nat.le_refl _)⟩

theorem own_set {w : World} {base : Nat} {v : Value} {xs : List Int} (h : Own w base v xs) {a : Addr} (ha : v.ownBlock ≠ some a.block) (u : Value) : Own (w.setCell a u) base v xs :=
  ⟨h.1, ownsRow_setCell_other h.2 ha u⟩

/-- What is put behind, and stored. -/
theorem wrt_put {w1 w2 : World} {base d : Nat} {o : Option Addr} {n c : Nat} {o2 : Option Addr} {n2 c2 : Nat} {xs ys : List Int} (h1 : w1.heap[d]? = some (.cells #[.slice o n c] 70 (0, 0))) (O1 : Own w1 base (.slice o n c) xs)
    (O2 : Own w2 base (.slice o2 n2 c2) ys) (G2 : w1.grownBy w2 (Value.slice o n c).ownBlock) (hbd : base ≤ d) :
    Wrt (w2.setCell ⟨d, 0, none⟩ (.slice o2 n2 c2)) base d ys ∧ Below base w1 (w2.setCell ⟨d, 0, none⟩ (.slice o2 n2 c2)) ∧ Kp w1 (w2.setCell ⟨d, 0, none⟩ (.slice o2 n2 c2)) ∧ w2.cell? ⟨d, 0, none⟩ = some (.slice o n c) ∧ w2.frozen? ⟨d, 0, none⟩ = false := by
  have hd2 : w2.heap[d]? = some (.cells #[.slice o n c] 70 (0, 0)) := (G2.block d (Array.getElem?_eq_some_iff.1 h1).1 (Ne.symm (own_not O1 h1 (by decide)))).trans h1
  refine ⟨⟨o2, n2, c2, set_block hd2, own_set O2 (own_not O2 hd2 (by decide)) _⟩, ?_, (Kp.grown O1 G2).trans (Kp.set hd2), cell_of hd2 rfl, frozen_of hd2 0⟩
  have hbs : base ≤ w1.heap.size := by have := (Array.getElem?_eq_some_iff.1 h1).1; omega
  exact ((Below.refl base w1).grown G2 hbs (fun k hk => (O1.lt k hk).1)).setCell hbd _

set_option maxRecDepth 20000 in
set_option maxHeartbeats 1600000 in
theorem numbers_any (w : World) (base d B : Nat) (ns : List Nat) (xs : List Int) (hW : Wrt w base d xs) (hbd : base ≤ d) (hB : w.heap[B]? = some (.cells (ns.map (fun (n : Nat) => Value.int .i64 (n : Int))).toArray 3 (0, 0)))
    (hns : ∀ n ∈ ns, n ≤ 1048576) (hnl : ns.length ≤ 2) (hxl : xs.length ≤ 1000000) :
    Calls Tryd.prog 41 #[.pointer (some ⟨d, 0, none⟩), .slice (some ⟨B, 0, none⟩) ns.length ns.length] w fun r w' => r = .returned (.tuple #[]) ∧ Wrt w' base d (xs ++ ns.flatMap putN) ∧ Below base w w' ∧ Kp w w' := by
  have HB : Hid (w.heap[B]? = some (.cells (ns.map (fun (n : Nat) => Value.int .i64 (n : Int))).toArray 3 (0, 0))) := hB
  have HNS : Hid (∀ n ∈ ns, n ≤ 1048576) := hns
  clear hB hns
  go_enter Tryd.func41, Tryd.ntmps41
  go_wp2
  go_loopw [8] (fun i wr => ∃ k : Nat, k ≤ ns.length ∧ i = .int .i64 k ∧ Hid (Wrt wr base d (xs ++ (ns.take k).flatMap putN) ∧ Below base w wr ∧ Kp w wr ∧ ((ns.take k).flatMap putN).length ≤ 10 * k)) (fun i _ => ns.length - (intOf i).toNat)
  case atStart => exact ⟨0, by omega, rfl, hide ⟨by simpa using hW, Below.refl _ _, Kp.refl _, by simp⟩⟩
  case round =>
    obtain ⟨k, hk, rfl, HR⟩ := hrel
    by_cases hlt : k < ns.length
    · obtain ⟨x, hx⟩ : ∃ x, x = ns[k] := ⟨_, rfl⟩
      have HX : Hid (ns.take (k + 1) = ns.take k ++ [x]) := by rw [hx]; exact List.take_succ_eq_append_getElem hlt
      have hxb : x ≤ 1048576 := by rw [hx]; exact HNS.out _ (List.getElem_mem hlt)
      have hcell : wr.cell? ⟨B, k, none⟩ = some (.int .i64 x) := cell_of (HR.out.2.2.1.2 B _ 3 _ HB.out (by decide) (by decide)) (by rw [hx]; simp [hlt])
      clear hx
      obtain ⟨o, n, c, hd, HO⟩ := HR.out.1
      have HO' : Hid (wr.heap[d]? = some (.cells #[.slice o n c] 70 (0, 0)) ∧ Own wr base (.slice o n c) (xs ++ (ns.take k).flatMap putN)) := ⟨hd, HO⟩
      have c0 : wr.cell? ⟨d, 0, none⟩ = some (.slice o n c) := cell_of hd rfl
      have hds : d < wr.heap.size := (Array.getElem?_eq_some_iff.1 hd).1
      have hpl : (putN x).length ≤ 10 := putN_len 9 x (by omega)
      have HPL : Hid ((putN x).length ≤ 10) := hpl
      have HN : Hid (∀ wx, Below wr.heap.size wr wx → Calls Tryd.prog 54 #[.int .i64 x] wx fun r w' => ∃ o1 n1 c1, r = .returned (.slice o1 n1 c1) ∧ Hid (RdA w' (.slice o1 n1 c1) (putN x)) ∧ Hid (Below wr.heap.size wr w') ∧ w'.cell? ⟨d, 0, none⟩ = some (.slice o n c) ∧ base ≤ w'.heap.size) := fun wx hb => by
        refine (numberBytes_own x wx (by unfold maxLen; omega)).mono ?_
        rintro r w' ⟨v, rfl, H1, hB1⟩
        obtain ⟨o1, c1, e1, _⟩ := H1.rd
        subst e1
        have hb' := hb.trans (hB1.mono hb.size)
        exact ⟨o1, _, c1, rfl, Own.rdA H1, hb', cell_at hb' c0 (Nat.le_refl _), by have := hb'.size; omega⟩
      clear hd HO hpl
      generalize hxs : xs ++ (ns.take k).flatMap putN = zs at HO'
      have HZ : Hid (xs ++ (ns.take k).flatMap putN = zs ∧ zs.length ≤ 1000000 + 10 * k) := ⟨hxs, by rw [← hxs, List.length_append]; have := HR.out.2.2.2; omega⟩
      clear hxs
      go_wp2
      go_region_law (first
        | (go_simp; go_at_call 54; refine (HN.out _ (by first | exact Below.refl _ _ | exact (Below.refl _ _).drew | exact below_drew' (Below.refl _ _) _)).mono ?_; rintro r w1 ⟨o1, n1, c1, rfl, A1, B1, cd1, z1⟩)
        | (refine step_append_rd _ rfl _ _ 22 rfl Tryd.underlying22 info5 base _ zs rfl (HO'.out.2.below B1.out (Nat.le_refl _)) _ (putN x) rfl A1.out (by have := HPL.out; have := HZ.out.2; omega) (by exact z1) ?_
           intro v2 w2 O2 G2
           obtain ⟨o2, c2, e2, _⟩ := O2.rd
           subst e2
           have HP := wrt_put (kept B1.out HO'.out.1 (Nat.le_refl _)) (HO'.out.2.below B1.out (Nat.le_refl _)) O2 G2 hbd
           have cd2 := HP.2.2.2.1
           have fr2 := HP.2.2.2.2
           have HP' : Hid (Wrt (w2.setCell ⟨d, 0, none⟩ (.slice o2 (zs ++ putN x).length c2)) base d (zs ++ putN x) ∧ Below base w1 (w2.setCell ⟨d, 0, none⟩ (.slice o2 (zs ++ putN x).length c2)) ∧ Kp w1 (w2.setCell ⟨d, 0, none⟩ (.slice o2 (zs ++ putN x).length c2))) := ⟨HP.1, HP.2.1, HP.2.2.1⟩
           clear HP O2 G2
           generalize (zs ++ putN x).length = n2 at HP'))
      all_goals
        go_wp2
        go_roundw
        case rel =>
          have b1 : Below base w w1 := HR.out.2.1.trans (B1.out.mono (by omega))
          refine ⟨k + 1, by omega, by go_num, hide ⟨?_, b1.trans HP'.out.2.1, (HR.out.2.2.1.trans (Kp.below B1.out)).trans HP'.out.2.2, ?_⟩⟩
          · have := HP'.out.1
            rw [← HZ.out.1, List.append_assoc] at this
            rw [HX.out, List.flatMap_append, List.flatMap_singleton]
            exact this
          · rw [HX.out, List.flatMap_append, List.flatMap_singleton, List.length_append]
            have := HR.out.2.2.2
            have := HPL.out
            omega
        case measure => simp [intOf]; omega
    · go_wp2
      go_end0
      have e : ns.take k = ns := List.take_of_length_le (by omega)
      have := HR.out
      rw [e] at this
      exact ⟨rfl, this.1, this.2.1, this.2.2.1⟩
end Go.Proofs.YtolmngfjdcoapaaDoor.wr

import Derived.Test.YtklkglbimjajnaaQ01
import Derived.Lib.AppendStr
import Derived.Deep.RegionLaw
import Derived.Deep.AppendLies
import Derived.Deep.RegionHeldLaw
import Derived.OwnWalk
set_option linter.unusedVariables false
open Go.ChangeShapes Go.WideShapes Go.ChangeAt Go.RowKit
namespace Go.Proofs.Ytklkglbimjajnaa.put
open bytes
def putN (n : Nat) : List Int := if n < 128 then [(n : Int)] else ((n % 128 + 128 : Nat) : Int) :: putN (n / 128)
termination_by n
decreasing_by omega
theorem putN_lt {n : Nat} (h : n < 128) : putN n = [(n : Int)] := by rw [putN, if_pos h]
theorem putN_ge {n : Nat} (h : 128 ≤ n) : putN n = ((n % 128 + 128 : Nat) : Int) :: putN (n / 128) := by rw [putN, if_neg (by omega)]
theorem putN_len (k : Nat) : ∀ n, n < 128 ^ (k + 1) → (putN n).length ≤ k + 1 := by
  induction k with
  | zero => intro n h; rw [putN_lt (by omega)]; simp
  | succ k ih =>
    intro n h
    by_cases h1 : n < 128
    · rw [putN_lt h1]; simp
    · rw [putN_ge (by omega)]
      have := ih (n / 128) (Nat.div_lt_of_lt_mul (by rw [Nat.pow_succ, Nat.mul_comm] at h; exact h))
      simp; omega
theorem put_len {n m : Nat} {pre : List Int} (hn : n ≤ 2 ^ 63 - 1) (h : pre ++ putN m = putN n) : pre.length < 10 := by
  have h1 := putN_len 9 n (by omega)
  rw [← h] at h1
  have h2 : 0 < (putN m).length := by
    by_cases h : m < 128
    · rw [putN_lt h]; simp
    · rw [putN_ge (by omega)]; simp
  simp at h1; omega
theorem own_snoc {w w' : World} {base : Nat} {v' : Value} {pre : List Int} {x : Int} (hpre : ∀ y ∈ pre, 0 ≤ y ∧ y ≤ 255) (hx : 0 ≤ x ∧ x ≤ 255)
    (h : w'.ownsRow base 5 1 v' (pre.length + 1) (pre.map (Value.int .u8) ++ [.int .u8 x])) : Own w' base v' (pre ++ [x]) := by
  refine ⟨?_, by simpa using h⟩
  intro y hy
  simp only [List.mem_append, List.mem_singleton] at hy
  rcases hy with hy | rfl
  · exact hpre y hy
  · exact hx
theorem below_snoc {w wr w1 : World} {o : Obj} {row : Option Nat} (hb : Below w.heap.size w wr) (hg : (wr.alloc o).grownBy w1 row) (hr : ∀ k, row = some k → w.heap.size ≤ k) : Below w.heap.size w w1 :=
  (hb.alloc hb.size o).grown hg (by have := hb.size; simp; omega) hr
theorem u8_or128 (n : Int) : bits .or .u8 (n % 128) 128 = n % 128 + 128 := by
  obtain ⟨a, ha⟩ := Int.eq_ofNat_of_zero_le (show 0 ≤ n % 128 by omega)
  rw [ha]
  have hlt : a < 2 ^ 7 := by omega
  have key : (BitVec.ofInt 8 (a : Int) ||| BitVec.ofInt 8 128).toNat = a + 128 := by
    have h1 : (BitVec.ofInt 8 (a : Int)).toNat = a := by rw [BitVec.toNat_ofInt]; omega
    have h2 : (BitVec.ofInt 8 128).toNat = 128 := by decide
    rw [BitVec.toNat_or, h1, h2, Nat.or_comm, show (128 : Nat) = 2 ^ 7 * 1 from rfl, ← Nat.two_pow_add_eq_or_of_lt hlt]
    omega
  show IntKind.u8.wrap ((BitVec.ofInt 8 (a : Int) ||| BitVec.ofInt 8 128).toNat : Nat) = _
  rw [key]
  simp [IntKind.wrap, IntKind.bits, IntKind.signed]
  omega
set_option maxHeartbeats 400000 in
theorem l01Put_own (n : Nat) (w : World) (hn : n ≤ maxLen) :
    Calls Try.prog 86 #[.int .i64 n] w fun e w' => ∃ v, e = .returned v ∧ Own w' w.heap.size v (putN n) ∧ Below w.heap.size w w' := by
  unfold maxLen at hn
  obtain ⟨i0, hi, hz0, hz1, hz2⟩ := info_parts info5
  have HI : Hid (Try.prog.info? 5 = some i0 ∧ i0.zero = some (.int .u8 0) ∧ i0.size = 1 ∧ i0.bytes = 1) := ⟨hi, hz0, hz1, hz2⟩
  clear hi hz0 hz1 hz2
  go_enter Try.func86, Try.ntmps86
  go_wp2
  go_loopw [0, 3] (fun n' v wr => ∃ (m : Nat) (pre : List Int), m ≤ n ∧ n' = .int .i64 m ∧ Hid (pre ++ putN m = putN n ∧ Own wr w.heap.size v pre ∧ Below w.heap.size w wr)) (fun n' _ _ => (intOf n').toNat)
  case atStart => exact ⟨n, [], by omega, rfl, hide ⟨by simp, ⟨by simp, World.ownsRow_lit _ #[] 0 (Nat.le_refl _) (by simp [maxLen]) (by simp)⟩, (Below.refl _ _).alloc (Nat.le_refl _) _⟩⟩
  case round =>
    obtain ⟨m, pre, hm, rfl, HR⟩ := hrel
    have hpl := put_len hn HR.out.1
    have hsz := HR.out.2.2.size
    by_cases hlt : (128 : Int) ≤ m
    · have ho := u8_or128 (m : Int)
      go_wp2_with (at_builtin; refine wpList_append_own _ rfl _ _ 22 rfl w.heap.size 5 i0 (.int .u8 0) 1 1 Try.underlying22 HI.out.1 HI.out.2.1 HI.out.2.2.1 HI.out.2.2.2 rfl (by decide) _ _ _ rfl (HR.out.2.1.2.alloc _) ⟨wr.heap.size, 0, none⟩ 1 1 [.int .u8 ((m : Int) % 128 + 128)] rfl rfl (cell_one_new _ _ _) ?c2 ?c3 ?c4 ?c5 ?_)
      case c2 => intro u hu; simp at hu; subst hu; rfl
      case c3 => unfold maxLen; omega
      case c4 => omega
      case c5 => first | omega | (simp; omega)
      intro v' w1 hown' hgrow _
      have HS : Hid ((pre ++ [(m : Int) % 128 + 128]) ++ putN (m / 128) = putN n ∧ Own w1 w.heap.size v' (pre ++ [(m : Int) % 128 + 128]) ∧ Below w.heap.size w w1) := by
        refine hide ⟨?_, own_snoc (w := wr) HR.out.2.1.1 (by omega) hown', below_snoc HR.out.2.2 hgrow (fun k hk => (HR.out.2.1.lt k hk).1)⟩
        rw [← HR.out.1, putN_ge (n := m) (by omega)]
        simp
      clear hown' hgrow HR HI ho
      go_wp2
      go_roundw
      case rel => exact ⟨m / 128, _, by omega, by go_num, HS⟩
      case measure => simp [intOf]; omega
    · go_wp2_with (at_builtin; refine wpList_append_own _ rfl _ _ 22 rfl w.heap.size 5 i0 (.int .u8 0) 1 1 Try.underlying22 HI.out.1 HI.out.2.1 HI.out.2.2.1 HI.out.2.2.2 rfl (by decide) _ _ _ rfl (HR.out.2.1.2.alloc _) ⟨wr.heap.size, 0, none⟩ 1 1 [.int .u8 (m : Int)] rfl rfl (cell_one_new _ _ _) ?d2 ?d3 ?d4 ?d5 ?_)
      case d2 => first | (intro u hu; simp at hu; subst hu; rfl) | rfl
      case d3 => unfold maxLen; omega
      case d4 => omega
      case d5 => first | omega | (simp; omega)
      intro v' w1 hown' hgrow _
      have HS : Hid (Own w1 w.heap.size v' (putN n) ∧ Below w.heap.size w w1) := by
        refine hide ⟨?_, below_snoc HR.out.2.2 hgrow (fun k hk => (HR.out.2.1.lt k hk).1)⟩
        rw [← HR.out.1, putN_lt (n := m) (by omega)]
        exact own_snoc (w := wr) HR.out.2.1.1 (by omega) hown'
      clear hown' hgrow HR HI
      go_wp2
      go_ret
      exact ⟨_, rfl, HS.out⟩
end Go.Proofs.Ytklkglbimjajnaa.put
namespace Go.Proofs.Ytklkglbimjajnaa.jhelp
open bytes pile put
theorem more {W wx : World} (h : Below W.heap.size W wx) (o : Obj) : Below W.heap.size W (wx.alloc o) := h.alloc h.size o
theorem cell_at {w w' : World} {B : Nat} {a : Addr} {v : Value} (h : Below B w w') (hc : w.cell? a = some v) (hB : w.heap.size ≤ B) : w'.cell? a = some v := (h.cell (by have := cell_lt hc; omega)).trans hc
theorem new_at {w : World} {o : Obj} {k : Nat} (h : w.heap.size = k) : (w.alloc o).heap[k]? = some o := by subst h; exact heap_alloc_new w o
theorem cell_of {w : World} {b i : Nat} {cur : Array Value} {t : Nat} {v : Value} (h : w.heap[b]? = some (.cells cur t (0, 0))) (hv : cur[i]? = some v) : w.cell? ⟨b, i, none⟩ = some v := by simp [World.cell?, h, hv]
def strN (s : ByteArray) : List Int := s.data.toList.map fun b => (b.toNat : Int)
theorem strN_length (s : ByteArray) : (strN s).length = s.size := by
  rw [strN, List.length_map, Array.length_toList]
  rfl
theorem strN_bd (s : ByteArray) : ∀ x ∈ strN s, 0 ≤ x ∧ x ≤ 255 := by
  intro x hx
  simp only [strN, List.mem_map] at hx
  obtain ⟨b, _, rfl⟩ := hx
  have := b.toNat_lt
  omega
theorem strCells_eq (s : ByteArray) : Lib.strCells s = (strN s).map (Value.int .u8) := by
  simp [Lib.strCells, strN]
def inT (lo n : Int) : Bool := decide (lo ≤ n ∧ n ≤ 1000000)
def jobB (c s : Int) (F : Nat) (v : Int) (S T : Nat) : Bool := inT 1 c && (inT 1 s && (inT 0 v && (decide (F ≤ 40) && (decide (S ≤ 2000) && decide (T ≤ 2000)))))
def textN (s : ByteArray) : List Int := putN s.size ++ strN s
def flagN (e q : Bool) : Int := (if e then 1 else 0) + 2 * (if q then 1 else 0)
def jobN (c s : Int) (F : ByteArray) (v : Int) (S T : ByteArray) (e q : Bool) : List Int :=
  (((((putN c.toNat ++ putN s.toNat) ++ textN F) ++ putN v.toNat) ++ textN S) ++ textN T) ++ [flagN e q]
theorem jobB_yes {c s v : Int} {F S T : Nat} (h : jobB c s F v S T = true) : (1 ≤ c ∧ c ≤ 1000000) ∧ (1 ≤ s ∧ s ≤ 1000000) ∧ (0 ≤ v ∧ v ≤ 1000000) ∧ F ≤ 40 ∧ S ≤ 2000 ∧ T ≤ 2000 := by
  simpa [jobB, inT] using h
theorem put3 {n : Nat} (h : n ≤ 1000000) : (putN n).length ≤ 3 := putN_len 2 n (by omega)
theorem textN_len {s : ByteArray} (h : s.size ≤ 2000) : (textN s).length ≤ 2003 := by
  have := put3 (n := s.size) (by omega)
  simp [textN, strN_length]
  omega
theorem own_str {w' : World} {base : Nat} {v' : Value} {xs : List Int} {s : ByteArray} (hx : ∀ x ∈ xs, 0 ≤ x ∧ x ≤ 255) (h : w'.ownsRow base 5 1 v' (xs.length + s.size) (xs.map (Value.int .u8) ++ Lib.strCells s)) : Own w' base v' (xs ++ strN s) := by
  refine ⟨?_, ?_⟩
  · intro x hx'
    rcases List.mem_append.1 hx' with h' | h'
    · exact hx x h'
    · exact strN_bd s x h'
  · rw [List.length_append, strN_length, List.map_append, ← strCells_eq]
    exact h
theorem flag_any (w : World) (b : Bool) : Calls Try.prog 88 #[.bool b] w fun e w' => e = .returned (.int .i64 (if b then 1 else 0)) ∧ w' = w := by
  cases b
  · go_enter Try.func88, Try.ntmps88
    go_wp2
    go_ret
    exact ⟨rfl, rfl⟩
  · go_enter Try.func88, Try.ntmps88
    go_wp2
    go_ret
    exact ⟨rfl, rfl⟩
set_option maxHeartbeats 800000 in
theorem text_own (w : World) (s : ByteArray) (hs : s.size ≤ 1048576) : Calls Try.prog 87 #[.string s] w fun e w' => ∃ v, e = .returned v ∧ Own w' w.heap.size v (textN s) ∧ Below w.heap.size w w' := by
  obtain ⟨i0, hi, hz0, hz1, hz2⟩ := info_parts info5
  have HI : Hid (Try.prog.info? 5 = some i0 ∧ i0.zero = some (.int .u8 0) ∧ i0.size = 1 ∧ i0.bytes = 1) := ⟨hi, hz0, hz1, hz2⟩
  clear hi hz0 hz1 hz2
  have hpl : (putN s.size).length ≤ 10 := putN_len 9 s.size (by omega)
  have HC := l01Put_own s.size w (by unfold maxLen; omega)
  have HPL : Hid ((putN s.size).length ≤ 10) := hpl
  clear hpl
  go_enter Try.func87, Try.ntmps87
  go_wp2_with fail
  refine HC.mono ?_
  rintro e w1 ⟨v1, rfl, O1, b1⟩
  have s1 := b1.size
  have HO : Hid (Own w1 w.heap.size v1 (putN s.size)) := O1
  clear O1
  go_wp2_with (at_builtin; refine Lib.wpList_append_own_string w1 rfl _ _ 22 9 rfl w.heap.size 5 i0 Try.underlying22 Try.underlying9 HI.out.1 HI.out.2.1 HI.out.2.2.1 HI.out.2.2.2 v1 _ _ rfl HO.out.2 s rfl (by have := HPL.out; unfold maxLen; omega) (by have := HPL.out; omega) s1 ?_; intro v2 w2 hown2 hg2 _; have H2 : Hid (Own w2 w.heap.size v2 (textN s) ∧ Below w.heap.size w w2) := ⟨own_str HO.out.1 hown2, b1.grown hg2 s1 (fun k hk => (HO.out.lt k hk).1)⟩; clear hown2 hg2)
  go_ret
  exact ⟨_, rfl, H2.out⟩
end Go.Proofs.Ytklkglbimjajnaa.jhelp
namespace Go.Proofs.Ytklkglbimjajnaa.sjob
open bytes pile put jhelp
theorem step_append_rd {P : Program} (w : World) {ops : Array Oper} {o : Oper} {a : Act} {K : Act → World → Prop} {Q : Exit → Act → World → Prop} {E : Prop} (hgd : o.guard = none) (s x : Operand) (t : TypeId)
    (ho : o.op = .call { callee := .builtin .append, args := #[s, x], argTypes := #[t, t] }) (ht : P.underlying t = some (.slice 5))
    (hi : (P.info? 5).map (fun i => (i.zero, i.size, i.bytes)) = some (some (.int .u8 0), 1, 1))
    (base : Nat) (v : Value) (xs : List Int) (hs : a.eval s = v) (hown : Own w base v xs) (u : Value) (ys : List Int) (hx : a.eval x = u) (hr : RdA w u ys)
    (hlen : xs.length + ys.length ≤ 140737488355328) (hbase : base ≤ w.heap.size)
    (h : ∀ v' w', Own w' base v' (xs ++ ys) → w.grownBy w' v.ownBlock → K (a.put o.dst v') w') :
    if Region.wanted o (yielded ops a.tmps) = true then Oper.wp P o a w K Q else E := by
  have hw : Region.wanted o (yielded ops a.tmps) = true := by simp [Region.wanted, hgd]
  rw [if_pos hw]
  obtain ⟨i0, hi1, hz0, hz1, hz2⟩ := info_parts hi
  obtain ⟨⟨ao, cap, rfl, h1, h2, h3, h4⟩, hnil⟩ := hr
  have hall : ∀ y ∈ xs ++ ys, 0 ≤ y ∧ y ≤ 255 := by
    intro y hy
    rcases List.mem_append.1 hy with hy | hy
    · exact hown.1 y hy
    · exact h3 y hy
  cases ao with
  | none =>
    have e := hnil _ _ rfl
    simp only [Value.slice.injEq, true_and] at e
    have hys : ys = [] := List.length_eq_zero_iff.1 e.1
    subst hys
    obtain rfl : cap = 0 := e.2
    have hrun := run_append_owned_none (P := P) (w := w) base t o.type 5 i0 1 ht hi1 v xs.length _ hown.2
    have hK := h v w (by simpa using hown) (World.grownBy.refl _ _)
    unfold Oper.wp
    simp only [List.length_nil] at hx
    simp [execOp, ho, resolve, invoke, builtin, hs, hx, hrun, Result.andThen]
    exact hK
  | some ad =>
    refine wp_append_own w s x t ho base 5 i0 (.int .u8 0) 1 1 ht hi1 hz0 hz1 hz2 rfl (by decide) v xs.length _ hs hown.2 ad ys.length cap (ys.map (Value.int .u8)) hx (by simp) ?_ ?_ (by unfold maxLen; omega) (by omega) hbase ?_
    · intro j y hy
      simp only [List.getElem?_map, Option.map_eq_some_iff] at hy
      obtain ⟨z, hz, rfl⟩ := hy
      have hj : j < ys.length := (List.getElem?_eq_some_iff.1 hz).1
      obtain ⟨b, off, e, hc⟩ := h4 (by omega)
      simp only [Option.some.injEq] at e
      subst e
      rw [add_at, hc j hj]
      simp [List.getD_eq_getElem?_getD, hz]
    · intro y hy
      obtain ⟨z, _, rfl⟩ := List.mem_map.1 hy
      rfl
    · intro v' w' hown' hgrow _
      refine h v' w' ⟨hall, ?_⟩ hgrow
      rw [List.length_append, List.map_append]
      exact hown'
theorem lit_rdA {wx : World} {k : Nat} {x : Int} (h : wx.heap[k]? = some (.cells #[.int .u8 x] 5 (0, 0))) (hx : 0 ≤ x ∧ x ≤ 255) : RdA wx (.slice (some ⟨k, 0, none⟩) 1 1) [x] := by
  refine ⟨⟨some ⟨k, 0, none⟩, 1, rfl, by simp, by simp [maxLen], by simpa using hx, fun _ => ⟨k, 0, rfl, fun i hi => ?_⟩⟩, fun n c e => by simp at e⟩
  have : i = 0 := by simp at hi; omega
  subst this
  simp [World.cell?, h]
set_option maxRecDepth 20000 in
set_option maxHeartbeats 6400000 in
theorem specBytes (w : World) (C Q V : Nat) (F S T : ByteArray) (e q : Bool) (hR : jobB C Q F.size V S.size T.size = true) :
    Calls Try.prog 42 #[.agg #[.int .i64 (C : Nat), .int .i64 (Q : Nat), .string F, .int .i64 (V : Nat), .string S, .string T, .bool e, .bool q]] w fun r w' => ∃ u, r = .returned u ∧ Own w' w.heap.size u (jobN C Q F V S T e q) ∧ Below w.heap.size w w' := by
  obtain ⟨r1, r2, r3, r4, r5, r6⟩ := jobB_yes hR
  have l1 := put3 (n := C) (by omega)
  have l2 := put3 (n := Q) (by omega)
  have l3 := put3 (n := V) (by omega)
  have l4 := textN_len (s := F) (by omega)
  have l5 := textN_len r5
  have l6 := textN_len r6
  have HL : Hid ((putN C).length ≤ 3 ∧ (putN Q).length ≤ 3 ∧ (putN V).length ≤ 3 ∧ (textN F).length ≤ 2003 ∧ (textN S).length ≤ 2003 ∧ (textN T).length ≤ 2003) := ⟨l1, l2, l3, l4, l5, l6⟩
  have HRg : Hid (C ≤ 1000000 ∧ Q ≤ 1000000 ∧ V ≤ 1000000 ∧ F.size ≤ 40 ∧ S.size ≤ 2000 ∧ T.size ≤ 2000) := ⟨by omega, by omega, by omega, r4, r5, r6⟩
  obtain ⟨W, hWW⟩ : ∃ W, W = w.alloc (.cells #[.int .i64 (C : Nat), .int .i64 (Q : Nat), .string F, .int .i64 (V : Nat), .string S, .string T, .bool e, .bool q] 94) := ⟨_, rfl⟩
  have bW : Below w.heap.size w W := by rw [hWW]; exact (Below.refl _ _).alloc (Nat.le_refl _) _
  have k0 : W.heap[w.heap.size]? = some (.cells #[.int .i64 (C : Nat), .int .i64 (Q : Nat), .string F, .int .i64 (V : Nat), .string S, .string T, .bool e, .bool q] 94 (0, 0)) := by rw [hWW]; exact heap_alloc_new w _
  have x0 : W.cell? ⟨w.heap.size, 0, none⟩ = some (.int .i64 C) := cell_of k0 rfl
  have x1 : W.cell? ⟨w.heap.size, 1, none⟩ = some (.int .i64 Q) := cell_of k0 rfl
  have x2 : W.cell? ⟨w.heap.size, 2, none⟩ = some (.string F) := cell_of k0 rfl
  have x3 : W.cell? ⟨w.heap.size, 3, none⟩ = some (.int .i64 V) := cell_of k0 rfl
  have x4 : W.cell? ⟨w.heap.size, 4, none⟩ = some (.string S) := cell_of k0 rfl
  have x5 : W.cell? ⟨w.heap.size, 5, none⟩ = some (.string T) := cell_of k0 rfl
  have x6 : W.cell? ⟨w.heap.size, 6, none⟩ = some (.bool e) := cell_of k0 rfl
  have x7 : W.cell? ⟨w.heap.size, 7, none⟩ = some (.bool q) := cell_of k0 rfl
  have HS : Hid (∀ wx, Below W.heap.size W wx → (wx.cell? ⟨w.heap.size, 0, none⟩ = some (.int .i64 C) ∧ wx.cell? ⟨w.heap.size, 1, none⟩ = some (.int .i64 Q)) ∧ Below W.heap.size W wx) := fun wx h => ⟨⟨cell_at h x0 (Nat.le_refl _), cell_at h x1 (Nat.le_refl _)⟩, h⟩
  have HN : Hid (∀ n : Nat, n ≤ 1000000 → ∀ wx, Below W.heap.size W wx → Calls Try.prog 86 #[.int .i64 n] wx fun r w' => ∃ o m c, r = .returned (.slice o m c) ∧ Hid (Own w' wx.heap.size (.slice o m c) (putN n)) ∧ Hid (Below wx.heap.size wx w') ∧ Below W.heap.size W w' ∧ W.heap.size ≤ w'.heap.size) := fun n hn wx hb => by
    refine (l01Put_own n wx (by unfold maxLen; omega)).mono ?_
    rintro r w' ⟨u, rfl, HO, hB⟩
    obtain ⟨o, c, e, _⟩ := HO.rd
    subst e
    have hq := hb.trans (hB.mono hb.size)
    exact ⟨o, _, c, rfl, HO, hB, hq, hq.size⟩
  have HEnd : Hid (Below w.heap.size w W) := bW
  have hs0 : w.heap.size ≤ W.heap.size := bW.size
  clear r1 r2 r3 r4 r5 r6 l1 l2 l3 l4 l5 l6 hR k0 bW
  go_enter Try.func42, Try.ntmps42
  go_wp2
  rw [← hWW]
  clear hWW
  go_region_held_law (fun wx => (wx.cell? ⟨w.heap.size, 0, none⟩ = some (.int .i64 C) ∧ wx.cell? ⟨w.heap.size, 1, none⟩ = some (.int .i64 Q)) ∧ Below W.heap.size W wx)
    ((refine HS.out _ ?_; first | assumption | exact Below.refl _ _ | exact (Below.refl _ _).drew))
    (first
      | (go_at_call 86; have _h1 := B1; refine (HN.out _ (by have := HRg.out; omega) _ (by first | assumption | exact And.right (by assumption))).mono ?_; rintro r w2 ⟨o2, m2, c2, rfl, R2, B2, D2, s2⟩)
      | (go_at_call 86; refine (HN.out _ (by have := HRg.out; omega) _ (by first | assumption | exact And.right (by assumption))).mono ?_; rintro r w1 ⟨o1, m1, c1, rfl, R1, B1, D1, s1⟩)
      | (refine step_append_rd _ rfl _ _ 22 rfl Try.underlying22 info5 W.heap.size _ (putN C) rfl ((R1.out.below B2.out (Nat.le_refl _)).mono (by first | exact Nat.le_refl _ | omega | (have := D1.size; omega) | (have := B1.out.size; simp at this ⊢; omega))) _ (putN Q) rfl (Own.rdA R2.out) (by have := HL.out; omega) (by exact s2) ?_
         intro v0 w0' O0 G0
         have D0 : Below W.heap.size W w0' := D2.grown G0 s2 (fun k hk => by have := (R1.out.lt k hk).1; first | exact this | omega | (simp at this; omega))
         have H0 : Hid (Own w0' W.heap.size v0 (putN C ++ putN Q)) := O0
         clear O0 G0))
  have cl02 := cell_at D0 x2 (Nat.le_refl _)
  clear x0 x1 HS HN R1 B1 D1 s1 R2 B2 D2 s2
  have y0 := D0.size
  go_wp2_with fail
  refine (text_own _ F (by have := HRg.out; omega)).mono ?_
  rintro r u0 ⟨t0, rfl, A0, b0⟩
  have E0 : Below W.heap.size W u0 := D0.trans (b0.mono (by omega))
  have HA0 : Hid (RdA u0 t0 _) := Own.rdA A0
  have HO0 : Hid (Own u0 W.heap.size v0 _) := H0.out.below b0 (Nat.le_refl _)
  have z0 : W.heap.size ≤ u0.heap.size := by have := b0.size; omega
  clear A0 b0 cl02 H0 D0 y0
  go_wp2_with (at_builtin; refine wpList_append_rd _ rfl _ _ 22 rfl Try.underlying22 info5 W.heap.size _ _ rfl HO0.out _ _ rfl HA0.out (by have := HL.out; simp only [List.length_append]; omega) (by exact z0) ?_; intro v1 w1' O1 G1; have D1 : Below W.heap.size W w1' := E0.grown G1 (by exact z0) (fun k hk => (HO0.out.lt k hk).1); have H1 : Hid (Own w1' W.heap.size v1 _) := O1; clear O1 G1; have cl13 := cell_at D1 x3 (Nat.le_refl _))
  clear HA0 HO0 E0 z0
  have y1 := D1.size
  go_wp2_with fail
  refine (l01Put_own V _ (by have := HRg.out; unfold maxLen; omega)).mono ?_
  rintro r u1 ⟨t1, rfl, A1, b1⟩
  have E1 : Below W.heap.size W u1 := D1.trans (b1.mono (by omega))
  have HA1 : Hid (RdA u1 t1 _) := Own.rdA A1
  have HO1 : Hid (Own u1 W.heap.size v1 _) := H1.out.below b1 (Nat.le_refl _)
  have z1 : W.heap.size ≤ u1.heap.size := by have := b1.size; omega
  clear A1 b1 cl13 H1 D1 y1
  go_wp2_with (at_builtin; refine wpList_append_rd _ rfl _ _ 22 rfl Try.underlying22 info5 W.heap.size _ _ rfl HO1.out _ _ rfl HA1.out (by have := HL.out; simp only [List.length_append]; omega) (by exact z1) ?_; intro v2 w2' O2 G2; have D2 : Below W.heap.size W w2' := E1.grown G2 (by exact z1) (fun k hk => (HO1.out.lt k hk).1); have H2 : Hid (Own w2' W.heap.size v2 _) := O2; clear O2 G2; have cl24 := cell_at D2 x4 (Nat.le_refl _))
  clear HA1 HO1 E1 z1
  have y2 := D2.size
  go_wp2_with fail
  refine (text_own _ S (by have := HRg.out; omega)).mono ?_
  rintro r u2 ⟨t2, rfl, A2, b2⟩
  have E2 : Below W.heap.size W u2 := D2.trans (b2.mono (by omega))
  have HA2 : Hid (RdA u2 t2 _) := Own.rdA A2
  have HO2 : Hid (Own u2 W.heap.size v2 _) := H2.out.below b2 (Nat.le_refl _)
  have z2 : W.heap.size ≤ u2.heap.size := by have := b2.size; omega
  clear A2 b2 cl24 H2 D2 y2
  go_wp2_with (at_builtin; refine wpList_append_rd _ rfl _ _ 22 rfl Try.underlying22 info5 W.heap.size _ _ rfl HO2.out _ _ rfl HA2.out (by have := HL.out; simp only [List.length_append]; omega) (by exact z2) ?_; intro v3 w3' O3 G3; have D3 : Below W.heap.size W w3' := E2.grown G3 (by exact z2) (fun k hk => (HO2.out.lt k hk).1); have H3 : Hid (Own w3' W.heap.size v3 _) := O3; clear O3 G3; have cl35 := cell_at D3 x5 (Nat.le_refl _))
  clear HA2 HO2 E2 z2
  have y3 := D3.size
  go_wp2_with fail
  refine (text_own _ T (by have := HRg.out; omega)).mono ?_
  rintro r u3 ⟨t3, rfl, A3, b3⟩
  have E3 : Below W.heap.size W u3 := D3.trans (b3.mono (by omega))
  have HA3 : Hid (RdA u3 t3 _) := Own.rdA A3
  have HO3 : Hid (Own u3 W.heap.size v3 _) := H3.out.below b3 (Nat.le_refl _)
  have z3 : W.heap.size ≤ u3.heap.size := by have := b3.size; omega
  clear A3 b3 cl35 H3 D3 y3
  go_wp2_with (at_builtin; refine wpList_append_rd _ rfl _ _ 22 rfl Try.underlying22 info5 W.heap.size _ _ rfl HO3.out _ _ rfl HA3.out (by have := HL.out; simp only [List.length_append]; omega) (by exact z3) ?_; intro v4 w4' O4 G4; have D4 : Below W.heap.size W w4' := E3.grown G4 (by exact z3) (fun k hk => (HO3.out.lt k hk).1); have H4 : Hid (Own w4' W.heap.size v4 _) := O4; clear O4 G4; have cl46 := cell_at D4 x6 (Nat.le_refl _); have cl47 := cell_at D4 x7 (Nat.le_refl _))
  clear HA3 HO3 E3 z3
  have y4 := D4.size
  obtain ⟨zs, hzs⟩ : ∃ zs, zs = putN C ++ putN Q ++ textN F ++ putN V ++ textN S ++ textN T := ⟨_, rfl⟩
  have HZ : Hid (zs = putN C ++ putN Q ++ textN F ++ putN V ++ textN S ++ textN T ∧ zs.length ≤ 6018) := ⟨hzs, by rw [hzs]; have := HL.out; simp only [List.length_append]; omega⟩
  rw [← hzs] at H4
  clear hzs
  have HS6 : Hid (∀ wx, Below W.heap.size W wx → (wx.cell? ⟨w.heap.size, 6, none⟩ = some (.bool e) ∧ wx.cell? ⟨w.heap.size, 7, none⟩ = some (.bool q)) ∧ Below W.heap.size W wx) := fun wx h => ⟨⟨cell_at h x6 (Nat.le_refl _), cell_at h x7 (Nat.le_refl _)⟩, h⟩
  obtain ⟨x, hx⟩ : ∃ x : Int, x = if e then 1 else 0 := ⟨_, rfl⟩
  obtain ⟨y, hy⟩ : ∃ x : Int, x = if q then 1 else 0 := ⟨_, rfl⟩
  have HE : Hid (∀ wx, Calls Try.prog 88 #[.bool e] wx fun r w' => r = .returned (.int .i64 x) ∧ w' = wx) := fun wx => by rw [hx]; exact flag_any wx e
  have HQ : Hid (∀ wx, Calls Try.prog 88 #[.bool q] wx fun r w' => r = .returned (.int .i64 y) ∧ w' = wx) := fun wx => by rw [hy]; exact flag_any wx q
  have HF : Hid (flagN e q = x + 2 * y) := by unfold Hid flagN; rw [hx, hy]
  have hx0 : 0 ≤ x ∧ x ≤ 1 := by rw [hx]; cases e <;> simp
  have hy0 : 0 ≤ y ∧ y ≤ 1 := by rw [hy]; cases q <;> simp
  have f1 : IntKind.i64.wrap (2 * y) = 2 * y := by rw [IntKind.wrap_i64]; omega
  have f2 : IntKind.i64.wrap (x + 2 * y) = x + 2 * y := by rw [IntKind.wrap_i64]; omega
  have f3 : IntKind.u8.wrap (x + 2 * y) = x + 2 * y := by simp [IntKind.wrap, IntKind.bits, IntKind.signed]; omega
  have f4 : (x + 2 * y) % 256 = x + 2 * y := by omega
  have HXY : Hid (0 ≤ x + 2 * y ∧ x + 2 * y ≤ 255) := ⟨by omega, by omega⟩
  have HD4 : Hid (Below W.heap.size W w4') := D4
  clear hx hy cl46 cl47 x2 x3 x4 x5 x6 x7 D4 hx0 hy0
  go_region_held_law (fun wx => (wx.cell? ⟨w.heap.size, 6, none⟩ = some (.bool e) ∧ wx.cell? ⟨w.heap.size, 7, none⟩ = some (.bool q)) ∧ Below W.heap.size W wx)
    ((refine HS6.out _ ?_; first | assumption | exact HD4.out | exact HD4.out.drew | exact (HD4.out.alloc y4 _).drew | exact HD4.out.alloc y4 _ | exact (more (Below.refl _ _) _).drew | exact more (Below.refl _ _) _ | exact Below.refl _ _ | exact (Below.refl _ _).drew | exact And.right (by assumption)))
    (first
      | (go_at_call 88; with_reducible (refine (HE.out _).mono ?_); rintro r wf ⟨rfl, rfl⟩)
      | (go_at_call 88; with_reducible (refine (HQ.out _).mono ?_); rintro r wf ⟨rfl, rfl⟩)
      | (refine step_append_rd _ rfl _ _ 22 rfl Try.underlying22 info5 W.heap.size _ zs rfl (H4.out.below (by first | exact (more (Below.refl _ _) _).drew | exact more (Below.refl _ _) _ | exact more ((Below.refl _ _).drew) _ | exact more (by assumption) _ | exact more (And.right (by assumption)) _) (Nat.le_refl _)) _ [x + 2 * y] rfl (lit_rdA (by exact new_at (by first | rfl | simp)) HXY.out) (by have := HZ.out.2; simp; omega) (by first | omega | (simp; omega)) ?_
         intro v5 w5 O5 G5
         have D5 : Below W.heap.size W w5 := HD4.out.trans (Below.mono (Below.grown (B := W.heap.size) (by first | exact ((more (Below.refl _ _) _).drew).mono y4 | exact (more (Below.refl _ _) _).mono y4 | exact (more ((Below.refl _ _).drew) _).mono y4 | exact (more (by assumption) _).mono y4) G5 (by first | omega | (simp; omega)) (fun k hk => (H4.out.lt k hk).1)) (Nat.le_refl _))
         have H5 : Hid (Own w5 W.heap.size v5 (zs ++ [x + 2 * y])) := O5
         clear O5 G5))
  all_goals
    have HFin : Hid (Own w5 w.heap.size v5 (jobN C Q F V S T e q) ∧ Below w.heap.size w w5) := by
      refine hide ⟨?_, HEnd.out.trans (D5.mono hs0)⟩
      have h := H5.out
      rw [HZ.out.1, ← HF.out] at h
      have := h.mono hs0
      simpa [jobN] using this
    clear H5 D5
    go_wp2
    go_ret
    refine ⟨v5, ?_, HFin.out⟩
    first | rfl | simp
end Go.Proofs.Ytklkglbimjajnaa.sjob
namespace Go.Proofs.Ytklkglbimjajnaa.drb
open Raft mem grp src
theorem info5 : (Try.prog.info? 5).map (fun i => (i.zero, i.size, i.bytes)) = some (some (.int .u8 0), 1, 1) := by kernel_rfl
def u8s (ys : List Int) : List Value := ys.map (Value.int .u8)
structure Dr (w : World) (M : Fz) (d : Nat) (w' : World) (M' : Fz) : Prop where
  le : Le M M'
  inn : In M' w'
  grown : w.grownBy w' (some d)
  new : ∀ b, M' b ≠ none → M b ≠ none ∨ w.heap.size ≤ b
theorem Dr.trans {w w1 w' : World} {M M1 M' : Fz} {d : Nat} (h : Dr w M d w1 M1) (k : Dr w1 M1 d w' M') : Dr w M d w' M' := ⟨h.le.trans k.le, k.inn, grown_trans h.grown k.grown, fun b hb => by
  rcases k.new b hb with g | g
  · exact h.new b g
  · exact .inr (Nat.le_trans h.grown.size g)⟩
theorem Dr.of {w w' : World} {M : Fz} {d q : Nat} (h : Src w' M d q) (g : w.grownBy w' (some d)) : Dr w M d w' M := ⟨Le.refl _, h.inn, g, fun _ hb => .inl hb⟩
theorem Dr.below {w w1 w' : World} {M M1 : Fz} {d : Nat} (h : Dr w M d w1 M1) (hb : Below w1.heap.size w1 w') : Dr w M d w' M1 := ⟨h.le, h.inn.below hb, grown_trans h.grown (below_grown hb _), h.new⟩
theorem Dr.kept {w w' : World} {M M' : Fz} {d : Nat} (h : Dr w M d w' M') {b : Nat} (hb : M b = none) (hl : b < w.heap.size) : M' b = none := by
  cases e : M' b with
  | none => rfl
  | some o =>
    rcases h.new b (by rw [e]; simp) with g | g
    · exact absurd hb g
    · omega
theorem Src.free {w : World} {M : Fz} {d q : Nat} (h : Src w M d q) : M d = none := by obtain ⟨ao, cap, xs, at_, sd, hs, h1, h2⟩ := h; exact hs.free
structure Mk (e sz : Nat) (w : World) (M : Fz) (d q n : Nat) (xs : List Value) (v : Value) (wr : World) (M' : Fz) : Prop where
  row : wr.ownsRow w.heap.size e sz v n xs
  src : Src wr M' d q
  dr : Dr w M d wr M'
  free : ∀ g, v.ownBlock = some g → M' g = none
  lt : d < w.heap.size
section
variable {e sz : Nat} {w wr w1 : World} {M M' M1 : Fz} {d q n : Nat} {xs : List Value} {v : Value}
theorem Mk.ne (h : Mk e sz w M d q n xs v wr M') : ∀ g, v.ownBlock = some g → g ≠ d ∧ g < wr.heap.size ∧ w.heap.size ≤ g := fun g hg => ⟨by have := (row_lt h.row hg).1; have := h.lt; omega, (row_lt h.row hg).2, (row_lt h.row hg).1⟩
theorem Mk.draw (h : Mk e sz w M d q n xs v wr M') {p : Nat} (hs : Src w1 M1 d p) (hd : Dr wr M' d w1 M1) : Mk e sz w M d p n xs v w1 M1 :=
  ⟨row_kept h.row (fun g hg => hd.grown.block g (h.ne g hg).2.1 (fun e => (h.ne g hg).1 (by simpa using e))), hs, h.dr.trans hd, fun g hg => hd.kept (h.free g hg) (h.ne g hg).2.1, h.lt⟩
theorem Mk.below (h : Mk e sz w M d q n xs v wr M') (hb : Below wr.heap.size wr w1) : Mk e sz w M d q n xs v w1 M' :=
  ⟨row_kept h.row (fun g hg => hb.block g (h.ne g hg).2.1), h.src.below hb, h.dr.below hb, h.free, h.lt⟩
theorem Mk.more (h : Mk e sz w M d q n xs v wr M') {p : Nat} (hp : q ≤ p) : Mk e sz w M d p n xs v wr M' := ⟨h.row, h.src.more hp, h.dr, h.free, h.lt⟩
theorem Mk.push (h : Mk e sz w M d q n xs v wr M') {w' : World} {g cap m : Nat} {ys : List Value} (p1 : w'.ownsRow w.heap.size e sz (.slice (some ⟨g, 0, none⟩) m cap) m ys) (p2 : wr.grownBy w' v.ownBlock) (p3 : v.ownBlock = some g ∨ g = wr.heap.size) : Mk e sz w M d q m ys (.slice (some ⟨g, 0, none⟩) m cap) w' M' := by
  have hI : In M' w' := h.dr.inn.grown p2 h.free
  refine ⟨p1, h.src.grown p2 (fun b hb => ⟨(h.ne b hb).1, h.free b hb⟩), ⟨h.dr.le, hI, ?_, h.dr.new⟩, ?_, h.lt⟩
  · exact ⟨p2.os.trans h.dr.grown.os, p2.tape.trans h.dr.grown.tape, p2.output.trans h.dr.grown.output, Nat.le_trans h.dr.grown.size p2.size, fun b hb hbd => (p2.block b (Nat.lt_of_lt_of_le hb h.dr.grown.size) (fun e => by have := (h.ne b e.symm).2.2; omega)).trans (h.dr.grown.block b hb hbd)⟩
  · intro g' hg'
    obtain rfl : g = g' := by simpa [Value.ownBlock] using hg'
    rcases p3 with p3 | p3
    · exact h.free g p3
    · exact h.dr.inn.fresh (by omega)
theorem Mk.done (h : Mk e sz w M d q n xs v wr M') : ∃ M2, Le M' M2 ∧ RowM M2 v n sz xs ∧ Src wr M2 d q ∧ Dr w M d wr M2 := by
  obtain ⟨M2, q1, q2, q3, q4⟩ := RowM.freeze h.row h.dr.inn h.free
  have hd2 : M2 d = none := by
    cases e : M2 d with
    | none => rfl
    | some o =>
      rcases q4 d (by rw [e]; simp) with g | g
      · exact absurd (drb.Src.free h.src) g
      · exact absurd rfl (h.ne d g).1
  refine ⟨M2, q1, q3, h.src.le q1 q2 hd2, h.dr.le.trans q1, q2, h.dr.grown, fun b hb => ?_⟩
  rcases q4 b hb with g | g
  · exact h.dr.new b g
  · exact .inr (h.ne b g).2.2
end
theorem empty_row (w : World) (e sz : Nat) : (w.alloc (.cells #[] e)).ownsRow w.heap.size e sz (.slice (some ⟨w.heap.size, 0, none⟩) 0 0) 0 [] :=
  ⟨by simp, .inr ⟨w.heap.size, 0, #[], rfl, Nat.le_refl _, heap_alloc_new w _, Nat.le_refl _, by simp [maxLen], by simp, by simp⟩⟩
theorem Mk.first {w : World} {M : Fz} {d q : Nat} (h : Src w M d q) (e sz : Nat) {X : World} (hX : w.alloc (.cells #[] e) = X) : Mk e sz w M d q 0 [] (.slice (some ⟨w.heap.size, 0, none⟩) 0 0) X M := by
  have bX : Below w.heap.size w X := by rw [← hX]; exact grp.more (Below.refl _ _) _
  refine ⟨by rw [← hX]; exact empty_row w e sz, h.below bX, Dr.of (h.below bX) (below_grown bX _), fun g hg => ?_, h.lt⟩
  obtain rfl : w.heap.size = g := by simpa [Value.ownBlock] using hg
  exact h.inn.fresh (Nat.le_refl _)
def BytesE (w : World) (M : Fz) (d q : Nat) (e : Ending) (w' : World) : Prop := ∃ (o : Option Addr) (l c : Nat) (ys : List Int) (M' : Fz), e = .returned (.slice o l c) ∧ BytesM M' (.slice o l c) ys ∧ ys.length ≤ 255 ∧ Src w' M' d q ∧ Dr w M d w' M'
def BI (w : World) (M : Fz) (d q k : Nat) (v : Value) (wr : World) : Prop := ∃ ys : List Int, Mk 5 1 w M d (q + 1 + k) k (u8s ys) v wr M ∧ ys.length = k ∧ ∀ y ∈ ys, 0 ≤ y ∧ y ≤ 255
theorem BI.fin {w wr : World} {M : Fz} {d q k : Nat} {so : Option Addr} {sn sc : Nat} (h : BI w M d q k (.slice so sn sc) wr) (hk : k ≤ 255) : BytesE w M d (q + 256) (.returned (.slice so sn sc)) wr := by
  obtain ⟨ys, hm, hl, hy⟩ := h
  obtain ⟨M2, q1, q2, q3, q4⟩ := hm.done
  refine ⟨so, sn, sc, ys, M2, rfl, ⟨by rw [hl]; exact q2, hy⟩, by omega, q3.more (by omega), q4⟩
theorem BI.step {w wr : World} {M : Fz} {d q k : Nat} {so : Option Addr} {sn sc : Nat} (h : BI w M d q k (.slice so sn sc) wr) (hq : q + k ≤ 100000000000) :
    Calls Try.prog 85 #[.pointer (some ⟨d, 0, none⟩), .int .i64 256] wr fun e w1 => ∃ (r : Int) (Y : World), e = .returned (.int .i64 r) ∧ (0 ≤ r ∧ r ≤ 255) ∧ w1.alloc (.cells #[.int .u8 r] 5) = Y ∧
      Hid (∃ zs, Y.ownsRow w.heap.size 5 1 (.slice so sn sc) k zs ∧ (∀ j u, ([.int .u8 r] : List Value)[j]? = some u → Y.cell? ((⟨w1.heap.size, 0, none⟩ : Addr).add j) = some u) ∧ w.heap.size ≤ Y.heap.size ∧
        ∀ g cap w', w'.ownsRow w.heap.size 5 1 (.slice (some ⟨g, 0, none⟩) (k + 1) cap) (k + 1) (zs ++ [.int .u8 r]) → Y.grownBy w' (Value.slice so sn sc).ownBlock → ((Value.slice so sn sc).ownBlock = some g ∨ g = Y.heap.size) → BI w M d q (k + 1) (.slice (some ⟨g, 0, none⟩) (k + 1) cap) w') := by
  obtain ⟨ys, hm, hl, hy⟩ := h
  refine (next_any wr M d _ 256 (by omega) hm.src (by omega)).mono ?_
  rintro e w1 ⟨r, rfl, ⟨r0, _, r1⟩, s1, g1⟩
  obtain ⟨Y, hY⟩ : ∃ Y, w1.alloc (.cells #[.int .u8 r] 5) = Y := ⟨_, rfl⟩
  have bY : Below w1.heap.size w1 Y := by rw [← hY]; exact more (Below.refl _ _) _
  have hB : Y.heap[w1.heap.size]? = some (.cells #[.int .u8 r] 5 (0, 0)) := by rw [← hY]; exact heap_alloc_new w1 _
  have hm1 := (hm.draw s1 (Dr.of s1 g1)).below bY
  refine ⟨r, Y, rfl, ⟨r0, r1⟩, hY, u8s ys, hm1.row, ?_, hm1.dr.grown.size, ?_⟩
  · intro j u hu
    rw [pile.add_at, Nat.zero_add]
    exact cell_of hB (by simpa using hu)
  · intro g cap w' p1 p2 p3
    refine ⟨ys ++ [r], (hm1.push (by simpa [u8s] using p1) p2 p3).more (by omega), by simp [hl], ?_⟩
    intro y hy'
    rcases List.mem_append.1 hy' with h' | h'
    · exact hy y h'
    · rw [List.mem_singleton.1 h']; exact ⟨r0, r1⟩
set_option maxRecDepth 20000 in
set_option maxHeartbeats 1000000 in
theorem bytes_any (w : World) (M : Fz) (d q : Nat) (h : Src w M d q) (hq : q ≤ 10000000000) (n : Int) (h0 : 0 ≤ n) (hn : n ≤ 254) :
    Calls Try.prog 124 #[.pointer (some ⟨d, 0, none⟩), .int .i64 n] w fun e w' => BytesE w M d (q + 256) e w' := by
  obtain ⟨X, hX⟩ : ∃ X, w.alloc (.cells #[] 5) = X := ⟨_, rfl⟩
  have hm := Mk.first h 5 1 hX
  have HN : Hid (∀ m : Int, m ≤ 255 → Calls Try.prog 85 #[.pointer (some ⟨d, 0, none⟩), .int .i64 m] X fun e w1 => ∃ r : Nat, e = .returned (.int .i64 (r : Int)) ∧ r ≤ 255 ∧ Hid (BI w M d q 0 (.slice (some ⟨w.heap.size, 0, none⟩) 0 0) w1)) := fun m hm9 => by
    refine (next_any X M d q m (by omega) hm.src (by omega)).mono ?_
    rintro e w1 ⟨r, rfl, ⟨r0, _, r1⟩, s1, g1⟩
    exact ⟨r.toNat, by rw [Int.toNat_of_nonneg r0], by omega, [], hm.draw s1 (Dr.of s1 g1), rfl, by simp⟩
  obtain ⟨i0, hii, hz0, hz1, hz2⟩ := info_parts info5
  have HI3 : Hid (Try.prog.info? 5 = some i0 ∧ i0.zero = some (.int .u8 0) ∧ i0.size = 1 ∧ i0.bytes = 1) := ⟨hii, hz0, hz1, hz2⟩
  clear hm h hii hz0 hz1 hz2
  go_enter Try.func124, Try.ntmps124
  go_wp2_with (go_at_call 85; refine (HN.out _ (by omega)).mono ?_; rintro e w1 ⟨r, rfl, hr, H1⟩)
  go_loopw [5, 6] (fun v i wr => ∃ (k j : Nat) (so : Option Addr) (sc : Nat), k + j = r ∧ v = .slice so k sc ∧ i = .int .i64 j ∧ Hid (BI w M d q k v wr)) (fun _ i _ => (intOf i).toNat)
  case atStart => exact ⟨0, r, _, _, by omega, rfl, rfl, H1⟩
  case round =>
    clear hX H1 HN
    obtain ⟨k, j, so, sc, hk, rfl, rfl, HR⟩ := hrel
    by_cases hlt : 0 < j
    · have hltI : (0 : Int) < j := by omega
      have HJ := hide (HR.out.step (by omega))
      go_wp2_with (first
        | (go_at_call 85; refine HJ.out.mono ?_; rintro e w2 ⟨b, Y, rfl, ⟨b0, b1⟩, hY, HE⟩; have hcv : b % 256 = b := (by omega))
        | (at_builtin; obtain ⟨ys, y1, y2, y3, y4⟩ := HE.out; refine wpList_append_lies _ rfl _ _ 22 rfl w.heap.size 5 i0 (.int .u8 0) 1 1 Try.underlying22 HI3.out.1 HI3.out.2.1 HI3.out.2.2.1 HI3.out.2.2.2 rfl (by decide) _ k ys rfl y1 ⟨w2.heap.size, 0, none⟩ 1 1 [.int .u8 b] rfl rfl y2 (fun u' hu' => by simp only [List.mem_cons, List.not_mem_nil, or_false] at hu'; rcases hu' with rfl; rfl) (by decide) (by unfold maxLen; omega) (by omega) y3 _ rfl ?_; intro g2 cap2 w3 z1 z2 z3 z4; have HN := hide (y4 g2 cap2 w3 z1 z2 z3); clear z1 z2 z3 z4 y1 y2 y3 y4))
      go_roundw
      case rel => exact ⟨k + 1, j - 1, _, _, by omega, rfl, by go_num, HN⟩
      case measure => simp [intOf]; omega
    · have hlt2 : ¬ (0 : Int) < j := by omega
      go_wp2
      go_ret
      exact HR.out.fin (by omega)
set_option maxHeartbeats 1000000 in
theorem pick_any (w : World) (M : Fz) (d q : Nat) (h : Src w M d q) (hq : q ≤ 10000000000) (b : Nat) (hbd : b ≠ d) (l : List ByteArray) (h1 : 1 ≤ l.length) (h2 : l.length ≤ 256) (hc : ∀ i s, l[i]? = some s → w.cell? ⟨b, i, none⟩ = some (.string s)) (cap : Nat) (hcap : l.length ≤ cap) :
    Calls Try.prog 89 #[.pointer (some ⟨d, 0, none⟩), .slice (some ⟨b, 0, none⟩) l.length cap] w fun e w' => ∃ s, e = .returned (.string s) ∧ s ∈ l ∧ Src w' M d (q + 1) ∧ w.grownBy w' (some d) := by
  have HN : Hid (Calls Try.prog 85 #[.pointer (some ⟨d, 0, none⟩), .int .i64 l.length] w fun e w1 => ∃ (r : Nat) (s : ByteArray), e = .returned (.int .i64 (r : Int)) ∧ (r : Int) < l.length ∧ w1.cell? ⟨b, r, none⟩ = some (.string s) ∧ Hid (s ∈ l ∧ Src w1 M d (q + 1) ∧ w.grownBy w1 (some d))) := by
    refine (next_any w M d q l.length (by omega) h (by omega)).mono ?_
    rintro e w1 ⟨r, rfl, ⟨r0, r2, r1⟩, s1, g1⟩
    have hlt : r.toNat < l.length := by omega
    have hs : l[r.toNat]? = some l[r.toNat] := List.getElem?_eq_getElem hlt
    have hcell := hc _ _ hs
    refine ⟨r.toNat, l[r.toNat], by rw [Int.toNat_of_nonneg r0], by omega, ?_, List.getElem_mem hlt, s1, g1⟩
    rw [World.cell?_of_block (g1.block b (World.block_lt_of_cell? w _ hcell) (fun e => hbd (by simpa using e)))]
    exact hcell
  obtain ⟨L, eL⟩ : ∃ L, l.length = L := ⟨_, rfl⟩
  rw [eL] at HN h1 h2 hcap ⊢
  have hne : (L : Int) ≠ 0 := by omega
  have hneb : ((L : Int) == 0) = false := by simp; omega
  clear h hc
  go_enter Try.func89, Try.ntmps89
  go_wp2_with (go_at_call 85; refine HN.out.mono ?_; rintro e w1 ⟨r, s, rfl, hr, hcl, H1⟩)
  go_ret
  exact ⟨s, rfl, H1.out⟩
end Go.Proofs.Ytklkglbimjajnaa.drb
namespace Go.Proofs.Ytklkglbimjajnaa.grant
open Raft mem grp Ytklkglbimjajnaa.look ndw
theorem Nod.below {w w' : World} {M : Fz} {O : Lb} {b k : Nat} {p : Peer} (st : Sta M O w) (h : Nod w M O b k p) (hb : Below w.heap.size w w') : Nod w' M O b k p := by
  obtain ⟨us, lv, vv, nv, mv, hn⟩ := h
  exact ⟨us, lv, vv, nv, mv, hn.keep (fun x hx => hb.block x (st.ok x _ hx).2) (Le.refl _) (fun _ hx => hx)⟩
theorem NDid.same {w w' : World} {M : Fz} {O : Lb} {b k : Nat} {p : Peer} (st : Sta M O w) (h : Nod w M O b k p) (hb : Below w.heap.size w w') : NDid M O w b k p w' :=
  ⟨M, O, (Aft.refl _ st).below hb, Nod.below st h hb⟩
def GrantE (w : World) (b frm term pt pv : Nat) (ahd : Bool) (r : Ending) (w' : World) : Prop :=
  (r = .returned (.bool true) ∧ term = pt ∧ (pv = 0 ∨ pv = frm + 1) ∧ ahd = true ∧ ∃ ob q, w' = (sets (w.alloc ob) b [(1, .int .i64 ((frm + 1 : Nat) : Int))]).drewN q) ∨
  (r = .returned (.bool false) ∧ ¬ (term = pt ∧ (pv = 0 ∨ pv = frm + 1) ∧ ahd = true) ∧ ∃ ob q, w' = (w.alloc ob).drewN q)
set_option maxHeartbeats 1600000 in
theorem grants_core (w : World) (b kind frm «to» term a b2 c2 pt pv : Nat) (ok ahd : Bool) (o : Option Addr) (n c : Nat) (hf : frm ≤ 1000)
    (c0 : ∀ ob, (w.alloc ob).cell? ⟨b, 0, none⟩ = some (.int .i64 pt)) (c1 : ∀ ob, (w.alloc ob).cell? ⟨b, 1, none⟩ = some (.int .i64 pv)) (f1 : ∀ ob, (w.alloc ob).frozen? ⟨b, 1, none⟩ = false)
    (HA : Hid (∀ ob q, Calls Try.prog 155 #[.pointer (some ⟨b, 0, none⟩), .int .i64 a, .int .i64 b2] ((w.alloc ob).drewN q) fun r w' => r = .returned (.bool ahd) ∧ w' = (w.alloc ob).drewN q)) :
    Calls Try.prog 143 #[.pointer (some ⟨b, 0, none⟩), .agg #[.int .i64 kind, .int .i64 frm, .int .i64 «to», .int .i64 term, .int .i64 a, .int .i64 b2, .int .i64 c2, .bool ok, .slice o n c]] w fun r w' => GrantE w b frm term pt pv ahd r w' := by
  have HV : Hid (∀ ob, Calls Try.prog 150 #[.int .i64 frm] (w.alloc ob) fun r w' => r = .returned (.int .i64 ((frm + 1 : Nat) : Int)) ∧ w' = w.alloc ob) := fun ob => voteFor_any _ frm hf
  by_cases h1 : term = pt
  · subst h1
    by_cases h2 : pv = 0
    · subst h2
      cases ahd
      · skip
        go_enter Try.func143, Try.ntmps143
        go_wp2_with (refine (HV.out _).mono ?_; rintro e w' ⟨rfl, rfl⟩)
        go_quiet (first | (go_at_call 155; refine Calls.quiet_of_same (HA.out _ _)))
        go_wp2
        go_ret
        exact .inr ⟨rfl, by simp, _, _, rfl⟩
      · skip
        go_enter Try.func143, Try.ntmps143
        go_wp2_with (refine (HV.out _).mono ?_; rintro e w' ⟨rfl, rfl⟩)
        go_quiet (first | (go_at_call 155; refine Calls.quiet_of_same (HA.out _ _)))
        go_wp2
        go_ret
        exact .inl ⟨rfl, rfl, .inl rfl, rfl, _, _, rfl⟩
    · by_cases h3 : pv = frm + 1
      · subst h3
        have e3 : ¬ ((frm : Int) + 1 = 0) := by omega
        cases ahd
        · skip
          go_enter Try.func143, Try.ntmps143
          go_wp2_with (refine (HV.out _).mono ?_; rintro e w' ⟨rfl, rfl⟩)
          go_quiet (first | (go_at_call 155; refine Calls.quiet_of_same (HA.out _ _)))
          go_wp2
          go_ret
          exact .inr ⟨rfl, by simp, _, _, rfl⟩
        · skip
          go_enter Try.func143, Try.ntmps143
          go_wp2_with (refine (HV.out _).mono ?_; rintro e w' ⟨rfl, rfl⟩)
          go_quiet (first | (go_at_call 155; refine Calls.quiet_of_same (HA.out _ _)))
          go_wp2
          go_ret
          exact .inl ⟨rfl, rfl, .inr rfl, rfl, _, _, rfl⟩
      · have e2 : ((pv : Int) == 0) = false := by simp; omega
        have e3 : ((pv : Int) == (frm : Int) + 1) = false := by simp; omega
        go_enter Try.func143, Try.ntmps143
        go_wp2_with (refine (HV.out _).mono ?_; rintro e w' ⟨rfl, rfl⟩)
        go_quiet (first | (go_at_call 155; refine Calls.quiet_of_same (HA.out _ _)))
        go_wp2
        go_ret
        exact .inr ⟨rfl, (fun h => by rcases h.2.1 with h | h <;> omega), _, _, rfl⟩
  · have e1 : ((term : Int) != (pt : Int)) = true := by simp; omega
    cases hd : ((pv : Int) == 0)
    · cases hd2 : ((pv : Int) == (frm : Int) + 1)
      · skip
        go_enter Try.func143, Try.ntmps143
        go_wp2_with (refine (HV.out _).mono ?_; rintro e w' ⟨rfl, rfl⟩)
        go_quiet (first | (go_at_call 155; refine Calls.quiet_of_same (HA.out _ _)))
        go_wp2
        go_ret
        exact .inr ⟨rfl, (fun h => h1 h.1), _, _, rfl⟩
      · skip
        go_enter Try.func143, Try.ntmps143
        go_wp2_with (refine (HV.out _).mono ?_; rintro e w' ⟨rfl, rfl⟩)
        go_quiet (first | (go_at_call 155; refine Calls.quiet_of_same (HA.out _ _)))
        go_wp2
        go_ret
        exact .inr ⟨rfl, (fun h => h1 h.1), _, _, rfl⟩
    · skip
      go_enter Try.func143, Try.ntmps143
      go_wp2_with (refine (HV.out _).mono ?_; rintro e w' ⟨rfl, rfl⟩)
      go_quiet (first | (go_at_call 155; refine Calls.quiet_of_same (HA.out _ _)))
      go_wp2
      go_ret
      exact .inr ⟨rfl, (fun h => h1 h.1), _, _, rfl⟩
theorem grants_any (w : World) (M : Fz) (O : Lb) (b k : Nat) (p : Peer) (st : Sta M O w) (h : Nod w M O b k p) (m : Msg) (o : Option Addr) (n c : Nat) (hf : m.frm ≤ 1000) :
    Calls Try.prog 143 #[.pointer (some ⟨b, 0, none⟩), .agg (msgA m (.slice o n c))] w fun r w' => r = .returned (.bool (okV p m)) ∧ NDid M O w b k (grantP p m.frm (okV p m)) w' := by
  have hal : ∀ ob, Below w.heap.size w (w.alloc ob) := fun ob => more (Below.refl _ _) _
  obtain ⟨us, lv, vv, nv, mv, hn⟩ := id h
  have hN : ∀ ob, Nd (w.alloc ob) M O b k p us lv vv nv mv := fun ob => hn.keep (fun x hx => (hal ob).block x (st.ok x _ hx).2) (Le.refl _) (fun _ hx => hx)
  refine (grants_core w b m.kind m.frm m.to m.term m.a m.b m.c p.term p.vote m.ok (decide (lastTerm p.log < m.b ∨ m.b = lastTerm p.log ∧ p.log.length ≤ m.a)) o n c hf (fun ob => (Nd.cs (hN ob)).1.1) (fun ob => (Nd.cs (hN ob)).1.2.1) (fun ob => (Nd.cs (hN ob)).2.2.1)
    (fun ob q => notAhead_any _ M O b k p (Nod.below (st.below (hal ob)) ⟨us, lv, vv, nv, mv, hN ob⟩ (drewN_below _ q)) m.a m.b)).mono ?_
  rintro r w' (⟨rfl, h1, h2, h3, ob, q, rfl⟩ | ⟨rfl, h1, ob, q, rfl⟩)
  · have e : okV p m = true := by unfold okV; simp only [decide_eq_true_eq] at h3 ⊢; exact ⟨h1, h2, h3⟩
    rw [e]
    refine ⟨rfl, NDid.below ?_ (drewN_below _ q)⟩
    obtain ⟨M', O', a, h4⟩ := NDid.sets (st.below (hal ob)) (hN ob) (Below.refl _ _) [(1, .int .i64 ((m.frm + 1 : Nat) : Int))] { p with vote := m.frm + 1 } vv nv mv rfl rfl (.inl ⟨rfl, rfl⟩) (.inl ⟨rfl, rfl⟩) (.inl ⟨rfl, rfl⟩)
    exact ⟨M', O', ((Aft.refl _ st).below (hal ob)).trans a, h4⟩
  · have e : okV p m = false := by
      unfold okV
      simp only [decide_eq_false_iff_not]
      simp only [decide_eq_true_eq] at h1
      exact h1
    rw [e]
    exact ⟨rfl, NDid.same st h ((hal ob).trans ((drewN_below _ q).mono (hal ob).size))⟩
end Go.Proofs.Ytklkglbimjajnaa.grant
namespace Go.Proofs.Ytklkglbimjajnaa.stand
open Raft mem grp Ytklkglbimjajnaa.look ndw grant
theorem info4 : (Try.prog.info? 4).map (fun i => (i.zero, i.size, i.bytes)) = some (some (.bool false), 1, 1) := by kernel_rfl
theorem info3 : (Try.prog.info? 3).map (fun i => (i.zero, i.size, i.bytes)) = some (some (.int .i64 0), 1, 8) := by kernel_rfl
theorem own_set {w : World} {base e : Nat} {g n cap : Nat} {xs : List Value} (h : w.ownsRow base e 1 (.slice (some ⟨g, 0, none⟩) n cap) n xs) (i : Nat) (v : Value) : (w.setCell ⟨g, i, none⟩ v).ownsRow base e 1 (.slice (some ⟨g, 0, none⟩) n cap) n (xs.set i v) := (World.ownsRow.stored h i v).1
theorem made_false (n : Nat) : (madeCells (Value.bool false).cells (n * 1)).toList = List.replicate n (.bool false) := by
  rw [Nat.mul_one]
  exact (toList_madeCells_one (.bool false) n).trans (by simp)
theorem made_zero (n : Nat) : (madeCells (Value.int .i64 0).cells (n * 1)).toList = List.replicate n (.int .i64 0) := by
  rw [Nat.mul_one]
  exact (toList_madeCells_one (.int .i64 0) n).trans (by simp)
def standP (p : Peer) (k n : Nat) : Peer := { p with term := p.term + 1, vote := k + 1, role := 1, votes := (List.replicate n false).set k true }
theorem stand_end {w w1 : World} {M : Fz} {O : Lb} {b k n : Nat} {p : Peer} {us : List RV} {lv vv nv mv : Value} (st : Sta M O w) (hn : Nd w M O b k p us lv vv nv mv) (hk : k < n) (W0 : World) (hW0 : W0 = sets w b [(0, .int .i64 ((p.term : Int) + 1)), (1, .int .i64 ((k : Int) + 1)), (6, .int .i64 1)])
    (hO : w1.ownsRow W0.heap.size 4 1 (.slice (some ⟨W0.heap.size, 0, none⟩) n n) n (List.replicate n (.bool false))) (hG : W0.grownBy w1 none) :
    NDid M O w b k (standP p k n) ((w1.setCell ⟨b, 7, none⟩ (.slice (some ⟨W0.heap.size, 0, none⟩) n n)).setCell ⟨W0.heap.size, k, none⟩ (.bool true)) := by
  have a0 : Aft (· = 3 + k) M O w M O W0 := by rw [hW0]; exact sets_aft (S := (· = 3 + k)) hn.own rfl _ (Aft.refl _ st)
  have a1 : Aft (· = 3 + k) M O w M O w1 := a0.grown hG (fun _ h => by cases h)
  have hsz : w.heap.size ≤ W0.heap.size := a0.size
  have hg1 := row_lt hO (g := W0.heap.size) rfl
  have hbl := (st.ok b _ hn.own).2
  have a2 := a1.label (b := W0.heap.size) (l := 3 + k) hsz hg1.2 (st.inn.fresh hsz) rfl
  have hbO : lab O W0.heap.size (3 + k) b = some (3 + k) := by rw [lab_ne O _ (by omega)]; exact hn.own
  have a3 := (a2.set hbO rfl 7 (.slice (some ⟨W0.heap.size, 0, none⟩) n n)).set (lab_at O W0.heap.size (3 + k)) rfl k (.bool true)
  refine ⟨M, _, a3, us, lv, .slice (some ⟨W0.heap.size, 0, none⟩) n n, nv, mv, ?_⟩
  have hbb : w1.heap[b]? = some (.cells #[.int .i64 ((p.term : Int) + 1), .int .i64 ((k : Int) + 1), lv, .int .i64 k, .bool p.up, .int .i64 p.commit, .int .i64 1, vv, nv, mv] 110 (0, 0)) := by
    rw [hG.block b (by omega) (by simp), hW0]
    exact sets_at _ hn.blk
  obtain ⟨n1, n2, n3, n4⟩ := hn.ne
  have hbk : ∀ x, x < w.heap.size → x ≠ b → ((w1.setCell ⟨b, 7, none⟩ (.slice (some ⟨W0.heap.size, 0, none⟩) n n)).setCell ⟨W0.heap.size, k, none⟩ (.bool true)).heap[x]? = w.heap[x]? := fun x hx hxb => by
    rw [Below.heap_setCell _ _ _ x (by show x ≠ W0.heap.size; omega), Below.heap_setCell _ _ _ x hxb, hG.block x (by omega) (by simp), hW0]
    exact sets_ne _ w hxb
  have hrow : ∀ {e sz : Nat} {v : Value} {m : Nat} {xs : List Value}, w.ownsRow 0 e sz v m xs → v.ownBlock ≠ some b → ((w1.setCell ⟨b, 7, none⟩ (.slice (some ⟨W0.heap.size, 0, none⟩) n n)).setCell ⟨W0.heap.size, k, none⟩ (.bool true)).ownsRow 0 e sz v m xs := fun h hne => row_kept h fun g hg => hbk g (row_lt h hg).2 (fun e => hne (e ▸ hg))
  refine ⟨?_, hbO, hrow hn.log n1, hn.recs, hn.data, ?_, hrow hn.next n3, hrow hn.mat n4, ?_, hn.apart⟩
  · have h7 := set_at hbb 7 (.slice (some ⟨W0.heap.size, 0, none⟩) n n) rfl
    have h8 : (((w1.setCell ⟨b, 7, none⟩ (.slice (some ⟨W0.heap.size, 0, none⟩) n n)).setCell ⟨W0.heap.size, k, none⟩ (.bool true)).heap[b]?) = ((w1.setCell ⟨b, 7, none⟩ (.slice (some ⟨W0.heap.size, 0, none⟩) n n)).heap[b]?) := Below.heap_setCell _ _ _ b (by show b ≠ W0.heap.size; omega)
    rw [h8, h7]
    simp [standP]
  · have h1 : (w1.setCell ⟨b, 7, none⟩ (.slice (some ⟨W0.heap.size, 0, none⟩) n n)).ownsRow W0.heap.size 4 1 (.slice (some ⟨W0.heap.size, 0, none⟩) n n) n (List.replicate n (.bool false)) := row_kept hO fun g hg => by
      simp only [Value.ownBlock, Option.some.injEq] at hg
      exact Below.heap_setCell _ _ _ g (by show g ≠ b; omega)
    have h2 := own_set h1 k (.bool true)
    obtain ⟨q1, q2⟩ := h2
    have e1 : (standP p k n).votes.length = n := by simp [standP]
    have e2 : (standP p k n).votes.map Value.bool = (List.replicate n (.bool false)).set k (.bool true) := by simp [standP, List.map_set]
    rw [e1, e2]
    refine ⟨q1, ?_⟩
    rcases q2 with q2 | ⟨g, cap, cur, r1, r2, r3⟩
    · exact .inl q2
    · exact .inr ⟨g, cap, cur, r1, Nat.zero_le _, r3⟩
  · intro v hv g hg
    simp only [List.mem_cons, List.not_mem_nil, or_false] at hv
    rcases hv with rfl | rfl | rfl | rfl
    · rw [lab_ne O _ (by have := (row_lt hn.log hg).2; omega)]; exact hn.lab _ (by simp) g hg
    · simp only [Value.ownBlock, Option.some.injEq] at hg
      subst hg; exact lab_at _ _ _
    · rw [lab_ne O _ (by have := (row_lt hn.next hg).2; omega)]; exact hn.lab _ (by simp) g hg
    · rw [lab_ne O _ (by have := (row_lt hn.mat hg).2; omega)]; exact hn.lab _ (by simp) g hg
set_option maxHeartbeats 1600000 in
theorem stand_any (w : World) (M : Fz) (O : Lb) (b k n : Nat) (p : Peer) (st : Sta M O w) (h : Nod w M O b k p) (hk : k < n) (hn7 : n ≤ 7) (hp : p.term < 1000000) :
    Calls Try.prog 135 #[.pointer (some ⟨b, 0, none⟩), .int .i64 n] w fun r w' => r = .returned (.tuple #[]) ∧ NDid M O w b k (standP p k n) w' := by
  obtain ⟨us, lv, vv, nv, mv, h⟩ := h
  obtain ⟨⟨c0, c1, c2, c3, c4, c5, c6, c7, c8, c9⟩, ⟨f0, f1, f2, f3, f4, f5, f6, f7, f8, f9⟩⟩ := Nd.cs h
  obtain ⟨i0, hi, hz0, hz1, hz2⟩ := info_parts info4
  have HI : Hid (Try.prog.info? 4 = some i0 ∧ i0.zero = some (.bool false) ∧ i0.size = 1 ∧ i0.bytes = 1) := ⟨hi, hz0, hz1, hz2⟩
  obtain ⟨W0, hW0⟩ : ∃ W0, (((w.setCell ⟨b, 0, none⟩ (.int .i64 ((p.term : Int) + 1))).setCell ⟨b, 1, none⟩ (.int .i64 ((k : Int) + 1))).setCell ⟨b, 6, none⟩ (.int .i64 1)) = W0 := ⟨_, rfl⟩
  have HV : Hid (∀ wx, Calls Try.prog 150 #[.int .i64 k] wx fun r w' => r = .returned (.int .i64 ((k : Int) + 1)) ∧ w' = wx) := fun wx => voteFor_any wx k (by omega)
  have HE : Hid (∀ w1, w1.ownsRow W0.heap.size 4 1 (.slice (some ⟨W0.heap.size, 0, none⟩) n n) n (List.replicate n (.bool false)) → W0.grownBy w1 none → NDid M O w b k (standP p k n) ((w1.setCell ⟨b, 7, none⟩ (.slice (some ⟨W0.heap.size, 0, none⟩) n n)).setCell ⟨W0.heap.size, k, none⟩ (.bool true))) := fun w1 h1 h2 => stand_end st h hk W0 hW0.symm h1 h2
  have hW0b : W0.heap[b]? = some (.cells #[.int .i64 ((p.term : Int) + 1), .int .i64 ((k : Int) + 1), lv, .int .i64 k, .bool p.up, .int .i64 p.commit, .int .i64 1, vv, nv, mv] 110 (0, 0)) := by
    rw [← hW0]
    exact sets_at [(0, .int .i64 ((p.term : Int) + 1)), (1, .int .i64 ((k : Int) + 1)), (6, .int .i64 1)] h.blk
  have hbl : b < W0.heap.size := (Array.getElem?_eq_some_iff.1 hW0b).1
  have HB : Hid (∀ w1, W0.grownBy w1 none → w1.heap[b]? = some (.cells #[.int .i64 ((p.term : Int) + 1), .int .i64 ((k : Int) + 1), lv, .int .i64 k, .bool p.up, .int .i64 p.commit, .int .i64 1, vv, nv, mv] 110 (0, 0))) := fun w1 hg => (hg.block b hbl (by simp)).trans hW0b
  have hpI : (p.term : Int) < 1000000 := by omega
  have hkI : (k : Int) < n := by omega
  have hne : ¬ (b = W0.heap.size) := by omega
  have hne2 : ¬ (W0.heap.size = b) := by omega
  clear hi hz0 hz1 hz2 hW0b h st hbl
  go_enter Try.func135, Try.ntmps135
  go_wp2_with (first
    | (at_make; refine wpList_make_full _ rfl _ _ 34 rfl W0.heap.size 4 i0 (.bool false) 1 Try.underlying34 HI.out.1 HI.out.2.1 HI.out.2.2.1 .i64 .i64 _ _ n rfl rfl rfl rfl (by rw [HI.out.2.2.2]; omega) (by unfold maxLen; omega) (Nat.le_refl _) ?_
       intro w1 hown1 hgrow1
       have hb1 := HB.out w1 hgrow1
       have t7 := cell_of (i := 7) hb1 (v := vv) rfl
       have t3 := cell_of (i := 3) hb1 (v := .int .i64 k) rfl
       have g7 := frozen_of hb1 7
       rw [made_false] at hown1
       have HO1 := hide hown1
       have HG1 := hide hgrow1
       clear hown1 hgrow1 hb1)
    | (go_at_call 150; refine (HV.out _).mono ?_; rintro e w' ⟨rfl, rfl⟩))
  have hbx : w1.heap[b]? = _ := HB.out w1 HG1.out
  have hO2 : (w1.setCell ⟨b, 7, none⟩ (.slice (some ⟨W0.heap.size, 0, none⟩) n n)).ownsRow W0.heap.size 4 1 (.slice (some ⟨W0.heap.size, 0, none⟩) n n) n (List.replicate n (.bool false)) := row_kept HO1.out fun g hg => by
    simp only [Value.ownBlock, Option.some.injEq] at hg
    exact Below.heap_setCell _ _ _ g (by show g ≠ b; omega)
  obtain ⟨w2, hw2⟩ : ∃ w2, w1.setCell ⟨b, 7, none⟩ (.slice (some ⟨W0.heap.size, 0, none⟩) n n) = w2 := ⟨_, rfl⟩
  have hF := HE.out w1 HO1.out HG1.out
  have hb2 := set_at hbx 7 (.slice (some ⟨W0.heap.size, 0, none⟩) n n) rfl
  rw [hw2] at hO2 hF hb2 ⊢
  have HF := hide hF
  have u7 := cell_of (i := 7) hb2 (v := .slice (some ⟨W0.heap.size, 0, none⟩) n n) rfl
  have u3 := cell_of (i := 3) hb2 (v := .int .i64 k) rfl
  obtain ⟨g', cap', e', _, _, hc', hf'⟩ := own_at hO2 (by omega)
  simp only [Value.slice.injEq, Option.some.injEq, Addr.mk.injEq] at e'
  have eg : g' = W0.heap.size := e'.1.1.symm
  subst eg
  clear e'
  have u8 := hc' k (.bool false) (by rw [List.getElem?_replicate, if_pos hk])
  have u9 := hf' k
  clear hw2 hF hb2 hO2 hbx hc' hf' HO1 HG1 HE HB hW0 hne hne2
  generalize W0.heap.size = Z at *
  go_region_law (fail)
  all_goals
    go_wp2
    go_end0
    exact ⟨rfl, HF.out.drew⟩
end Go.Proofs.Ytklkglbimjajnaa.stand
namespace Go.Proofs.Ytklkglbimjajnaa.rows2
open Raft mem grp Ytklkglbimjajnaa.look ndw grant stand
section
variable {w : World} {M : Fz} {O : Lb} {b k : Nat} {p : Peer} {us : List RV} {lv vv nv mv : Value}
theorem rowt {w : World} {base e sz : Nat} {v : Value} {n : Nat} {xs : List Value} (h : w.ownsRow base e sz v n xs) {g : Nat} (hg : v.ownBlock = some g) : ∃ cur, w.heap[g]? = some (.cells cur e (0, 0)) := by
  obtain ⟨h1, ⟨rfl, _⟩ | ⟨g', cap, cur, rfl, hb, hh, _⟩⟩ := h
  · simp [Value.ownBlock] at hg
  · simp only [Value.ownBlock, Option.some.injEq] at hg
    subst hg
    exact ⟨cur, hh⟩
theorem setv_keep {w : World} {g i : Nat} {v : Value} (x : Nat) (h : x ≠ g) : (w.setCell ⟨g, i, none⟩ v).heap[x]? = w.heap[x]? := Below.heap_setCell w ⟨g, i, none⟩ v x h
theorem NDid.setVotes (st : Sta M O w) {g n c : Nat} (h : Nd w M O b k p us lv (.slice (some ⟨g, 0, none⟩) n c) nv mv) (i : Nat) (x : Bool) : NDid M O w b k { p with votes := p.votes.set i x } (w.setCell ⟨g, i, none⟩ (.bool x)) := by
  have hO : O g = some (3 + k) := h.lab (.slice (some ⟨g, 0, none⟩) n c) (by simp) g rfl
  obtain ⟨cur, hg⟩ := rowt h.votes (g := g) rfl
  obtain ⟨n1, n2, n3, n4⟩ := h.ne
  have hgb : g ≠ b := fun e => n2 (by rw [e]; rfl)
  refine ⟨M, O, (Aft.refl (· = 3 + k) st).set hO rfl i (.bool x), us, lv, .slice (some ⟨g, 0, none⟩) n c, nv, mv, ?_⟩
  have hn : n = p.votes.length := by have := (own_cap h.votes).1; exact this
  have e1 : (w.setCell ⟨g, i, none⟩ (.bool x)).ownsRow 0 4 1 (.slice (some ⟨g, 0, none⟩) n c) (p.votes.set i x).length ((p.votes.set i x).map Value.bool) := by
    rw [List.length_set, List.map_set]
    have h2 := h.votes
    rw [← hn] at h2 ⊢
    exact own_set h2 i (.bool x)
  exact { blk := (setv_keep b (Ne.symm hgb)).trans h.blk, own := h.own, log := row_kept h.log fun y hy => setv_keep y (fun e => type_ne h.log hg (by decide) (e ▸ hy)), recs := h.recs, data := h.data, votes := e1, next := row_kept h.next fun y hy => setv_keep y (fun e => type_ne h.next hg (by decide) (e ▸ hy)), mat := row_kept h.mat fun y hy => setv_keep y (fun e => type_ne h.mat hg (by decide) (e ▸ hy)), lab := h.lab, apart := h.apart }
theorem NDid.setNext (st : Sta M O w) {g n c : Nat} (h : Nd w M O b k p us lv vv (.slice (some ⟨g, 0, none⟩) n c) mv) (i x : Nat) : NDid M O w b k { p with next := p.next.set i x } (w.setCell ⟨g, i, none⟩ (.int .i64 x)) := by
  have hO : O g = some (3 + k) := h.lab (.slice (some ⟨g, 0, none⟩) n c) (by simp) g rfl
  obtain ⟨cur, hg⟩ := rowt h.next (g := g) rfl
  obtain ⟨n1, n2, n3, n4⟩ := h.ne
  have hgb : g ≠ b := fun e => n3 (by rw [e]; rfl)
  refine ⟨M, O, (Aft.refl (· = 3 + k) st).set hO rfl i (.int .i64 x), us, lv, vv, .slice (some ⟨g, 0, none⟩) n c, mv, ?_⟩
  have hn : n = p.next.length := by have := (own_cap h.next).1; exact this
  have e1 : (w.setCell ⟨g, i, none⟩ (.int .i64 x)).ownsRow 0 3 1 (.slice (some ⟨g, 0, none⟩) n c) (p.next.set i x).length ((p.next.set i x).map fun (n : Nat) => Value.int .i64 (n : Int)) := by
    rw [List.length_set, List.map_set]
    have h2 := h.next
    rw [← hn] at h2 ⊢
    exact own_set h2 i (.int .i64 x)
  exact { blk := (setv_keep b (Ne.symm hgb)).trans h.blk, own := h.own, log := row_kept h.log fun y hy => setv_keep y (fun e => type_ne h.log hg (by decide) (e ▸ hy)), recs := h.recs, data := h.data, votes := row_kept h.votes fun y hy => setv_keep y (fun e => type_ne h.votes hg (by decide) (e ▸ hy)), next := e1, mat := row_kept h.mat fun y hy => setv_keep y (fun e => h.apart g rfl (e ▸ hy)), lab := h.lab, apart := h.apart }
theorem NDid.setMat (st : Sta M O w) {g n c : Nat} (h : Nd w M O b k p us lv vv nv (.slice (some ⟨g, 0, none⟩) n c)) (i x : Nat) : NDid M O w b k { p with mat := p.mat.set i x } (w.setCell ⟨g, i, none⟩ (.int .i64 x)) := by
  have hO : O g = some (3 + k) := h.lab (.slice (some ⟨g, 0, none⟩) n c) (by simp) g rfl
  obtain ⟨cur, hg⟩ := rowt h.mat (g := g) rfl
  obtain ⟨n1, n2, n3, n4⟩ := h.ne
  have hgb : g ≠ b := fun e => n4 (by rw [e]; rfl)
  refine ⟨M, O, (Aft.refl (· = 3 + k) st).set hO rfl i (.int .i64 x), us, lv, vv, nv, .slice (some ⟨g, 0, none⟩) n c, ?_⟩
  have hn : n = p.mat.length := by have := (own_cap h.mat).1; exact this
  have e1 : (w.setCell ⟨g, i, none⟩ (.int .i64 x)).ownsRow 0 3 1 (.slice (some ⟨g, 0, none⟩) n c) (p.mat.set i x).length ((p.mat.set i x).map fun (n : Nat) => Value.int .i64 (n : Int)) := by
    rw [List.length_set, List.map_set]
    have h2 := h.mat
    rw [← hn] at h2 ⊢
    exact own_set h2 i (.int .i64 x)
  exact { blk := (setv_keep b (Ne.symm hgb)).trans h.blk, own := h.own, log := row_kept h.log fun y hy => setv_keep y (fun e => type_ne h.log hg (by decide) (e ▸ hy)), recs := h.recs, data := h.data, votes := row_kept h.votes fun y hy => setv_keep y (fun e => type_ne h.votes hg (by decide) (e ▸ hy)), next := row_kept h.next fun y hy => setv_keep y (fun e => h.apart y hy (by rw [e]; rfl)), mat := e1, lab := h.lab, apart := h.apart }
end
theorem own_base {w : World} {base e sz : Nat} {v : Value} {n : Nat} {xs : List Value} (h : w.ownsRow base e sz v n xs) : w.ownsRow 0 e sz v n xs := by
  obtain ⟨h1, h2 | ⟨g, cap, cur, r1, r2, r3⟩⟩ := h
  · exact ⟨h1, .inl h2⟩
  · exact ⟨h1, .inr ⟨g, cap, cur, r1, Nat.zero_le _, r3⟩⟩
end Go.Proofs.Ytklkglbimjajnaa.rows2
namespace Go.Proofs.Ytklkglbimjajnaa.clone
open Raft mem grp Ytklkglbimjajnaa.look ndw grant stand rows2
theorem info35 : (Try.prog.info? 38).map (fun i => (i.zero, i.size, i.bytes)) = some (some (.agg #[.int .i64 0, .int .i64 0, .slice none 0 0]), 3, 40) := by kernel_rfl
theorem litE {w : World} {k base e sz : Nat} (h : w.heap[k]? = some (.cells #[] e (0, 0))) (hb : base ≤ k) : w.ownsRow base e sz (.slice (some ⟨k, 0, none⟩) 0 0) 0 [] :=
  ⟨by simp, .inr ⟨k, 0, #[], rfl, hb, h, Nat.le_refl _, by simp [maxLen], by simp, by simp⟩⟩
def CloneE (w : World) (e sz m : Nat) (news : List Value) (r : Ending) (w' : World) : Prop := ∃ v, r = .returned v ∧ w'.ownsRow w.heap.size e sz v m news ∧ Below w.heap.size w w'
theorem nil28 (W : World) : Sem.run Try.prog (binOp .eql 28 (.slice none 0 0) (.slice none 0 0)) W = .ok (.bool true) W := by kernel_rfl
theorem some28 (ad : Addr) (n c : Nat) (W : World) : Sem.run Try.prog (binOp .eql 28 (.slice (some ad) n c) (.slice none 0 0)) W = .ok (.bool false) W := by kernel_rfl
theorem clone_recs_nil (w : World) : Calls Try.prog 156 #[.slice none 0 0] w fun r w' => CloneE w 38 3 0 [] r w' := by
  have HE : Hid (CloneE w 38 3 0 [] (.returned (.slice none 0 0)) w) := ⟨_, rfl, World.ownsRow_nil _ _ _ _, Below.refl _ _⟩
  have hq := nil28
  go_enter Try.func156, Try.ntmps156
  go_wp2
  go_ret
  exact HE.out
set_option maxHeartbeats 800000 in
theorem clone_recs (w : World) (ad : Addr) (m c : Nat) (news : List Value) (hl : news.length = m * 3) (hnews : ∀ j u, news[j]? = some u → w.cell? (ad.add j) = some u) (h1 : ∀ u ∈ news, u.oneCell' = true) (hm : m ≤ 1000) :
    Calls Try.prog 156 #[.slice (some ad) m c] w fun r w' => CloneE w 38 3 m news r w' := by
  obtain ⟨i0, hi, hz0, hz1, hz2⟩ := info_parts info35
  have HI : Hid (Try.prog.info? 38 = some i0 ∧ i0.zero = some (.agg #[.int .i64 0, .int .i64 0, .slice none 0 0]) ∧ i0.size = 3 ∧ i0.bytes = 40) := ⟨hi, hz0, hz1, hz2⟩
  obtain ⟨W, hW⟩ : ∃ W, w.alloc (.cells #[] 38) = W := ⟨_, rfl⟩
  have bW : Below w.heap.size w W := by rw [← hW]; exact more (Below.refl _ _) _
  have hbx : W.heap[w.heap.size]? = some (.cells #[] 38 (0, 0)) := by rw [← hW]; exact heap_alloc_new w _
  have HO : Hid (W.ownsRow w.heap.size 38 3 (.slice (some ⟨w.heap.size, 0, none⟩) 0 0) 0 []) := litE hbx (Nat.le_refl _)
  have HN : Hid (∀ j u, news[j]? = some u → W.cell? (ad.add j) = some u) := fun j u hu => by
    have h2 := hnews j u hu
    have hlt : (ad.add j).block < w.heap.size := World.block_lt_of_cell? w _ h2
    rw [World.cell?_of_block (bW.block _ hlt)]
    exact h2
  have H1 := hide h1
  have HL := hide hl
  have HM := hide hm
  have HS : Hid (w.heap.size ≤ W.heap.size) := bW.size
  have HF : Hid (∀ v w', w'.ownsRow w.heap.size 38 3 v (0 + m) ([] ++ news) → W.grownBy w' (some w.heap.size) → CloneE w 38 3 m news (.returned v) w') := fun v w' q1 q2 => by
    rw [Nat.zero_add, List.nil_append] at q1
    exact ⟨v, rfl, q1, bW.grown q2 bW.size (fun k hk => by simp only [Option.some.injEq] at hk; omega)⟩
  clear hi hz0 hz1 hz2 bW hbx hnews h1 hl
  have hq := some28 ad m c
  go_enter Try.func156, Try.ntmps156
  go_wp2_with (at_builtin; refine wpList_append_own _ rfl _ _ 28 rfl w.heap.size 38 i0 (.agg #[.int .i64 0, .int .i64 0, .slice none 0 0]) 3 40 Try.underlying28 HI.out.1 HI.out.2.1 HI.out.2.2.1 HI.out.2.2.2 rfl (by decide) _ 0 [] rfl HO.out ad m c news rfl HL.out HN.out H1.out (by unfold maxLen; have := HM.out; omega) (by have := HM.out; omega) HS.out ?_; intro v w' q1 q2 _; have HC := hide (HF.out v w' q1 q2); clear q1 q2)
  go_ret
  exact HC.out
theorem nil55 (W : World) : Sem.run Try.prog (binOp .eql 34 (.slice none 0 0) (.slice none 0 0)) W = .ok (.bool true) W := by kernel_rfl
theorem some55 (ad : Addr) (n c : Nat) (W : World) : Sem.run Try.prog (binOp .eql 34 (.slice (some ad) n c) (.slice none 0 0)) W = .ok (.bool false) W := by kernel_rfl
theorem clone_bools_nil (w : World) : Calls Try.prog 98 #[.slice none 0 0] w fun r w' => CloneE w 4 1 0 [] r w' := by
  have HE : Hid (CloneE w 4 1 0 [] (.returned (.slice none 0 0)) w) := ⟨_, rfl, World.ownsRow_nil _ _ _ _, Below.refl _ _⟩
  have hq := nil55
  go_enter Try.func98, Try.ntmps98
  go_wp2
  go_ret
  exact HE.out
set_option maxHeartbeats 800000 in
theorem clone_bools (w : World) (ad : Addr) (m c : Nat) (news : List Value) (hl : news.length = m * 1) (hnews : ∀ j u, news[j]? = some u → w.cell? (ad.add j) = some u) (h1 : ∀ u ∈ news, u.oneCell' = true) (hm : m ≤ 1000) :
    Calls Try.prog 98 #[.slice (some ad) m c] w fun r w' => CloneE w 4 1 m news r w' := by
  obtain ⟨i0, hi, hz0, hz1, hz2⟩ := info_parts info4
  have HI : Hid (Try.prog.info? 4 = some i0 ∧ i0.zero = some (.bool false) ∧ i0.size = 1 ∧ i0.bytes = 1) := ⟨hi, hz0, hz1, hz2⟩
  obtain ⟨W, hW⟩ : ∃ W, w.alloc (.cells #[] 4) = W := ⟨_, rfl⟩
  have bW : Below w.heap.size w W := by rw [← hW]; exact more (Below.refl _ _) _
  have hbx : W.heap[w.heap.size]? = some (.cells #[] 4 (0, 0)) := by rw [← hW]; exact heap_alloc_new w _
  have HO : Hid (W.ownsRow w.heap.size 4 1 (.slice (some ⟨w.heap.size, 0, none⟩) 0 0) 0 []) := litE hbx (Nat.le_refl _)
  have HN : Hid (∀ j u, news[j]? = some u → W.cell? (ad.add j) = some u) := fun j u hu => by
    have h2 := hnews j u hu
    have hlt : (ad.add j).block < w.heap.size := World.block_lt_of_cell? w _ h2
    rw [World.cell?_of_block (bW.block _ hlt)]
    exact h2
  have H1 := hide h1
  have HL := hide hl
  have HM := hide hm
  have HS : Hid (w.heap.size ≤ W.heap.size) := bW.size
  have HF : Hid (∀ v w', w'.ownsRow w.heap.size 4 1 v (0 + m) ([] ++ news) → W.grownBy w' (some w.heap.size) → CloneE w 4 1 m news (.returned v) w') := fun v w' q1 q2 => by
    rw [Nat.zero_add, List.nil_append] at q1
    exact ⟨v, rfl, q1, bW.grown q2 bW.size (fun k hk => by simp only [Option.some.injEq] at hk; omega)⟩
  clear hi hz0 hz1 hz2 bW hbx hnews h1 hl
  have hq := some55 ad m c
  go_enter Try.func98, Try.ntmps98
  go_wp2_with (at_builtin; refine wpList_append_own _ rfl _ _ 34 rfl w.heap.size 4 i0 (.bool false) 1 1 Try.underlying34 HI.out.1 HI.out.2.1 HI.out.2.2.1 HI.out.2.2.2 rfl (by decide) _ 0 [] rfl HO.out ad m c news rfl HL.out HN.out H1.out (by unfold maxLen; have := HM.out; omega) (by have := HM.out; omega) HS.out ?_; intro v w' q1 q2 _; have HC := hide (HF.out v w' q1 q2); clear q1 q2)
  go_ret
  exact HC.out
theorem nil31 (W : World) : Sem.run Try.prog (binOp .eql 31 (.slice none 0 0) (.slice none 0 0)) W = .ok (.bool true) W := by kernel_rfl
theorem some31 (ad : Addr) (n c : Nat) (W : World) : Sem.run Try.prog (binOp .eql 31 (.slice (some ad) n c) (.slice none 0 0)) W = .ok (.bool false) W := by kernel_rfl
theorem clone_ints_nil (w : World) : Calls Try.prog 99 #[.slice none 0 0] w fun r w' => CloneE w 3 1 0 [] r w' := by
  have HE : Hid (CloneE w 3 1 0 [] (.returned (.slice none 0 0)) w) := ⟨_, rfl, World.ownsRow_nil _ _ _ _, Below.refl _ _⟩
  have hq := nil31
  go_enter Try.func99, Try.ntmps99
  go_wp2
  go_ret
  exact HE.out
set_option maxHeartbeats 800000 in
theorem clone_ints (w : World) (ad : Addr) (m c : Nat) (news : List Value) (hl : news.length = m * 1) (hnews : ∀ j u, news[j]? = some u → w.cell? (ad.add j) = some u) (h1 : ∀ u ∈ news, u.oneCell' = true) (hm : m ≤ 1000) :
    Calls Try.prog 99 #[.slice (some ad) m c] w fun r w' => CloneE w 3 1 m news r w' := by
  obtain ⟨i0, hi, hz0, hz1, hz2⟩ := info_parts info3
  have HI : Hid (Try.prog.info? 3 = some i0 ∧ i0.zero = some (.int .i64 0) ∧ i0.size = 1 ∧ i0.bytes = 8) := ⟨hi, hz0, hz1, hz2⟩
  obtain ⟨W, hW⟩ : ∃ W, w.alloc (.cells #[] 3) = W := ⟨_, rfl⟩
  have bW : Below w.heap.size w W := by rw [← hW]; exact more (Below.refl _ _) _
  have hbx : W.heap[w.heap.size]? = some (.cells #[] 3 (0, 0)) := by rw [← hW]; exact heap_alloc_new w _
  have HO : Hid (W.ownsRow w.heap.size 3 1 (.slice (some ⟨w.heap.size, 0, none⟩) 0 0) 0 []) := litE hbx (Nat.le_refl _)
  have HN : Hid (∀ j u, news[j]? = some u → W.cell? (ad.add j) = some u) := fun j u hu => by
    have h2 := hnews j u hu
    have hlt : (ad.add j).block < w.heap.size := World.block_lt_of_cell? w _ h2
    rw [World.cell?_of_block (bW.block _ hlt)]
    exact h2
  have H1 := hide h1
  have HL := hide hl
  have HM := hide hm
  have HS : Hid (w.heap.size ≤ W.heap.size) := bW.size
  have HF : Hid (∀ v w', w'.ownsRow w.heap.size 3 1 v (0 + m) ([] ++ news) → W.grownBy w' (some w.heap.size) → CloneE w 3 1 m news (.returned v) w') := fun v w' q1 q2 => by
    rw [Nat.zero_add, List.nil_append] at q1
    exact ⟨v, rfl, q1, bW.grown q2 bW.size (fun k hk => by simp only [Option.some.injEq] at hk; omega)⟩
  clear hi hz0 hz1 hz2 bW hbx hnews h1 hl
  have hq := some31 ad m c
  go_enter Try.func99, Try.ntmps99
  go_wp2_with (at_builtin; refine wpList_append_own _ rfl _ _ 31 rfl w.heap.size 3 i0 (.int .i64 0) 1 8 Try.underlying31 HI.out.1 HI.out.2.1 HI.out.2.2.1 HI.out.2.2.2 rfl (by decide) _ 0 [] rfl HO.out ad m c news rfl HL.out HN.out H1.out (by unfold maxLen; have := HM.out; omega) (by have := HM.out; omega) HS.out ?_; intro v w' q1 q2 _; have HC := hide (HF.out v w' q1 q2); clear q1 q2)
  go_ret
  exact HC.out
end Go.Proofs.Ytklkglbimjajnaa.clone
namespace Go.Proofs.Ytklkglbimjajnaa.behind
open Raft mem grp Ytklkglbimjajnaa.look ndw grant stand rows2 clone
def BehE (w : World) (M : Fz) (l : List Rc) (r : Ending) (w' : World) : Prop :=
  ∃ (M' : Fz) (o : Option Addr) (n lc : Nat), r = .returned (.slice o n lc) ∧ Le M M' ∧ In M' w' ∧ RecsM M' (.slice o n lc) l ∧ Below w.heap.size w w' ∧ ∀ b, M' b ≠ none → M b ≠ none ∨ w.heap.size ≤ b
theorem flat_drop (us : List RV) (i : Nat) : (us.flatMap recCells).drop (i * 3) = (us.drop i).flatMap recCells := by
  induction us generalizing i with
  | nil => simp
  | cons x us ih =>
    cases i with
    | zero => simp
    | succ i =>
      rw [List.drop_succ_cons, List.flatMap_cons, Nat.succ_mul, Nat.add_comm (i * 3) 3, ← List.drop_drop]
      have : (recCells x ++ us.flatMap recCells).drop 3 = us.flatMap recCells := by simp [recCells]
      rw [this, ih]
theorem beh_of {w w' : World} {M : Fz} {us : List RV} {m : Nat} (hI : In M w) (hm : us.length = m) (hd : ∀ x ∈ us, BytesM M x.dv x.r.data ∧ x.r.data.length ≤ 1000) {r : Ending} (h : CloneE w 38 3 m (us.flatMap recCells) r w') : BehE w M (us.map (·.r)) r w' := by
  obtain ⟨v, rfl, hO, hb⟩ := h
  obtain ⟨M', h1, h2, h3, h4⟩ := RowM.freeze hO (hI.below hb) (fun g hg => hI.fresh (row_lt hO hg).1)
  obtain ⟨o, c, rfl⟩ := own_slice hO
  subst hm
  exact ⟨M', o, _, c, rfl, h1, h2, ⟨us, rfl, h3, fun x hx => ⟨(hd x hx).1.le h1, (hd x hx).2⟩⟩, hb, fun b hb' => by
    rcases h4 b hb' with h5 | h5
    · exact .inl h5
    · exact .inr (row_lt hO h5).1⟩
theorem rec_ones {M : Fz} (us : List RV) (h : ∀ x ∈ us, BytesM M x.dv x.r.data ∧ x.r.data.length ≤ 1000) : ∀ y ∈ us.flatMap recCells, y.oneCell' = true := by
  intro y hy
  obtain ⟨x, hx, hy⟩ := List.mem_flatMap.1 hy
  obtain ⟨⟨⟨ao, cap, e, _⟩, _⟩, _⟩ := h x hx
  simp only [recCells, List.mem_cons, List.not_mem_nil, or_false] at hy
  rcases hy with rfl | rfl | rfl
  · rfl
  · rfl
  · rw [e]; rfl
set_option maxHeartbeats 800000 in
theorem behind_any (w : World) (M : Fz) (O : Lb) (b k : Nat) (p : Peer) (st : Sta M O w) (h : Nod w M O b k p) (i : Nat) (hi : i ≤ p.log.length) (hl : p.log.length ≤ 1000) :
    Calls Try.prog 149 #[.pointer (some ⟨b, 0, none⟩), .int .i64 i] w fun r w' => BehE w M (p.log.drop i) r w' := by
  obtain ⟨us, lv, vv, nv, mv, h⟩ := h
  have hlen : us.length = p.log.length := by rw [← h.recs]; simp
  obtain ⟨⟨_, _, c2, _⟩, _⟩ := Nd.cs h
  have hrow := h.log
  have hdm : p.log.drop i = (us.drop i).map (·.r) := by rw [← h.recs, List.map_drop]
  have hdd : ∀ x ∈ us.drop i, BytesM M x.dv x.r.data ∧ x.r.data.length ≤ 1000 := fun x hx => h.data x (List.mem_of_mem_drop hx)
  rw [hdm]
  rcases hrow with ⟨h1, ⟨rfl, e0⟩ | ⟨g, cap, cur, rfl, hb0, hh, hc, hm, hs, ht⟩⟩
  · have e1 : us = [] := List.length_eq_zero_iff.1 e0
    subst e1
    obtain rfl : i = 0 := by simp at hlen; omega
    have HC : Hid (Calls Try.prog 156 #[.slice none 0 0] w fun r w' => BehE w M ([] : List Rc) r w') := by
      refine (clone_recs_nil w).mono ?_
      intro r w' h5
      exact beh_of (us := []) st.inn rfl (by simp) h5
    clear h hdd hdm
    go_enter Try.func149, Try.ntmps149
    go_wp2_with (go_at_call 156; refine HC.out.mono ?_; rintro rr w' ⟨M', o, n, lc, rfl, q1, q2, q3, q4, q5⟩; have HQ : Hid (BehE w M ([] : List Rc) (.returned (.slice o n lc)) w') := ⟨M', o, n, lc, rfl, q1, q2, q3, q4, q5⟩; clear q1 q2 q3 q4 q5)
    go_ret
    exact HQ.out
  · have hcells : ∀ j u, (us.flatMap recCells)[j]? = some u → w.cell? ⟨g, j, none⟩ = some u := fun j u hu => by
      refine cell_of hh ?_
      have hj : j < us.length * 3 := by rw [← h1]; exact (List.getElem?_eq_some_iff.1 hu).1
      rw [← ht, List.getElem?_take_of_lt hj] at hu
      simpa using hu
    have hdl : (us.drop i).length = us.length - i := by simp
    have hfl : ((us.drop i).flatMap recCells).length = (us.length - i) * 3 := by rw [flat_len recCells 3 recCells_len, hdl]
    unfold maxLen at hm
    by_cases hci : cap = i
    · subst hci
      have hL : us.length = cap := by omega
      have hnil : us.drop cap = [] := List.drop_eq_nil_of_le (by omega)
      rw [hnil]
      have HC : Hid (Calls Try.prog 156 #[.slice (some ⟨g, 0, none⟩) 0 0] w fun r w' => BehE w M ([] : List Rc) r w') := by
        refine (clone_recs w ⟨g, 0, none⟩ 0 0 [] rfl (by simp) (by simp) (by omega)).mono ?_
        intro r w' h5
        exact beh_of (us := []) st.inn rfl (by simp) h5
      rw [hL] at c2
      clear h hdd hdm hcells hh ht hs hnil hfl hdl hL h1
      go_enter Try.func149, Try.ntmps149
      go_wp2_with (go_at_call 156; refine HC.out.mono ?_; rintro rr w' ⟨M', o, n, lc, rfl, q1, q2, q3, q4, q5⟩; have HQ : Hid (BehE w M ([] : List Rc) (.returned (.slice o n lc)) w') := ⟨M', o, n, lc, rfl, q1, q2, q3, q4, q5⟩; clear q1 q2 q3 q4 q5)
      go_ret
      exact HQ.out
    · have HC : Hid (Calls Try.prog 156 #[.slice (some ⟨g, i * 3, none⟩) (us.length - i) (cap - i)] w fun r w' => BehE w M ((us.drop i).map (·.r)) r w') := by
        refine (clone_recs w ⟨g, i * 3, none⟩ (us.length - i) (cap - i) ((us.drop i).flatMap recCells) hfl (fun j u hu => ?_) (rec_ones _ hdd) (by omega)).mono ?_
        · rw [addr_add]
          rw [← flat_drop, List.getElem?_drop] at hu
          exact hcells _ u hu
        · intro r w' h5
          exact beh_of st.inn hdl hdd h5
      have hiI : (i : Int) ≤ us.length := by omega
      have hcI : ¬ (cap = i) := hci
      generalize us.length = L at *
      have hL1 : L ≤ 1000 := by omega
      clear h hdd hdm hcells hh ht hs hfl hdl h1 hlen hi hl
      go_enter Try.func149, Try.ntmps149
      go_wp2_with (go_at_call 156; refine HC.out.mono ?_; rintro rr w' ⟨M', o, n, lc, rfl, q1, q2, q3, q4, q5⟩; have HQ : Hid (BehE w M ((us.drop i).map (·.r)) (.returned (.slice o n lc)) w') := ⟨M', o, n, lc, rfl, q1, q2, q3, q4, q5⟩; clear q1 q2 q3 q4 q5)
      go_ret
      exact HQ.out
end Go.Proofs.Ytklkglbimjajnaa.behind
namespace Go.Proofs.Ytklkglbimjajnaa.join
open bytes pile
set_option maxHeartbeats 800000 in
theorem join_own (w : World) (p : Value) (us : List Value) (xss : List (List Int)) (hp : RdS w p us) (ht : Texts w us xss) (hl : xss.flatten.length ≤ 140737488355328) :
    Calls Try.prog 97 #[p] w fun e w' => ∃ v, e = .returned v ∧ Own w' w.heap.size v xss.flatten ∧ Below w.heap.size w w' := by
  have HP : Hid (RdS w p us ∧ Texts w us xss) := ⟨hp, ht⟩
  obtain ⟨T, hT⟩ : ∃ T, T = xss.flatten.length := ⟨_, rfl⟩
  have HT : Hid (T = xss.flatten.length) := hT
  rw [← hT] at hl
  clear hT
  have hlu := ht.1
  obtain ⟨ao, ca, rfl, ha1, ha2, ha3⟩ := hp
  unfold maxLen at ha2
  obtain ⟨i0, hi, hz0, hz1, hz2⟩ := info_parts info5
  have HI : Hid (Try.prog.info? 5 = some i0 ∧ i0.zero = some (.int .u8 0) ∧ i0.size = 1 ∧ i0.bytes = 1) := ⟨hi, hz0, hz1, hz2⟩
  clear hi hz0 hz1 hz2
  have HLU : Hid (us.length = xss.length) := hlu
  clear hlu ht
  go_enter Try.func97, Try.ntmps97
  go_wp2
  go_loop [3, 11] (fun s i => ∃ k : Nat, k ≤ us.length ∧ i = .int .i64 k ∧ s = .int .i64 (sizeTo xss k)) (fun _ i => us.length - (intOf i).toNat)
  case atStart => exact ⟨0, by omega, rfl, by simp [sizeTo]⟩
  case round =>
    obtain ⟨k, hk, rfl, rfl⟩ := hrel
    have hsz : sizeTo xss k ≤ T := by rw [HT.out]; exact sizeTo_le xss k
    by_cases hlt : k < us.length
    · obtain ⟨ab, aoff, rfl, hca⟩ := ha3 (by omega)
      have hc := hca k hlt
      have hs1 := sizeTo_succ (xss := xss) (k := k) (by rw [← HLU.out]; exact hlt)
      have hs2 : sizeTo xss (k + 1) ≤ T := by rw [HT.out]; exact sizeTo_le xss (k + 1)
      have hbnd : sizeTo xss k + (xss.getD k []).length ≤ 140737488355328 := by omega
      have HS : Hid (sizeTo xss (k + 1) = sizeTo xss k + (xss.getD k []).length) := hs1
      obtain ⟨⟨bo, cb, he, _⟩, _⟩ := HP.out.2.2 k hlt
      rw [he] at hc
      clear hs1 hs2 he hca ha3
      generalize (xss.getD k []).length = L at hc hbnd HS
      generalize sizeTo xss k = S at hsz hbnd HS
      go_wp2
      go_round
      case rel => exact ⟨k + 1, by omega, by go_num, by rw [HS.out]; go_num⟩
      case measure => simp [intOf]; omega
    · have hkk : sizeTo xss k = T := by
        rw [HT.out]
        unfold sizeTo
        rw [List.take_of_length_le (by rw [← HLU.out]; omega)]
      rw [hkk]
      clear hkk hsz
      go_wp2_with (at_make; refine wpList_make_own _ rfl _ _ 22 rfl w.heap.size 5 i0 (.int .u8 0) 1 Try.underlying22 HI.out.1 HI.out.2.1 HI.out.2.2.1 .i64 .i64 _ T rfl rfl rfl (by rw [HI.out.2.2.2]; omega) (by unfold maxLen; omega) (Nat.le_refl _) ?_; intro w1 hown1 hgrow1)
      have HW : Hid (Own w1 w.heap.size (.slice (some ⟨w.heap.size, 0, none⟩) 0 T) [] ∧ Below w.heap.size w w1) :=
        hide ⟨⟨by simp, hown1⟩, (Below.refl _ _).grown hgrow1 (Nat.le_refl _) (by simp)⟩
      clear hown1 hgrow1 HI
      go_loopw [6, 24] (fun v i wr => ∃ k : Nat, k ≤ us.length ∧ i = .int .i64 k ∧ Hid (Own wr w.heap.size v (xss.take k).flatten ∧ Below w.heap.size w wr)) (fun _ i _ => us.length - (intOf i).toNat)
      case atStart => exact ⟨0, by omega, rfl, HW⟩
      case round =>
        clear HW
        obtain ⟨k, hk, rfl, HR⟩ := hrel
        by_cases hlt : k < us.length
        · obtain ⟨ab, aoff, rfl, hca⟩ := ha3 (by omega)
          have hck := hca k hlt
          have hc : wr.cell? ⟨ab, aoff + k, none⟩ = some (us.getD k (.slice none 0 0)) := (HR.out.2.cell (cell_lt hck)).trans hck
          have HA : Hid (RdA wr (us.getD k (.slice none 0 0)) (xss.getD k [])) := (HP.out.2.2 k hlt).below HR.out.2 (Nat.le_refl _)
          have hs1 := flat_succ (xss := xss) (k := k) (by rw [← HLU.out]; exact hlt)
          have HS : Hid ((xss.take (k + 1)).flatten = (xss.take k).flatten ++ xss.getD k []) := hs1
          have hbnd : (xss.take k).flatten.length + (xss.getD k []).length ≤ 140737488355328 := by
            have := sizeTo_le xss (k + 1)
            rw [← HT.out, sizeTo, hs1, List.length_append] at this
            omega
          have HB : Hid ((xss.take k).flatten.length + (xss.getD k []).length ≤ 140737488355328) := hbnd
          have hsz := HR.out.2.size
          clear hs1 hca ha3 hck hbnd
          generalize us.getD k (.slice none 0 0) = u at hc HA
          generalize xss.getD k [] = ys at HA HS HB
          go_wp2_with (at_builtin; refine wpList_append_rd _ rfl _ _ 22 rfl Try.underlying22 info5 w.heap.size _ _ rfl HR.out.1 u ys rfl HA.out HB.out hsz ?_; intro v' w2 hown2 hgrow2)
          go_roundw
          case rel => exact ⟨k + 1, by omega, by go_num, hide ⟨by rw [HS.out]; exact hown2, HR.out.2.grown hgrow2 hsz (fun j hj => (HR.out.1.lt j hj).1)⟩⟩
          case measure => simp [intOf]; omega
        · go_wp2
          go_ret
          have hfin := HR.out
          rw [List.take_of_length_le (by rw [← HLU.out]; omega)] at hfin
          exact ⟨_, rfl, hfin.1, hfin.2⟩
end Go.Proofs.Ytklkglbimjajnaa.join

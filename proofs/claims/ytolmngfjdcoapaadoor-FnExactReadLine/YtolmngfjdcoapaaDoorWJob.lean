/- Contracts of the program's writer of values: texts, flags, a whole job; JobBytes. -/
import Derived.Test.YtolmngfjdcoapaaDoorWr
import Derived.Test.YtolmngfjdcoapaaDoorJOk
namespace Go.Proofs.YtolmngfjdcoapaaDoor.wjob
open Go.ChangeShapes Go.WideShapes Go.ChangeAt Go.RowKit
open Go.Proofs.YtolmngfjdcoapaaDoor.bytes Go.Proofs.YtolmngfjdcoapaaDoor.pile Go.Proofs.YtolmngfjdcoapaaDoor.put Go.Proofs.YtolmngfjdcoapaaDoor.jhelp Go.Proofs.YtolmngfjdcoapaaDoor.wr Go.Proofs.YtolmngfjdcoapaaDoor.jok
set_option linter.unusedVariables false

theorem lit_rdA {wx : World} {k : Nat} {x : Int} (h : wx.heap[k]? = some (.cells #[.int .u8 x] 5 (0, 0))) (hx : 0 ≤ x ∧ x ≤ 255) : RdA wx (.slice (some ⟨k, 0, none⟩) 1 1) [x] := by
  refine ⟨⟨some ⟨k, 0, none⟩, 1, rfl, by simp, by simp [maxLen], by simpa using hx, fun _ => ⟨k, 0, rfl, fun i hi => ?_⟩⟩, fun n c e => by simp at e⟩
  have : i = 0 := by simp at hi; omega
  subst this
  simp [World.cell?, h]

set_option maxRecDepth 20000 in
set_option maxHeartbeats 1600000 in
theorem text_any (w : World) (base d : Nat) (s : ByteArray) (xs : List Int) (hW : Wrt w base d xs) (hbd : base ≤ d) (hs : s.size ≤ 2000) (hxl : xs.length ≤ 100000) :
    Calls Tryd.prog 42 #[.pointer (some ⟨d, 0, none⟩), .string s] w fun r w' => r = .returned (.tuple #[]) ∧ Wrt w' base d (xs ++ textN s) ∧ Below base w w' ∧ Kp w w' := by
  obtain ⟨i0, hi, hz0, hz1, hz2⟩ := info_parts info5
  have HI : Hid (Tryd.prog.info? 5 = some i0 ∧ i0.zero = some (.int .u8 0) ∧ i0.size = 1 ∧ i0.bytes = 1) := ⟨hi, hz0, hz1, hz2⟩
  clear hi hz0 hz1 hz2
  obtain ⟨W, hWW⟩ : ∃ W, W = w.alloc (.cells #[.int .i64 s.size] 3) := ⟨_, rfl⟩
  have bW : Below w.heap.size w W := by rw [hWW]; exact (Below.refl _ _).alloc (Nat.le_refl _) _
  have hdw : d < w.heap.size := by obtain ⟨o, n, c, h, _⟩ := hW; exact (Array.getElem?_eq_some_iff.1 h).1
  have HC := numbers_any W base d w.heap.size [s.size] xs (hW.below bW) hbd (by rw [hWW]; exact heap_alloc_new w _) (by simp; omega) (by simp) (by omega)
  have HBK : Hid (Below base w W ∧ Kp w W) := ⟨bW.mono (by omega), Kp.below bW⟩
  rw [hWW] at HC
  clear bW hW
  have hpl : (putN s.size).length ≤ 10 := putN_len 9 s.size (by omega)
  go_enter Tryd.func42, Tryd.ntmps42
  go_wp2_with fail
  refine HC.mono ?_
  rw [← hWW]
  rintro r w1 ⟨rfl, W1, b1, k1⟩
  have H1 : Hid (Below base w w1 ∧ Kp w w1) := ⟨HBK.out.1.trans b1, HBK.out.2.trans k1⟩
  obtain ⟨o, n, c, hd, HO⟩ := W1
  simp only [List.flatMap_cons, List.flatMap_nil, List.append_nil] at HO
  have HL : Hid ((xs ++ putN s.size).length ≤ 100010) := by simp only [Hid, List.length_append]; omega
  have HO' : Hid (w1.heap[d]? = some (.cells #[.slice o n c] 70 (0, 0)) ∧ Own w1 base (.slice o n c) (xs ++ putN s.size)) := ⟨hd, HO⟩
  have c0 : w1.cell? ⟨d, 0, none⟩ = some (.slice o n c) := cell_of hd rfl
  have z1 : base ≤ w1.heap.size := by have := (Array.getElem?_eq_some_iff.1 hd).1; omega
  clear hd HO b1 k1 HC hWW HBK hpl
  go_wp2_with (at_builtin; refine Lib.wpList_append_own_string w1 rfl _ _ 22 9 rfl base 5 i0 Tryd.underlying22 Tryd.underlying9 HI.out.1 HI.out.2.1 HI.out.2.2.1 HI.out.2.2.2 _ _ _ rfl HO'.out.2.2 s rfl (by have := HL.out; unfold maxLen; omega) (by have := HL.out; omega) z1 ?_; intro v2 w2 hown2 G2 _; have O2 := own_str HO'.out.2.1 hown2; obtain ⟨o2, c2, e2, _⟩ := O2.rd; subst e2; have HP := wrt_put HO'.out.1 HO'.out.2 O2 G2 hbd; have cd2 := HP.2.2.2.1; have fr2 := HP.2.2.2.2; have HP' : Hid (Wrt (w2.setCell ⟨d, 0, none⟩ (.slice o2 (xs ++ putN s.size ++ strN s).length c2)) base d (xs ++ putN s.size ++ strN s) ∧ Below base w1 (w2.setCell ⟨d, 0, none⟩ (.slice o2 (xs ++ putN s.size ++ strN s).length c2)) ∧ Kp w1 (w2.setCell ⟨d, 0, none⟩ (.slice o2 (xs ++ putN s.size ++ strN s).length c2))) := ⟨HP.1, HP.2.1, HP.2.2.1⟩; clear HP O2 G2 hown2; generalize (xs ++ putN s.size ++ strN s).length = n2 at HP')
  go_end0
  refine ⟨rfl, ?_, H1.out.1.trans HP'.out.2.1, H1.out.2.trans HP'.out.2.2⟩
  rw [textN, ← List.append_assoc]
  exact HP'.out.1

set_option maxRecDepth 20000 in
set_option maxHeartbeats 3200000 in
theorem flags_any (w : World) (base d : Nat) (c s : Int) (F : ByteArray) (v : Int) (S T : ByteArray) (e q : Bool) (xs : List Int) (hW : Wrt w base d xs) (hbd : base ≤ d) (hxl : xs.length ≤ 100000) :
    Calls Tryd.prog 43 #[.pointer (some ⟨d, 0, none⟩), .agg #[.int .i64 c, .int .i64 s, .string F, .int .i64 v, .string S, .string T, .bool e, .bool q]] w fun r w' => r = .returned (.tuple #[]) ∧ Wrt w' base d (xs ++ [flagN e q]) ∧ Below base w w' := by
  obtain ⟨W, hWW⟩ : ∃ W, W = w.alloc (.cells #[.int .i64 c, .int .i64 s, .string F, .int .i64 v, .string S, .string T, .bool e, .bool q] 50) := ⟨_, rfl⟩
  have bW : Below w.heap.size w W := by rw [hWW]; exact (Below.refl _ _).alloc (Nat.le_refl _) _
  have k0 : W.heap[w.heap.size]? = some (.cells #[.int .i64 c, .int .i64 s, .string F, .int .i64 v, .string S, .string T, .bool e, .bool q] 50 (0, 0)) := by rw [hWW]; exact heap_alloc_new w _
  have a6 : W.cell? ⟨w.heap.size, 6, none⟩ = some (.bool e) := cell_of k0 rfl
  have a7 : W.cell? ⟨w.heap.size, 7, none⟩ = some (.bool q) := cell_of k0 rfl
  have hW' := hW.below bW
  obtain ⟨o, n, m, hd, HO⟩ := hW'
  have hdw : d < w.heap.size := by obtain ⟨o, n, c, h, _⟩ := hW; exact (Array.getElem?_eq_some_iff.1 h).1
  have HBK : Hid (Below base w W) := bW.mono (by omega)
  have c0 : W.cell? ⟨d, 0, none⟩ = some (.slice o n m) := cell_of hd rfl
  obtain ⟨W2, hW2⟩ : ∃ X, X = W.alloc (.cells #[.int .u8 (flagN e q)] 5) := ⟨_, rfl⟩
  have zW : W.heap.size = w.heap.size + 1 := by rw [hWW]; simp
  have bW2 : Below W.heap.size W W2 := by rw [hW2]; exact (Below.refl _ _).alloc (Nat.le_refl _) _
  have hfb := flag_bd e q
  have HR : Hid (RdA W2 (.slice (some ⟨w.heap.size + 1, 0, none⟩) 1 1) [flagN e q]) := lit_rdA (by rw [hW2]; exact new_at zW) (by omega)
  have HO' : Hid (W2.heap[d]? = some (.cells #[.slice o n m] 70 (0, 0)) ∧ Own W2 base (.slice o n m) xs) := ⟨kept bW2 hd (Nat.le_refl _), HO.below bW2 (Nat.le_refl _)⟩
  have HB2 : Hid (Below base w W2) := HBK.out.trans (bW2.mono (by omega))
  have HZ : Hid (base ≤ W2.heap.size ∧ xs.length ≤ 100000) := ⟨by have := bW2.size; omega, hxl⟩
  rw [hWW] at c0
  have x1 : bits .or .u8 0 1 = 1 := by decide
  have x2 : bits .or .u8 0 2 = 2 := by decide
  have x3 : bits .or .u8 1 2 = 3 := by decide
  have hf : flagN e q = (if e then 1 else 0) + 2 * (if q then 1 else 0) := rfl
  clear k0 bW bW2 hd HO hW HBK zW hfb hxl
  cases e <;> cases q
  · have rfl' : flagN false false = 0 := rfl
    rw [rfl'] at hW2
    clear rfl' hf
    go_enter Tryd.func43, Tryd.ntmps43
    go_wp2_with (at_builtin; (first | rw [← hWW, ← hW2] | skip); refine wpList_append_rd W2 rfl _ _ 22 rfl Tryd.underlying22 info5 base _ xs rfl HO'.out.2 _ [0] rfl HR.out (by have := HZ.out.2; simp; omega) HZ.out.1 ?_; intro v2 w2 O2 G2; obtain ⟨o2, c2, e2, _⟩ := O2.rd; subst e2; have HP := wrt_put HO'.out.1 HO'.out.2 O2 G2 hbd; have cd2 := HP.2.2.2.1; have fr2 := HP.2.2.2.2; have HP' : Hid (Wrt (w2.setCell ⟨d, 0, none⟩ (.slice o2 (xs ++ [0]).length c2)) base d (xs ++ [0]) ∧ Below base W2 (w2.setCell ⟨d, 0, none⟩ (.slice o2 (xs ++ [0]).length c2))) := ⟨HP.1, HP.2.1⟩; clear HP O2 G2; generalize (xs ++ [(0 : Int)]).length = n2 at HP')
    go_end0
    exact ⟨rfl, HP'.out.1, HB2.out.trans HP'.out.2⟩
  · have rfl' : flagN false true = 2 := rfl
    rw [rfl'] at hW2
    clear rfl' hf
    go_enter Tryd.func43, Tryd.ntmps43
    go_wp2_with (at_builtin; (first | rw [← hWW, ← hW2] | skip); refine wpList_append_rd W2 rfl _ _ 22 rfl Tryd.underlying22 info5 base _ xs rfl HO'.out.2 _ [2] rfl HR.out (by have := HZ.out.2; simp; omega) HZ.out.1 ?_; intro v2 w2 O2 G2; obtain ⟨o2, c2, e2, _⟩ := O2.rd; subst e2; have HP := wrt_put HO'.out.1 HO'.out.2 O2 G2 hbd; have cd2 := HP.2.2.2.1; have fr2 := HP.2.2.2.2; have HP' : Hid (Wrt (w2.setCell ⟨d, 0, none⟩ (.slice o2 (xs ++ [2]).length c2)) base d (xs ++ [2]) ∧ Below base W2 (w2.setCell ⟨d, 0, none⟩ (.slice o2 (xs ++ [2]).length c2))) := ⟨HP.1, HP.2.1⟩; clear HP O2 G2; generalize (xs ++ [(2 : Int)]).length = n2 at HP')
    go_end0
    exact ⟨rfl, HP'.out.1, HB2.out.trans HP'.out.2⟩
  · have rfl' : flagN true false = 1 := rfl
    rw [rfl'] at hW2
    clear rfl' hf
    go_enter Tryd.func43, Tryd.ntmps43
    go_wp2_with (at_builtin; (first | rw [← hWW, ← hW2] | skip); refine wpList_append_rd W2 rfl _ _ 22 rfl Tryd.underlying22 info5 base _ xs rfl HO'.out.2 _ [1] rfl HR.out (by have := HZ.out.2; simp; omega) HZ.out.1 ?_; intro v2 w2 O2 G2; obtain ⟨o2, c2, e2, _⟩ := O2.rd; subst e2; have HP := wrt_put HO'.out.1 HO'.out.2 O2 G2 hbd; have cd2 := HP.2.2.2.1; have fr2 := HP.2.2.2.2; have HP' : Hid (Wrt (w2.setCell ⟨d, 0, none⟩ (.slice o2 (xs ++ [1]).length c2)) base d (xs ++ [1]) ∧ Below base W2 (w2.setCell ⟨d, 0, none⟩ (.slice o2 (xs ++ [1]).length c2))) := ⟨HP.1, HP.2.1⟩; clear HP O2 G2; generalize (xs ++ [(1 : Int)]).length = n2 at HP')
    go_end0
    exact ⟨rfl, HP'.out.1, HB2.out.trans HP'.out.2⟩
  · have rfl' : flagN true true = 3 := rfl
    rw [rfl'] at hW2
    clear rfl' hf
    go_enter Tryd.func43, Tryd.ntmps43
    go_wp2_with (at_builtin; (first | rw [← hWW, ← hW2] | skip); refine wpList_append_rd W2 rfl _ _ 22 rfl Tryd.underlying22 info5 base _ xs rfl HO'.out.2 _ [3] rfl HR.out (by have := HZ.out.2; simp; omega) HZ.out.1 ?_; intro v2 w2 O2 G2; obtain ⟨o2, c2, e2, _⟩ := O2.rd; subst e2; have HP := wrt_put HO'.out.1 HO'.out.2 O2 G2 hbd; have cd2 := HP.2.2.2.1; have fr2 := HP.2.2.2.2; have HP' : Hid (Wrt (w2.setCell ⟨d, 0, none⟩ (.slice o2 (xs ++ [3]).length c2)) base d (xs ++ [3]) ∧ Below base W2 (w2.setCell ⟨d, 0, none⟩ (.slice o2 (xs ++ [3]).length c2))) := ⟨HP.1, HP.2.1⟩; clear HP O2 G2; generalize (xs ++ [(3 : Int)]).length = n2 at HP')
    go_end0
    exact ⟨rfl, HP'.out.1, HB2.out.trans HP'.out.2⟩
end Go.Proofs.YtolmngfjdcoapaaDoor.wjob

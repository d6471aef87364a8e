/- A right tree of letters over one text. -/
import Derived.Test.YtfpeajbfimodfaaGreatDoorWayC
namespace Go.Proofs.YtfpeajbfimodfaaGreatDoor.sea
open Go.ChangeShapes Go.WideShapes Go.ChangeAt Go.RowKit
open Go.Proofs.YtfpeajbfimodfaaGreatDoor.bytes Go.Proofs.YtfpeajbfimodfaaGreatDoor.letters Go.Proofs.YtfpeajbfimodfaaGreatDoor.read Go.Proofs.YtfpeajbfimodfaaGreatDoor.pat Go.Proofs.YtfpeajbfimodfaaGreatDoor.weigh Go.Proofs.YtfpeajbfimodfaaGreatDoor.compile Go.Proofs.YtfpeajbfimodfaaGreatDoor.places Go.Proofs.YtfpeajbfimodfaaGreatDoor.sets Go.Proofs.YtfpeajbfimodfaaGreatDoor.leaf Go.Proofs.YtfpeajbfimodfaaGreatDoor.made Go.Proofs.YtfpeajbfimodfaaGreatDoor.tz Go.Proofs.YtfpeajbfimodfaaGreatDoor.net Go.Proofs.YtfpeajbfimodfaaGreatDoor.ci Go.Proofs.YtfpeajbfimodfaaGreatDoor.cat Go.Proofs.YtfpeajbfimodfaaGreatDoor.way Go.Proofs.YtfpeajbfimodfaaGreatDoor.wayc
set_option linter.unusedVariables false

theorem row_below {w w' : World} {base : Nat} {g cap n : Nat} {xs : List Value} (hrow : w.ownsRow base 26 5 (.slice (some ⟨g, 0, none⟩) n cap) n xs) (hb : Below w.heap.size w w') : w'.ownsRow base 26 5 (.slice (some ⟨g, 0, none⟩) n cap) n xs := by
  have hlt := (World.ownsRow.lt hrow g rfl).2
  obtain ⟨h1, h2 | ⟨g', cap', cur, e, hbb, hgg, r⟩⟩ := hrow
  · exact ⟨h1, .inl h2⟩
  · simp only [Value.slice.injEq, Option.some.injEq, Addr.mk.injEq] at e
    obtain ⟨⟨rfl, _⟩, _, rfl⟩ := e
    exact ⟨h1, .inr ⟨g, cap, cur, rfl, hbb, (hb.block g hlt).trans hgg, r⟩⟩
theorem four_sets {W : World} {b : Nat} {a0 a1 a2 a3 : Value} (h : W.heap[b]? = some (.cells #[a0, a1, a2, a3] 54 (0, 0))) (v0 v1 v2 v3 : Value) : ((((W.setCell ⟨b, 0, none⟩ v0).setCell ⟨b, 1, none⟩ v1).setCell ⟨b, 2, none⟩ v2).setCell ⟨b, 3, none⟩ v3).heap[b]? = some (.cells #[v0, v1, v2, v3] 54 (0, 0)) := by
  have h0 := heap_setCell_same W b 0 _ 54 v0 h
  have h1 := heap_setCell_same _ b 1 _ 54 v1 h0
  have h2 := heap_setCell_same _ b 2 _ 54 v2 h1
  have h3 := heap_setCell_same _ b 3 _ 54 v3 h2
  simp at h3
  exact h3
set_option maxRecDepth 20000 in
set_option maxHeartbeats 4000000 in
theorem searchOf_any (w : World) (ts ys : List Int) (q cap base : Nat) (hl : ts.length ≤ 22) (hts : ∀ t ∈ ts, 0 ≤ t ∧ t ≤ 255) (hn1 : 1 ≤ ys.length) (hn8 : ys.length ≤ 8) (hy : ∀ y ∈ ys, Letter y) (hT : TabIn w) (h1 : 1 < w.heap.size) (hrow : w.ownsRow base 26 5 (.slice (some ⟨q, 0, none⟩) ys.length cap) ys.length (nodes ys)) :
    Calls Tryz.prog 15 #[.agg #[.int .i64 7, .int .i64 0, .int .i64 0, .string ⟨#[]⟩, .slice (some ⟨q, 0, none⟩) ys.length cap], .string (strOfNums ts)] w fun e w' => ∃ g : Gr, ∃ fn caps, g.ts = ts ∧ g.ys = ys ∧ Geo g ∧ restV g 0 = .func fn #[] caps ∧ e = .returned (.tuple #[.agg #[.string (strOfNums ts), .int .i64 0, .func fn #[] caps, .func (.func 61) #[] #[.pointer (some ⟨g.kB, 0, none⟩), .pointer (some ⟨g.rB, 0, none⟩)]], .int .i64 0]) ∧ Net g (fun _ => none) w' ∧ Below w.heap.size w w' ∧ ∀ b, b < w.heap.size → b ≠ 1 → Out g b := by
  have hs : (strOfNums ts).size = ts.length := strOfNums_size _
  obtain ⟨n, hn⟩ : ∃ n, n = ys.length := ⟨_, rfl⟩
  obtain ⟨W2, hW2⟩ : ∃ W2, W2 = (w.alloc (.cells #[.int .i64 7, .int .i64 0, .int .i64 0, .string ⟨#[]⟩, .slice (some ⟨q, 0, none⟩) n cap] 26)).alloc (.cells #[.string ⟨#[]⟩, .int .i64 0, .nilFunc, .nilFunc] 54) := ⟨_, rfl⟩
  have hB2 : Below w.heap.size w W2 := by
    rw [hW2]
    exact ((Below.refl w.heap.size w).alloc (Nat.le_refl _) _).alloc (by simp) _
  have hz2 : W2.heap.size = w.heap.size + 2 := by rw [hW2]; simp
  have x0 : W2.heap[w.heap.size]? = some (.cells #[.int .i64 7, .int .i64 0, .int .i64 0, .string ⟨#[]⟩, .slice (some ⟨q, 0, none⟩) n cap] 26 (0, 0)) := by
    rw [hW2, Below.heap_alloc _ _ _ (by simp)]
    exact heap_alloc_new w _
  have x1 : W2.heap[w.heap.size + 1]? = some (.cells #[.string ⟨#[]⟩, .int .i64 0, .nilFunc, .nilFunc] 54 (0, 0)) := by
    rw [hW2]
    have h := heap_alloc_new (w.alloc (.cells #[.int .i64 7, .int .i64 0, .int .i64 0, .string ⟨#[]⟩, .slice (some ⟨q, 0, none⟩) n cap] 26)) (.cells #[.string ⟨#[]⟩, .int .i64 0, .nilFunc, .nilFunc] 54)
    rw [show (w.alloc (.cells #[.int .i64 7, .int .i64 0, .int .i64 0, .string ⟨#[]⟩, .slice (some ⟨q, 0, none⟩) n cap] 26)).heap.size = w.heap.size + 1 by simp] at h
    exact h
  have HG : Hid (Calls Tryz.prog 26 #[.agg #[.int .i64 7, .int .i64 0, .int .i64 0, .string ⟨#[]⟩, .slice (some ⟨q, 0, none⟩) n cap]] W2 fun e w' => e = .returned (.tuple #[.int .i64 0, .int .i64 0]) ∧ Below W2.heap.size W2 w') := by
    rw [hn]
    exact hide (groups_cat W2 q cap base ys hn8 hn1 hy (row_below hrow hB2))
  have HWy : Hid (∀ W3, Below W2.heap.size W2 W3 → Calls Tryz.prog 27 #[.agg #[.int .i64 7, .int .i64 0, .int .i64 0, .string ⟨#[]⟩, .slice (some ⟨q, 0, none⟩) n cap], .string (strOfNums ts)] W3 fun e w' => ∃ g : Gr, ∃ fn caps, g.ts = ts ∧ g.ys = ys ∧ Geo g ∧ restV g 0 = .func fn #[] caps ∧ e = .returned (.agg #[.func fn #[] caps, .func (.func 61) #[] #[.pointer (some ⟨g.kB, 0, none⟩), .pointer (some ⟨g.rB, 0, none⟩)]]) ∧ Net g (fun _ => none) w' ∧ Below W3.heap.size W3 w' ∧ ∀ b, b < W3.heap.size → b ≠ 1 → Out g b) := by
    rw [hn]
    refine hide (fun W3 hB3 => ?_)
    have hz3 := hB3.size
    have hB4 : Below w.heap.size w W3 := hB2.trans (hB3.mono (by omega))
    exact wayCat W3 ts ys q cap base hl hts hn1 hn8 (hT.below hB4 h1) (by omega) (row_below hrow hB4)
  have b0 : W2.cell? ⟨w.heap.size, 0, none⟩ = some (.int .i64 7) := by rw [cell_one x0]; rfl
  have b1 : W2.cell? ⟨w.heap.size, 1, none⟩ = some (.int .i64 0) := by rw [cell_one x0]; rfl
  have b2 : W2.cell? ⟨w.heap.size, 2, none⟩ = some (.int .i64 0) := by rw [cell_one x0]; rfl
  have b3 : W2.cell? ⟨w.heap.size, 3, none⟩ = some (.string ⟨#[]⟩) := by rw [cell_one x0]; rfl
  have b4 : W2.cell? ⟨w.heap.size, 4, none⟩ = some (.slice (some ⟨q, 0, none⟩) n cap) := by rw [cell_one x0]; rfl
  have HBX := hide (And.intro hB2 (And.intro hz2 (And.intro x0 x1)))
  rw [← hn]
  have hlen1 : ¬ (65536 : Int) < (ts.length : Int) := by omega
  have hlen2 : ¬ (120 : Int) < (ts.length : Int) := by omega
  obtain ⟨S, hS⟩ : ∃ S, S = strOfNums ts := ⟨_, rfl⟩
  rw [← hS] at hs HWy ⊢
  clear hn hB2 hz2 x0 x1 hrow hS hT
  go_enter Tryz.func15, Tryz.ntmps15
  go_wp2_with fail
  rw [← hW2]
  clear hW2
  refine HG.out.mono ?_
  rintro e w3 ⟨rfl, hb3⟩
  have hz2 := HBX.out.2.1
  have hx0 := (hb3.block w.heap.size (by omega)).trans HBX.out.2.2.1
  have hx1 := (hb3.block (w.heap.size + 1) (by omega)).trans HBX.out.2.2.2
  have c0 : w3.cell? ⟨w.heap.size, 0, none⟩ = some (.int .i64 7) := by rw [cell_one hx0]; rfl
  have c1 : w3.cell? ⟨w.heap.size, 1, none⟩ = some (.int .i64 0) := by rw [cell_one hx0]; rfl
  have c2 : w3.cell? ⟨w.heap.size, 2, none⟩ = some (.int .i64 0) := by rw [cell_one hx0]; rfl
  have c3 : w3.cell? ⟨w.heap.size, 3, none⟩ = some (.string ⟨#[]⟩) := by rw [cell_one hx0]; rfl
  have c4 : w3.cell? ⟨w.heap.size, 4, none⟩ = some (.slice (some ⟨q, 0, none⟩) n cap) := by rw [cell_one hx0]; rfl
  have HW3 := hide (HWy.out w3 hb3)
  have hB3 := HBX.out.1.trans (hb3.mono (by omega))
  have hz3 := hb3.size
  have H3 := hide (And.intro hB3 (And.intro hz2 (And.intro hz3 hx1)))
  clear hb3 hx0 hx1 HG HWy HBX hz2 hB3 hz3 b0 b1 b2 b3 b4
  go_wp2_with fail
  refine HW3.out.mono ?_
  rintro e w4 ⟨g, fn, caps, g1, g2, g3, hv, rfl, g5, g6, g7⟩
  obtain ⟨hB3, hz2, hz3, hx1⟩ := H3.out
  have hy1 := (g6.block (w.heap.size + 1) (by omega)).trans hx1
  have r0 : w4.cell? ⟨w.heap.size + 1, 0, none⟩ = some (.string ⟨#[]⟩) := by rw [cell_one hy1]; rfl
  have r1 : w4.cell? ⟨w.heap.size + 1, 1, none⟩ = some (.int .i64 0) := by rw [cell_one hy1]; rfl
  have r2 : w4.cell? ⟨w.heap.size + 1, 2, none⟩ = some .nilFunc := by rw [cell_one hy1]; rfl
  have r3 : w4.cell? ⟨w.heap.size + 1, 3, none⟩ = some .nilFunc := by rw [cell_one hy1]; rfl
  have f0 : ∀ i, w4.frozen? ⟨w.heap.size + 1, i, none⟩ = false := fun i => by simp only [World.frozen?, hy1]; simp
  have hO := g7 (w.heap.size + 1) (by omega) (by omega)
  have H4 := hide (And.intro g1 (And.intro g2 (And.intro g3 (And.intro hv (And.intro hy1 (And.intro (Net.patch (Net.patch (Net.patch (Net.patch g5 hO 0 (.string S)) hO 1 (.int .i64 0)) hO 2 (.func fn #[] caps)) hO 3 (.func (.func 61) #[] #[.pointer (some ⟨g.kB, 0, none⟩), .pointer (some ⟨g.rB, 0, none⟩)])) (And.intro ((((((hB3.trans (g6.mono (by omega))).setCell (p := ⟨w.heap.size + 1, 0, none⟩) (by simp) (.string S)).setCell (p := ⟨w.heap.size + 1, 1, none⟩) (by simp) (.int .i64 0)).setCell (p := ⟨w.heap.size + 1, 2, none⟩) (by simp) (.func fn #[] caps)).setCell (p := ⟨w.heap.size + 1, 3, none⟩) (by simp) (.func (.func 61) #[] #[.pointer (some ⟨g.kB, 0, none⟩), .pointer (some ⟨g.rB, 0, none⟩)]))) (fun b (hb : b < w.heap.size) hb1 => g7 b (by omega) hb1))))))))
  clear g1 g2 g3 hv g5 g6 g7 hB3 hz2 hz3 hx1 hy1 hO H3 HW3
  go_wp2
  obtain ⟨g1, g2, g3, hv, hy1, g5, g6, g7⟩ := H4.out
  have z1 := four_sets hy1 (.string S) (.int .i64 0) (.func fn #[] caps) (.func (.func 61) #[] #[.pointer (some ⟨g.kB, 0, none⟩), .pointer (some ⟨g.rB, 0, none⟩)])
  generalize (((w4.setCell ⟨w.heap.size + 1, 0, none⟩ (.string S)).setCell ⟨w.heap.size + 1, 1, none⟩ (.int .i64 0)).setCell ⟨w.heap.size + 1, 2, none⟩ (.func fn #[] caps)).setCell ⟨w.heap.size + 1, 3, none⟩ (.func (.func 61) #[] #[.pointer (some ⟨g.kB, 0, none⟩), .pointer (some ⟨g.rB, 0, none⟩)]) = w5 at *
  have u0 : w5.cell? ⟨w.heap.size + 1, 0, none⟩ = some (.string S) := by rw [cell_one z1]; rfl
  have u1 : w5.cell? ⟨w.heap.size + 1, 1, none⟩ = some (.int .i64 0) := by rw [cell_one z1]; rfl
  have u2 : w5.cell? ⟨w.heap.size + 1, 2, none⟩ = some (.func fn #[] caps) := by rw [cell_one z1]; rfl
  have u3 : w5.cell? ⟨w.heap.size + 1, 3, none⟩ = some (.func (.func 61) #[] #[.pointer (some ⟨g.kB, 0, none⟩), .pointer (some ⟨g.rB, 0, none⟩)]) := by rw [cell_one z1]; rfl
  exact bodyPost_ret (v := .tuple #[.agg #[.string S, .int .i64 0, .func fn #[] caps, .func (.func 61) #[] #[.pointer (some ⟨g.kB, 0, none⟩), .pointer (some ⟨g.rB, 0, none⟩)]], .int .i64 0]) (by simp [results, Tryz.results15, go_sem, u0, u1, u2, u3]) rfl ⟨g, fn, caps, g1, g2, g3, hv, rfl, g5, g6, g7⟩
end Go.Proofs.YtfpeajbfimodfaaGreatDoor.sea

/- The way of letters one behind the other. -/
import Derived.Test.YtfpeajbfimodfaaGreatDoorWay
import Derived.Laws.EntriesVeiled
namespace Go.Proofs.YtfpeajbfimodfaaGreatDoor.wayc
open Go.ChangeShapes Go.WideShapes Go.ChangeAt Go.RowKit
open Go.Proofs.YtfpeajbfimodfaaGreatDoor.bytes Go.Proofs.YtfpeajbfimodfaaGreatDoor.letters Go.Proofs.YtfpeajbfimodfaaGreatDoor.read Go.Proofs.YtfpeajbfimodfaaGreatDoor.pat Go.Proofs.YtfpeajbfimodfaaGreatDoor.weigh Go.Proofs.YtfpeajbfimodfaaGreatDoor.places Go.Proofs.YtfpeajbfimodfaaGreatDoor.sets Go.Proofs.YtfpeajbfimodfaaGreatDoor.leaf Go.Proofs.YtfpeajbfimodfaaGreatDoor.made Go.Proofs.YtfpeajbfimodfaaGreatDoor.tz Go.Proofs.YtfpeajbfimodfaaGreatDoor.net Go.Proofs.YtfpeajbfimodfaaGreatDoor.ci Go.Proofs.YtfpeajbfimodfaaGreatDoor.cat Go.Proofs.YtfpeajbfimodfaaGreatDoor.way
set_option linter.unusedVariables false

/-- Between two rounds: the kids up to i are made. -/
structure WC (w : World) (r1 kR n : Nat) (ts ys : List Int) (i : Nat) (tb fb rb : Nat → Nat) (W : World) : Prop where
  below : Below w.heap.size w W
  box : W.cell? ⟨w.heap.size, 0, none⟩ = some (.int .i64 7)
  res : W.heap[r1]? = some (.cells #[.nilFunc, .nilFunc] 52 (0, 0))
  size : kR < W.heap.size
  row : ∃ vals : Array Value, vals.size = n * 2 ∧ W.heap[kR]? = some (.cells vals 52 (0, 0)) ∧ ∀ k, k < i → vals[k * 2]? = some (.func (.func 83) #[] #[.pointer (some ⟨tb k, 0, none⟩), .pointer (some ⟨fb k, 0, none⟩)]) ∧ vals[k * 2 + 1]? = some (.func (.func 44) #[] #[])
  leaf : ∀ k, k < i → Leaf W (tb k) (fb k) (rb k) ts (ys.getD k 0) ∧ kR < tb k ∧ kR < fb k ∧ kR < rb k
theorem WC.step {w : World} {r1 kR n : Nat} {ts ys : List Int} {i : Nat} {tb fb rb : Nat → Nat} {W w1 : World} (h : WC w r1 kR n ts ys i tb fb rb W) (hord : w.heap.size < r1 ∧ r1 < kR) (hi : i < n) (o : Obj) (hb : Below (W.heap.size + 1) (W.alloc o) w1) (t f r : Nat) (hL : Leaf w1 t f r ts (ys.getD i 0)) (ht : W.heap.size ≤ t ∧ W.heap.size ≤ f ∧ W.heap.size ≤ r) :
    ∃ tb' fb' rb', WC w r1 kR n ts ys (i + 1) tb' fb' rb' ((w1.setCell ⟨kR, i * 2, none⟩ (.func (.func 83) #[] #[.pointer (some ⟨t, 0, none⟩), .pointer (some ⟨f, 0, none⟩)])).setCell ⟨kR, i * 2 + 1, none⟩ (.func (.func 44) #[] #[])) := by
  obtain ⟨vals, v1, v2, v3⟩ := h.row
  have hsz := h.size
  have hB1 : Below W.heap.size W w1 := ((Below.refl W.heap.size W).alloc (Nat.le_refl _) o).trans (hb.mono (by omega))
  have r2 := (hB1.block kR hsz).trans v2
  have r3 := heap_setCell_same w1 kR (i * 2) vals 52 (.func (.func 83) #[] #[.pointer (some ⟨t, 0, none⟩), .pointer (some ⟨f, 0, none⟩)]) r2
  have r4 := heap_setCell_same _ kR (i * 2 + 1) _ 52 (.func (.func 44) #[] #[]) r3
  have hs : ∀ b, b ≠ kR → ((w1.setCell ⟨kR, i * 2, none⟩ (.func (.func 83) #[] #[.pointer (some ⟨t, 0, none⟩), .pointer (some ⟨f, 0, none⟩)])).setCell ⟨kR, i * 2 + 1, none⟩ (.func (.func 44) #[] #[])).heap[b]? = w1.heap[b]? := fun b hb => (Below.heap_setCell _ _ _ b hb).trans (Below.heap_setCell _ _ _ b hb)
  have hB2 := ((h.below.trans (hB1.mono h.below.size)).setCell (p := ⟨kR, i * 2, none⟩) (by simp; omega) (.func (.func 83) #[] #[.pointer (some ⟨t, 0, none⟩), .pointer (some ⟨f, 0, none⟩)])).setCell (p := ⟨kR, i * 2 + 1, none⟩) (by simp; omega) (.func (.func 44) #[] #[])
  have hz : ((w1.setCell ⟨kR, i * 2, none⟩ (.func (.func 83) #[] #[.pointer (some ⟨t, 0, none⟩), .pointer (some ⟨f, 0, none⟩)])).setCell ⟨kR, i * 2 + 1, none⟩ (.func (.func 44) #[] #[])).heap.size = w1.heap.size := by simp
  have lf : ∀ tb fb rb y, kR < tb → kR < fb → kR < rb → Leaf w1 tb fb rb ts y → Leaf ((w1.setCell ⟨kR, i * 2, none⟩ (.func (.func 83) #[] #[.pointer (some ⟨t, 0, none⟩), .pointer (some ⟨f, 0, none⟩)])).setCell ⟨kR, i * 2 + 1, none⟩ (.func (.func 44) #[] #[])) tb fb rb ts y := fun tb fb rb y h1 h2 h3 h4 => leaf_far (leaf_far h4 (by omega) (by omega) (by omega) _ _) (by omega) (by omega) (by omega) _ _
  generalize (w1.setCell ⟨kR, i * 2, none⟩ (.func (.func 83) #[] #[.pointer (some ⟨t, 0, none⟩), .pointer (some ⟨f, 0, none⟩)])).setCell ⟨kR, i * 2 + 1, none⟩ (.func (.func 44) #[] #[]) = W' at *
  have hb1 := hB1.size
  refine ⟨fun k => if k = i then t else tb k, fun k => if k = i then f else fb k, fun k => if k = i then r else rb k, hB2, ?_, ?_, by omega, ⟨_, ?_, r4, ?_⟩, ?_⟩
  · rw [World.cell?_of_block (a := ⟨w.heap.size, 0, none⟩) ((hs w.heap.size (by omega)).trans (hB1.block w.heap.size (by omega)))]
    exact h.box
  · exact (hs _ (by omega)).trans ((hB1.block _ (by omega)).trans h.res)
  · simp [v1]
  · intro k hk
    by_cases e : k = i
    · subst e
      simp [Array.getElem?_setIfInBounds, v1]
      omega
    · have n1 : ¬ i * 2 + 1 = k * 2 := by omega
      have n2 : ¬ i * 2 = k * 2 := by omega
      have n3 : ¬ i * 2 + 1 = k * 2 + 1 := by omega
      have n4 : ¬ i * 2 = k * 2 + 1 := by omega
      simp only [Array.getElem?_setIfInBounds, n1, n2, n3, n4, e, if_false]
      exact v3 k (by omega)
  · intro k hk
    by_cases e : k = i
    · subst e
      simp only [if_true]
      exact ⟨lf _ _ _ _ (by omega) (by omega) (by omega) hL, by omega, by omega, by omega⟩
    · simp only [if_neg e]
      obtain ⟨q, q1, q2, q3⟩ := h.leaf k (by omega)
      refine ⟨lf _ _ _ _ q1 q2 q3 ⟨(hB1.cell (p := ⟨tb k, 0, none⟩) (cell_lt q.text)).trans q.text, (hB1.cell (p := ⟨fb k, 0, none⟩) (cell_lt q.asks)).trans q.asks, (hB1.cell (p := ⟨rb k, 1, none⟩) (cell_lt q.node)).trans q.node⟩, q1, q2, q3⟩
set_option maxRecDepth 20000 in
set_option maxHeartbeats 4000000 in
theorem wayCat (w : World) (ts ys : List Int) (q cap base : Nat) (hl : ts.length ≤ 22) (hts : ∀ t ∈ ts, 0 ≤ t ∧ t ≤ 255) (hn1 : 1 ≤ ys.length) (hn8 : ys.length ≤ 8) (hT : TabIn w) (h1 : 1 < w.heap.size) (hrow : w.ownsRow base 26 5 (.slice (some ⟨q, 0, none⟩) ys.length cap) ys.length (nodes ys)) :
    Calls Tryz.prog 27 #[.agg #[.int .i64 7, .int .i64 0, .int .i64 0, .string ⟨#[]⟩, .slice (some ⟨q, 0, none⟩) ys.length cap], .string (strOfNums ts)] w fun e w' => ∃ g : Gr, ∃ fn caps, g.ts = ts ∧ g.ys = ys ∧ Geo g ∧ restV g 0 = .func fn #[] caps ∧ e = .returned (.agg #[.func fn #[] caps, .func (.func 61) #[] #[.pointer (some ⟨g.kB, 0, none⟩), .pointer (some ⟨g.rB, 0, none⟩)]]) ∧ Net g (fun _ => none) w' ∧ Below w.heap.size w w' ∧ ∀ b, b < w.heap.size → b ≠ 1 → Out g b := by
  have hq := (World.ownsRow.lt hrow q rfl).2
  have HN := hide (fun i hi => node_at hrow i hi)
  obtain ⟨n, hn⟩ : ∃ n, n = ys.length := ⟨_, rfl⟩
  rw [← hn]
  have hn1' : 1 ≤ n := by omega
  have hn8' : n ≤ 8 := by omega
  have k109 : ∀ W : World, (Instr.makeSlice 109 (.int .i64 (n : Int)) (.int .i64 (n : Int))).run Tryz.prog W = .ok (.slice (some ⟨W.heap.size, 0, none⟩) n n) (W.alloc (.cells (madeCells #[.nilFunc, .nilFunc] (n * 2)) 52)) := fun W => make109 n (by omega) W
  obtain ⟨A, hA⟩ : ∃ A, A = madeCells #[.nilFunc, .nilFunc] (n * 2) := ⟨_, rfl⟩
  have hAz : A.size = n * 2 := by rw [hA]; simp [madeCells]
  rw [← hA] at k109
  have HL := hide (fun W i => wayLeaf W ts (ys.getD i 0))
  obtain ⟨W3, hW3⟩ : ∃ W3, W3 = ((w.alloc (.cells #[.int .i64 7, .int .i64 0, .int .i64 0, .string ⟨#[]⟩, .slice (some ⟨q, 0, none⟩) n cap] 26)).alloc (.cells #[.nilFunc, .nilFunc] 52)).alloc (.cells A 52) := ⟨_, rfl⟩
  have HB : Hid (Below w.heap.size w W3 ∧ W3.heap.size = w.heap.size + 3) := by
    rw [hW3]
    exact hide ⟨(((Below.refl w.heap.size w).alloc (Nat.le_refl _) _).alloc (by simp) _).alloc (by simp; omega) _, by simp⟩
  have x0 : W3.heap[w.heap.size]? = some (.cells #[.int .i64 7, .int .i64 0, .int .i64 0, .string ⟨#[]⟩, .slice (some ⟨q, 0, none⟩) n cap] 26 (0, 0)) := by
    rw [hW3, Below.heap_alloc _ _ _ (by simp; omega), Below.heap_alloc _ _ _ (by simp)]
    exact heap_alloc_new w _
  have x1 : W3.heap[w.heap.size + 1]? = some (.cells #[.nilFunc, .nilFunc] 52 (0, 0)) := by
    rw [hW3, Below.heap_alloc _ _ _ (by simp)]
    have h := heap_alloc_new (w.alloc (.cells #[.int .i64 7, .int .i64 0, .int .i64 0, .string ⟨#[]⟩, .slice (some ⟨q, 0, none⟩) n cap] 26)) (.cells #[.nilFunc, .nilFunc] 52)
    rw [show (w.alloc (.cells #[.int .i64 7, .int .i64 0, .int .i64 0, .string ⟨#[]⟩, .slice (some ⟨q, 0, none⟩) n cap] 26)).heap.size = w.heap.size + 1 by simp] at h
    exact h
  have x2 : W3.heap[w.heap.size + 1 + 1]? = some (.cells A 52 (0, 0)) := by
    rw [hW3]
    have h := heap_alloc_new ((w.alloc (.cells #[.int .i64 7, .int .i64 0, .int .i64 0, .string ⟨#[]⟩, .slice (some ⟨q, 0, none⟩) n cap] 26)).alloc (.cells #[.nilFunc, .nilFunc] 52)) (.cells A 52)
    rw [show ((w.alloc (.cells #[.int .i64 7, .int .i64 0, .int .i64 0, .string ⟨#[]⟩, .slice (some ⟨q, 0, none⟩) n cap] 26)).alloc (.cells #[.nilFunc, .nilFunc] 52)).heap.size = w.heap.size + 1 + 1 by simp] at h
    exact h
  have HS : Hid (WC w (w.heap.size + 1) (w.heap.size + 1 + 1) n ts ys 0 (fun _ => 0) (fun _ => 0) (fun _ => 0) W3) := hide ⟨HB.out.1, by rw [cell_one x0]; rfl, x1, by have := HB.out.2; omega, ⟨A, hAz, x2, fun k hk => by omega⟩, fun k hk => by omega⟩
  have b4 : W3.cell? ⟨w.heap.size, 4, none⟩ = some (.slice (some ⟨q, 0, none⟩) n cap) := by rw [cell_one x0]; rfl
  have HNN := hide hn
  have hord : w.heap.size < w.heap.size + 1 ∧ w.heap.size + 1 < w.heap.size + 1 + 1 := by omega
  obtain ⟨S, hS⟩ : ∃ S, S = strOfNums ts := ⟨_, rfl⟩
  rw [← hS] at HL ⊢
  have HSS := hide hS
  clear x0 x1 x2 hA hAz hn hrow HB hS
  go_enter Tryz.func27, Tryz.ntmps27
  go_wp2
  rw [← hW3]
  clear hW3 k109
  generalize w.heap.size + 1 + 1 = kR at *
  generalize w.heap.size + 1 = r1 at *
  go_loopw [6, 7, 15] (fun _ _ iv wr => ∃ i : Nat, i ≤ n ∧ iv = .int .i64 i ∧ ∃ tb fb rb, Hid (WC w r1 kR n ts ys i tb fb rb wr)) (fun _ _ iv _ => n - (intOf iv).toNat)
  case atStart => exact ⟨0, by omega, rfl, _, _, _, HS⟩
  case round =>
    obtain ⟨i, hi, rfl, tb, fb, rb, HX⟩ := hrel
    clear HS
    by_cases hin : i = n
    · subst hin
      have m0 := HX.out.box
      obtain ⟨vals, v1, v2, v3⟩ := HX.out.row
      have hb9 := HX.out.below
      have hz9 := hb9.size
      have HC : Hid (Calls Tryz.prog 40 #[.slice (some ⟨kR, 0, none⟩) i i, .string S] wr fun e w' => ∃ g : Gr, ∃ fn caps, g.ts = ts ∧ g.ys = ys ∧ Geo g ∧ restV g 0 = .func fn #[] caps ∧ e = .returned (.agg #[.func fn #[] caps, .func (.func 61) #[] #[.pointer (some ⟨g.kB, 0, none⟩), .pointer (some ⟨g.rB, 0, none⟩)]]) ∧ Net g (fun _ => none) w' ∧ Below wr.heap.size wr w' ∧ ∀ b, b ≤ r1 → b ≠ 1 → Out g b) := by
        rw [HSS.out]
        refine hide ((callsIn_wide.1 (catWay_any wr ts ys kR tb fb rb hl hts i HNN.out hn1' hn8' (hT.below hb9 h1) (by omega) HX.out.size ?_ (fun k hk => (HX.out.leaf k hk).1))).mono ?_)
        · intro k hk
          rw [cell_one v2, cell_one v2]
          exact v3 k hk
        · rintro e w' ⟨g, g1, g2, g3, g4, g5, g6, g7⟩
          obtain ⟨fn, caps, hv⟩ : ∃ fn caps, restV g 0 = .func fn #[] caps := by
            unfold restV
            split
            · exact ⟨_, _, rfl⟩
            · split
              · exact ⟨_, _, rfl⟩
              · exact ⟨_, _, rfl⟩
          rw [hv] at g4
          refine ⟨g, fn, caps, g1, g2, g3, hv, g4, g5, g6, fun b hb hb1 => g7 b (by have := HX.out.size; omega) hb1 (by omega) (fun k hk => ?_)⟩
          have := HX.out.leaf k hk
          omega
      have x1 := HX.out.res
      have hr1 : r1 < wr.heap.size := by have := HX.out.size; omega
      clear v2 v3 HL HN
      go_wp2_with (go_at_call 40; refine HC.out.mono ?_; rintro e w4 ⟨g, fn, caps, g1, g2, g3, hv, rfl, g5, g6, g7⟩; have y1 := (g6.block r1 hr1).trans x1; have r0 : w4.cell? ⟨r1, 0, none⟩ = some .nilFunc := (by rw [cell_one y1]; rfl); have r1' : w4.cell? ⟨r1, 1, none⟩ = some .nilFunc := (by rw [cell_one y1]; rfl); have r2 : w4.frozen? ⟨r1, 0, none⟩ = false := (by simp only [World.frozen?, y1]; simp); have r3 : w4.frozen? ⟨r1, 1, none⟩ = false := (by simp only [World.frozen?, y1]; simp); have H4 := hide (And.intro g1 (And.intro g2 (And.intro g3 (And.intro hv (And.intro g5 (And.intro g6 g7)))))); have HY := hide y1; clear g1 g2 g3 hv g5 g6 g7 y1)
      obtain ⟨g1, g2, g3, hv, g5, g6, g7⟩ := H4.out
      have z1 := way_end HY.out (.func fn #[] caps) (.func (.func 61) #[] #[.pointer (some ⟨g.kB, 0, none⟩), .pointer (some ⟨g.rB, 0, none⟩)])
      have hN5 := Net.patch (Net.patch g5 (g7 r1 (Nat.le_refl _) (by omega)) 0 (.func fn #[] caps)) (g7 r1 (Nat.le_refl _) (by omega)) 1 (.func (.func 61) #[] #[.pointer (some ⟨g.kB, 0, none⟩), .pointer (some ⟨g.rB, 0, none⟩)])
      have hB5 := ((hb9.trans (g6.mono hz9)).setCell (p := ⟨r1, 0, none⟩) (by simp; omega) (.func fn #[] caps)).setCell (p := ⟨r1, 1, none⟩) (by simp; omega) (.func (.func 61) #[] #[.pointer (some ⟨g.kB, 0, none⟩), .pointer (some ⟨g.rB, 0, none⟩)])
      generalize (w4.setCell ⟨r1, 0, none⟩ (.func fn #[] caps)).setCell ⟨r1, 1, none⟩ (.func (.func 61) #[] #[.pointer (some ⟨g.kB, 0, none⟩), .pointer (some ⟨g.rB, 0, none⟩)]) = w5 at *
      have u0 : w5.cell? ⟨r1, 0, none⟩ = some (.func fn #[] caps) := by rw [cell_one z1]; rfl
      have u1 : w5.cell? ⟨r1, 1, none⟩ = some (.func (.func 61) #[] #[.pointer (some ⟨g.kB, 0, none⟩), .pointer (some ⟨g.rB, 0, none⟩)]) := by rw [cell_one z1]; rfl
      exact bodyPost_ret (v := .agg #[.func fn #[] caps, .func (.func 61) #[] #[.pointer (some ⟨g.kB, 0, none⟩), .pointer (some ⟨g.rB, 0, none⟩)]]) (by simp [results, Tryz.results27, go_sem, u0, u1]) rfl ⟨g, fn, caps, g1, g2, g3, hv, rfl, hN5, hB5, fun b hb hb1 => g7 b (by omega) hb1⟩
    · have hin' : i < n := by omega
      have hq2 : q < w.heap.size := hq
      obtain ⟨d0, d1, d2, d3, d4⟩ := HN.out i (by rw [← HNN.out]; exact hin')
      rw [show 5 * i = i * 5 by omega] at d0 d1 d2 d3 d4
      have hb9 := HX.out.below
      rw [← hb9.cell (p := ⟨q, i * 5, none⟩) hq2] at d0
      rw [← hb9.cell (p := ⟨q, i * 5 + 1, none⟩) hq2] at d1
      rw [← hb9.cell (p := ⟨q, i * 5 + 2, none⟩) hq2] at d2
      rw [← hb9.cell (p := ⟨q, i * 5 + 3, none⟩) hq2] at d3
      rw [← hb9.cell (p := ⟨q, i * 5 + 4, none⟩) hq2] at d4
      obtain ⟨vals, v1, v2, v3⟩ := HX.out.row
      have hsz := HX.out.size
      have hii : (i : Int) < (n : Int) := by omega
      have HL2 : Hid (∀ o, Calls Tryz.prog 27 #[.agg #[.int .i64 1, .int .i64 (ys.getD i 0), .int .i64 0, .string ⟨#[]⟩, .slice none 0 0], .string S] (wr.alloc o) fun e w' => ∃ t f r, e = .returned (.agg #[.func (.func 83) #[] #[.pointer (some ⟨t, 0, none⟩), .pointer (some ⟨f, 0, none⟩)], .func (.func 44) #[] #[]]) ∧ Leaf w' t f r ts (ys.getD i 0) ∧ (wr.heap.size ≤ t ∧ wr.heap.size ≤ f ∧ wr.heap.size ≤ r) ∧ Below (wr.heap.size + 1) (wr.alloc o) w') := by
        refine hide (fun o => (HL.out (wr.alloc o) i).mono ?_)
        rintro e w' ⟨t, f, r, h1, h2, h3, h4⟩
        rw [show (wr.alloc o).heap.size = wr.heap.size + 1 by simp] at h3 h4
        exact ⟨t, f, r, h1, h2, by omega, h4⟩
      obtain ⟨y, hy⟩ : ∃ y, y = ys.getD i 0 := ⟨_, rfl⟩
      have HSt := hide (fun (o : Obj) (w1 : World) hb t f r hL ht => WC.step (w1 := w1) HX.out hord hin' o hb t f r hL ht)
      rw [← hy] at d1 HL2 HSt
      have hv9 : ∀ (w1 : World) (o : Obj), Below (wr.heap.size + 1) (wr.alloc o) w1 → (∃ old, w1.cell? ⟨kR, i * 2, none⟩ = some old) ∧ (∃ old, w1.cell? ⟨kR, i * 2 + 1, none⟩ = some old) ∧ w1.frozen? ⟨kR, i * 2, none⟩ = false ∧ w1.frozen? ⟨kR, i * 2 + 1, none⟩ = false := by
        intro w1 o hb
        have h9 : w1.heap[kR]? = some (.cells vals 52 (0, 0)) := (hb.block kR (by omega)).trans ((Below.heap_alloc _ _ _ hsz).trans v2)
        refine ⟨?_, ?_, ?_, ?_⟩
        · rw [cell_one h9]
          exact ⟨_, Array.getElem?_eq_getElem (by omega)⟩
        · rw [cell_one h9]
          exact ⟨_, Array.getElem?_eq_getElem (by omega)⟩
        · simp only [World.frozen?, h9]; simp
        · simp only [World.frozen?, h9]; simp
      have HV := hide hv9
      clear hy v2 v3 v1 hv9 HL hb9 HX HN
      go_wp2_with (go_at_call 27; refine (HL2.out _).mono ?_; rintro e w4 ⟨t, f, r, rfl, h4, ht4, hb4⟩; obtain ⟨⟨o1, p1⟩, ⟨o2, p2⟩, p3, p4⟩ := HV.out _ _ hb4; have H4 := hide (And.intro h4 (And.intro ht4 hb4)); clear h4 ht4 hb4)
      obtain ⟨tb', fb', rb', hW⟩ := HSt.out _ _ H4.out.2.2 t f r H4.out.1 H4.out.2.1
      go_roundw
      case rel => exact ⟨i + 1, by omega, by go_num, tb', fb', rb', hide hW⟩
      case measure => simp [intOf]; omega
end Go.Proofs.YtfpeajbfimodfaaGreatDoor.wayc

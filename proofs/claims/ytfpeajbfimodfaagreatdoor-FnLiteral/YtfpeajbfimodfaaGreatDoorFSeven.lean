/- Find at a tree of letters over a text that has them. -/
import Derived.Test.YtfpeajbfimodfaaGreatDoorFnd
namespace Go.Proofs.YtfpeajbfimodfaaGreatDoor.fseven
open Go.ChangeShapes Go.WideShapes Go.ChangeAt Go.RowKit
open Go.Proofs.YtfpeajbfimodfaaGreatDoor.bytes Go.Proofs.YtfpeajbfimodfaaGreatDoor.letters Go.Proofs.YtfpeajbfimodfaaGreatDoor.read Go.Proofs.YtfpeajbfimodfaaGreatDoor.pat Go.Proofs.YtfpeajbfimodfaaGreatDoor.places Go.Proofs.YtfpeajbfimodfaaGreatDoor.sets Go.Proofs.YtfpeajbfimodfaaGreatDoor.leaf Go.Proofs.YtfpeajbfimodfaaGreatDoor.tz Go.Proofs.YtfpeajbfimodfaaGreatDoor.net Go.Proofs.YtfpeajbfimodfaaGreatDoor.ci Go.Proofs.YtfpeajbfimodfaaGreatDoor.rests Go.Proofs.YtfpeajbfimodfaaGreatDoor.part Go.Proofs.YtfpeajbfimodfaaGreatDoor.sea Go.Proofs.YtfpeajbfimodfaaGreatDoor.fnd
set_option linter.unusedVariables false

theorem find_all (g : Gr) (hg : Geo g) (w : World) (hN : Net g (fun _ => none) w) (fn : Fn) (caps : Array Value) (hv : restV g 0 = .func fn #[] caps) (f0 : Nat) (hf0 : f0 ≤ g.ts.length) (hex : restE g.ts g.ys f0 ≠ 0) :
    Calls Tryz.prog 16 #[.agg #[.string (strOfNums g.ts), .int .i64 0, .func fn #[] caps, .func (.func 61) #[] #[.pointer (some ⟨g.kB, 0, none⟩), .pointer (some ⟨g.rB, 0, none⟩)]], .int .i64 0] w fun e w' => ∃ f b : Nat, f + g.ys.length ≤ g.ts.length ∧ restE g.ts g.ys f ≠ 0 ∧ (∀ i, i < f → restE g.ts g.ys i = 0) ∧ e = .returned (.slice (some ⟨b, 0, none⟩) 2 2) ∧ w'.cell? ⟨b, 0, none⟩ = some (.int .i64 (f : Nat)) ∧ w'.cell? ⟨b, 1, none⟩ = some (.int .i64 ((f + g.ys.length : Nat) : Int)) ∧ w.heap.size ≤ b ∧ St g 0 (fun _ => none) w w.heap.size w' := by
  have hOK := rest_ok g hg g.ys.length 0 (by omega)
  have hs := hg.some
  rw [← hv]
  unfold restV
  rw [if_neg (by omega)]
  by_cases e : 0 + 1 = g.ys.length
  · rw [if_pos e]
    exact find83 g hg _ w hN (g.tb 0) (g.fb 0) (fun p hp => hOK.one e p hp) f0 hf0 hex
  · rw [if_neg e]
    exact find78 g hg _ w hN _ _ _ _ (fun p hp => hOK.more (by omega) p hp) f0 hf0 hex
theorem some29 (a n c : Nat) (W : World) : Sem.run Tryz.prog (binOp .eql 29 (.slice (some ⟨a, 0, none⟩) n c) (.slice none 0 0)) W = .ok (.bool false) W := by kernel_rfl
set_option maxRecDepth 20000 in
set_option maxHeartbeats 4000000 in
theorem find_seven (w : World) (ts ys : List Int) (q cap base : Nat) (hl : ts.length ≤ 22) (hts : ∀ t ∈ ts, 0 ≤ t ∧ t ≤ 255) (hn1 : 1 ≤ ys.length) (hn8 : ys.length ≤ 8) (hy : ∀ y ∈ ys, Letter y) (hT : TabIn w) (h1 : 1 < w.heap.size) (hrow : w.ownsRow base 26 5 (.slice (some ⟨q, 0, none⟩) ys.length cap) ys.length (nodes ys)) (f0 : Nat) (hf0 : f0 ≤ ts.length) (hex : restE ts ys f0 ≠ 0) :
    Calls Tryz.prog 7 #[.agg #[.int .i64 7, .int .i64 0, .int .i64 0, .string ⟨#[]⟩, .slice (some ⟨q, 0, none⟩) ys.length cap], .string (strOfNums ts), .int .i64 0] w fun e w' => ∃ f b : Nat, f + ys.length ≤ ts.length ∧ restE ts ys f ≠ 0 ∧ (∀ i, i < f → restE ts ys i = 0) ∧ e = .returned (.tuple #[.slice (some ⟨b, 0, none⟩) 2 2, .int .i64 0]) ∧ w'.cell? ⟨b, 0, none⟩ = some (.int .i64 (f : Nat)) ∧ w'.cell? ⟨b, 1, none⟩ = some (.int .i64 ((f + ys.length : Nat) : Int)) ∧ w.heap.size ≤ b ∧ Below w.heap.size w w' := by
  have hs : (strOfNums ts).size = ts.length := strOfNums_size _
  obtain ⟨n, hn⟩ : ∃ n, n = ys.length := ⟨_, rfl⟩
  obtain ⟨W1, hW1⟩ : ∃ W1, W1 = w.alloc (.cells #[.int .i64 7, .int .i64 0, .int .i64 0, .string ⟨#[]⟩, .slice (some ⟨q, 0, none⟩) n cap] 26) := ⟨_, rfl⟩
  have hB1 : Below w.heap.size w W1 := by
    rw [hW1]
    exact (Below.refl w.heap.size w).alloc (Nat.le_refl _) _
  have hz1 : W1.heap.size = w.heap.size + 1 := by rw [hW1]; simp
  have HSe : Hid (Calls Tryz.prog 15 #[.agg #[.int .i64 7, .int .i64 0, .int .i64 0, .string ⟨#[]⟩, .slice (some ⟨q, 0, none⟩) n cap], .string (strOfNums ts)] W1 fun e w' => ∃ g : Gr, ∃ fn caps, e = .returned (.tuple #[.agg #[.string (strOfNums ts), .int .i64 0, .func fn #[] caps, .func (.func 61) #[] #[.pointer (some ⟨g.kB, 0, none⟩), .pointer (some ⟨g.rB, 0, none⟩)]], .int .i64 0]) ∧ Hid (∀ o, Calls Tryz.prog 16 #[.agg #[.string (strOfNums ts), .int .i64 0, .func fn #[] caps, .func (.func 61) #[] #[.pointer (some ⟨g.kB, 0, none⟩), .pointer (some ⟨g.rB, 0, none⟩)]], .int .i64 0] (w'.alloc o) fun e w' => ∃ f b : Nat, f + ys.length ≤ ts.length ∧ restE ts ys f ≠ 0 ∧ (∀ i, i < f → restE ts ys i = 0) ∧ e = .returned (.slice (some ⟨b, 0, none⟩) 2 2) ∧ w'.cell? ⟨b, 0, none⟩ = some (.int .i64 (f : Nat)) ∧ w'.cell? ⟨b, 1, none⟩ = some (.int .i64 ((f + ys.length : Nat) : Int)) ∧ w.heap.size ≤ b ∧ Below w.heap.size w w')) := by
    rw [hn]
    refine hide ((searchOf_any W1 ts ys q cap base hl hts hn1 hn8 hy (hT.below hB1 h1) (by omega) (row_below hrow hB1)).mono ?_)
    rintro e w' ⟨g, fn, caps, g1, g2, g3, hv, g4, g5, g6, g7⟩
    refine ⟨g, fn, caps, g4, hide (fun o => ?_)⟩
    have hb := (Below.refl w'.heap.size w').alloc (Nat.le_refl _) o
    have hz6 := g6.size
    have hN := g5.below g3 hb
    have h := find_all g g3 _ hN fn caps hv f0 (by rw [g1]; exact hf0) (by rw [g1, g2]; exact hex)
    rw [g1, g2] at h
    refine h.mono ?_
    rintro e w2 ⟨f, b, k1, k2, k3, k4, k5, k6, k7, R9, hn9, hv9⟩
    rw [show (w'.alloc o).heap.size = w'.heap.size + 1 by simp] at k7
    refine ⟨f, b, k1, k2, k3, k4, k5, k6, by omega, ?_⟩
    have hB9 : Below w.heap.size (w'.alloc o) w2 := by
      refine ⟨hv9.os, hv9.tape, hv9.output, by have := hv9.lo; have := hv9.size; omega, fun b hb9 => hv9.same b (by simp; omega) ?_⟩
      rintro ⟨j, _, hj, hm⟩
      by_cases e1 : b = 1
      · have := g3.one.2 j hj
        rcases hm with hm | hm | ⟨a, d, hR, _⟩
        · omega
        · omega
        · cases hR
      · have hO := (g7 b (by omega) e1).lay j hj
        rcases hm with hm | hm | ⟨a, d, hR, _⟩
        · omega
        · omega
        · cases hR
    exact (hB1.trans ((g6.mono (by omega)).trans (hb.mono (by omega)))).trans hB9
  rw [← hn]
  have x0 : W1.heap[w.heap.size]? = some (.cells #[.int .i64 7, .int .i64 0, .int .i64 0, .string ⟨#[]⟩, .slice (some ⟨q, 0, none⟩) n cap] 26 (0, 0)) := by
    rw [hW1]
    exact heap_alloc_new w _
  have b0 : W1.cell? ⟨w.heap.size, 0, none⟩ = some (.int .i64 7) := by rw [cell_one x0]; rfl
  have b1 : W1.cell? ⟨w.heap.size, 1, none⟩ = some (.int .i64 0) := by rw [cell_one x0]; rfl
  have b2 : W1.cell? ⟨w.heap.size, 2, none⟩ = some (.int .i64 0) := by rw [cell_one x0]; rfl
  have b3 : W1.cell? ⟨w.heap.size, 3, none⟩ = some (.string ⟨#[]⟩) := by rw [cell_one x0]; rfl
  have b4 : W1.cell? ⟨w.heap.size, 4, none⟩ = some (.slice (some ⟨q, 0, none⟩) n cap) := by rw [cell_one x0]; rfl
  have hsome := some29
  have hlen0 : ¬ (ts.length : Int) < 0 := by omega
  have HNN := hide hn
  rw [← hn] at HSe
  obtain ⟨S, hS⟩ : ∃ S, S = strOfNums ts := ⟨_, rfl⟩
  rw [← hS] at hs HSe ⊢
  clear hn x0 hrow hS hT hB1 hz1 hex hy
  go_enter Tryz.func7, Tryz.ntmps7
  go_wp2_with fail
  rw [← hW1]
  clear hW1
  refine HSe.out.mono ?_
  rintro e w2 ⟨g, fn, caps, rfl, HFd⟩
  clear HSe b0 b1 b2 b3 b4
  generalize g.kB = kB at HFd ⊢
  generalize g.rB = rB at HFd ⊢
  go_wp2_with fail
  refine (HFd.out _).mono ?_
  rintro e w4 ⟨f, b, k1, k2, k3, rfl, k5, k6, k7, k8⟩
  have HK := hide (And.intro k1 (And.intro k2 (And.intro k3 (And.intro k5 (And.intro k6 (And.intro k7 k8))))))
  clear k1 k2 k3 k5 k6 k7 k8 HFd
  go_wp2
  go_ret2
  obtain ⟨k1, k2, k3, k5, k6, k7, k8⟩ := HK.out
  exact ⟨f, b, k1, k2, k3, rfl, k5, k6, k7, k8⟩
end Go.Proofs.YtfpeajbfimodfaaGreatDoor.fseven

import Derived.Test.YtklkglbimjajnaaQ11
import Derived.Deep.RegionLaw
import Derived.WalkMore
import Derived.Deep.Cut
set_option linter.unusedVariables false
open Go.ChangeShapes Go.WideShapes Go.ChangeAt Go.RowKit
namespace Go.Proofs.Ytklkglbimjajnaa.eve
open Raft mem grp ndw src drb crun evd
def App (w : World) (M : Fz) (d q n : Nat) (v : Value) (wy : World) (cells : List Value) (X : World) : Prop := ∃ ys, X.ownsRow w.heap.size 58 3 v n ys ∧ (∀ j u, cells[j]? = some u → X.cell? ((⟨wy.heap.size, 0, none⟩ : Addr).add j) = some u) ∧ w.heap.size ≤ X.heap.size ∧
      ∀ g cap w', w'.ownsRow w.heap.size 58 3 (.slice (some ⟨g, 0, none⟩) (n + 1) cap) (n + 1) (ys ++ cells) → X.grownBy w' v.ownBlock → (v.ownBlock = some g ∨ g = X.heap.size) → EI w M d q (n + 1) (.slice (some ⟨g, 0, none⟩) (n + 1) cap) w'
def Two (w : World) (M : Fz) (d q n : Nat) (v : Value) (a b m : Int) (w1 wx w2 : World) (e : Ending) : Prop :=
  ∃ (t : Nat) (K : Int) (XI : World), e = .returned (.int .i64 (t : Int)) ∧ (t : Int) < 2 ∧ w2.alloc (.cells #[.int .i64 a, .int .i64 b] 3) = XI ∧ XI.cell? ⟨w2.heap.size, t, none⟩ = some (.int .i64 K) ∧ Hid (wx.heap[w1.heap.size]? = some (.cells #[.int .i64 a, .int .i64 b] 3 (0, 0)) → w2.cell? ⟨w1.heap.size, t, none⟩ = some (.int .i64 K)) ∧
    Hid (∀ wy, Below w2.heap.size w2 wy → Calls Try.prog 85 #[.pointer (some ⟨d, 0, none⟩), .int .i64 m] wy fun e w3 => ∃ (s : Nat) (XJ X3 X4 : World), e = .returned (.int .i64 (s : Int)) ∧ w3.alloc (.cells #[.int .i64 a, .int .i64 b] 3) = XJ ∧ XJ.cell? ⟨w3.heap.size, t, none⟩ = some (.int .i64 K) ∧
      w3.alloc (.cells #[.int .i64 K, .int .i64 (s : Int), .slice none 0 0] 58) = X3 ∧ XJ.alloc (.cells #[.int .i64 K, .int .i64 (s : Int), .slice none 0 0] 58) = X4 ∧ Hid (w2.cell? ⟨w1.heap.size, t, none⟩ = some (.int .i64 K) → w3.cell? ⟨w1.heap.size, t, none⟩ = some (.int .i64 K)) ∧ Hid (wy.cell? ⟨w2.heap.size, t, none⟩ = some (.int .i64 K) → w3.cell? ⟨w2.heap.size, t, none⟩ = some (.int .i64 K)) ∧
      Hid (App w M d (q + 2) n v w3 [.int .i64 K, .int .i64 (s : Int), .slice none 0 0] X3) ∧ Hid (App w M d (q + 2) n v XJ [.int .i64 K, .int .i64 (s : Int), .slice none 0 0] X4))
theorem lit_app {w wr X : World} {M : Fz} {d q n : Nat} {so : Option Addr} {sn sc : Nat} (h : EI w M d q n (.slice so sn sc) wr) (k m : Int) (hX : wr.alloc (.cells #[.int .i64 k, .int .i64 m, .slice none 0 0] 58) = X) : App w M d q n (.slice so sn sc) wr [.int .i64 k, .int .i64 m, .slice none 0 0] X := EP.lit h k m hX
theorem two_cell (W : World) (a b : Int) (t : Nat) (ht : t < 2) : ∃ K : Int, (∀ (W : World) (g : Nat), W.heap[g]? = some (.cells #[.int .i64 a, .int .i64 b] 3 (0, 0)) → W.cell? ⟨g, t, none⟩ = some (.int .i64 K)) := by
  obtain rfl | rfl : t = 0 ∨ t = 1 := by omega
  · exact ⟨a, fun W g h => cell_of h rfl⟩
  · exact ⟨b, fun W g h => cell_of h rfl⟩
theorem two {w w1 wx : World} {M : Fz} {d q n : Nat} {so : Option Addr} {sn sc : Nat} (h : EI w M d q n (.slice so sn sc) w1) (hq : q ≤ 100000000) (a b m : Int) (hm : m ≤ 256) (hx : Below w1.heap.size w1 wx) :
    Calls Try.prog 85 #[.pointer (some ⟨d, 0, none⟩), .int .i64 2] wx fun e w2 => Two w M d q n (.slice so sn sc) a b m w1 wx w2 e := by
  have hdlt : d < w1.heap.size := by obtain ⟨us, M', ys, hl, hk, _⟩ := h; exact hk.src.lt
  refine ((h.below hx).next (by omega) 2 (by omega)).mono ?_
  rintro e w2 ⟨t, rfl, ht, g1, H2⟩
  obtain ⟨K, hK⟩ := two_cell w1 a b t (by omega)
  have hs1 := hx.size
  have hs2 := g1.size
  refine ⟨t, K, _, rfl, by omega, rfl, hK _ _ (heap_alloc_new w2 _), fun hI => hK _ _ ((g1.block _ (Array.getElem?_eq_some_iff.1 hI).1 (fun e => by simp only [Option.some.injEq] at e; omega)).trans hI), fun wy hy => ?_⟩
  refine ((H2.out.below hy).next (by omega) m hm).mono ?_
  rintro e w3 ⟨s, rfl, hs, g3, H3⟩
  have hs3 := hy.size
  refine ⟨s, _, _, _, rfl, rfl, hK _ _ (heap_alloc_new w3 _), rfl, rfl, fun hc => ?_, fun hc => ?_, lit_app H3.out K s rfl, lit_app (H3.out.below (grp.more (Below.refl _ _) _)) K s rfl⟩
  · have hlt := World.block_lt_of_cell? w2 _ hc
    have h1 := hy.cell (p := ⟨w1.heap.size, t, none⟩) hlt
    rw [World.cell?_of_block (g3.block w1.heap.size (Nat.lt_of_lt_of_le hlt hy.size) (fun e => by simp only [Option.some.injEq] at e; omega))]
    exact h1.trans hc
  · have hlt := World.block_lt_of_cell? wy _ hc
    rw [World.cell?_of_block (g3.block w2.heap.size hlt (fun e => by simp only [Option.some.injEq] at e; omega))]
    exact hc
set_option maxRecDepth 20000 in
set_option maxHeartbeats 4000000 in
theorem events_any (w : World) (M : Fz) (d q : Nat) (h : Src w M d q) (hq : q ≤ 10000000) (n : Nat) (h1 : 1 ≤ n) (h7 : n ≤ 7) :
    Calls Try.prog 84 #[.pointer (some ⟨d, 0, none⟩), .int .i64 n] w fun e w' => EvsE w M d (q + 30000) 70 e w' := by
  obtain ⟨X, hX⟩ : ∃ X, w.alloc (.cells #[] 58) = X := ⟨_, rfl⟩
  have H0 := hide (EI.none h hX)
  have HS : Hid (Calls Try.prog 125 #[.pointer (some ⟨d, 0, none⟩), .int .i64 60] X fun e w1 => ∃ r : Nat, e = .returned (.int .i64 (r : Int)) ∧ (1 ≤ r ∧ r ≤ 60) ∧ Hid (EI w M d q 0 (.slice (some ⟨w.heap.size, 0, none⟩) 0 0) w1)) := by
    have bX : Below w.heap.size w X := by rw [← hX]; exact grp.more (Below.refl _ _) _
    refine (size_any X M d q 60 (by omega) (by omega) (h.below bX)).mono ?_
    rintro e w1 ⟨r, rfl, ⟨r1, r2⟩, m, rfl⟩
    exact ⟨r.toNat, by rw [Int.toNat_of_nonneg (by omega)], by omega, H0.out.below ⟨rfl, rfl, rfl, Nat.le_refl _, fun _ _ => rfl⟩⟩
  obtain ⟨i0, hii, hz0, hz1, hz2⟩ := info_parts info58
  have HI3 : Hid (Try.prog.info? 58 = some i0 ∧ i0.zero = some (.agg #[.int .i64 0, .int .i64 0, .slice none 0 0]) ∧ i0.size = 3 ∧ i0.bytes = 40) := ⟨hii, hz0, hz1, hz2⟩
  clear hii hz0 hz1 hz2 h H0
  go_enter Try.func84, Try.ntmps84
  go_wp2_with fail
  refine HS.out.mono ?_
  rintro e w1 ⟨z, rfl, hz, H1⟩
  have HC1 := hide (EP.next H1.out (by omega) ((z : Int) + 10) (by omega))
  have a2 : IntKind.i64.wrap ((z : Int) + 10) = (z : Int) + 10 := (by rw [IntKind.wrap_i64]; omega)
  clear HS H1 hX
  go_wp2_with (go_at_call 85; refine HC1.out.mono ?_; rintro e w2 ⟨N, rfl, hN, g2, H2⟩)
  clear HC1 g2 a2
  go_loopw [5, 6] (fun v i wr => ∃ (u l k : Nat) (so : Option Addr) (sc : Nat), u + l = N ∧ k ≤ u ∧ v = .slice so k sc ∧ i = .int .i64 l ∧ Hid (EI w M d (q + 1 + u * 300) k v wr)) (fun _ i _ => (intOf i).toNat)
  case atStart => exact ⟨0, N, 0, _, _, by omega, by omega, rfl, rfl, H2⟩
  case round =>
    clear H2
    obtain ⟨u, l, k, so, sc, hul, hku, rfl, rfl, HR⟩ := hrel
    by_cases hlt : 0 < l
    · have hltI : (0 : Int) < l := by omega
      have HC := hide (EP.next HR.out (by omega) 12 (by omega))
      clear HR
      go_wp2_with fail
      refine HC.out.mono ?_
      rintro e w1 ⟨r, rfl, hr, g1, H1⟩
      clear HC g1
      by_cases r0 : r = 0
      · subst r0
        have HD := hide (EP.next H1.out (by omega) n (by omega))
        clear H1
        go_wp2_with (first
          | (go_at_call 85; refine HD.out.mono ?_; rintro e w2 ⟨t, rfl, ht, g2, H2⟩; obtain ⟨X2, hX2⟩ : ∃ X, w2.alloc (.cells #[.int .i64 1, .int .i64 (t : Int), .slice none 0 0] 58) = X := ⟨_, rfl⟩; have HJ := hide (EP.lit H2.out 1 t hX2))
          | (at_builtin; obtain ⟨ys, y1, y2, y3, y4⟩ := HJ.out; refine wpList_append_lies _ rfl _ _ 24 rfl w.heap.size 58 i0 (.agg #[.int .i64 0, .int .i64 0, .slice none 0 0]) 3 40 Try.underlying24 HI3.out.1 HI3.out.2.1 HI3.out.2.2.1 HI3.out.2.2.2 rfl (by decide) _ (k) ys rfl y1 ⟨w2.heap.size, 0, none⟩ 1 1 [.int .i64 1, .int .i64 (t : Int), .slice none 0 0] rfl rfl y2 (fun u' hu' => by simp only [List.mem_cons, List.not_mem_nil, or_false] at hu'; rcases hu' with rfl | rfl | rfl <;> rfl) (by decide) (by unfold maxLen; omega) (by omega) y3 _ rfl ?_; intro g2 cap2 wn z1 z2 z3 z4; have HN := hide (y4 g2 cap2 wn z1 z2 z3); clear z1 z2 z3 z4 y1 y2 y3 y4))
        go_roundw
        case rel => exact ⟨u + 1, l - 1, k + 1, some ⟨g2, 0, none⟩, cap2, by omega, by omega, rfl, by go_num, EP.more HN.out (by omega)⟩
        case measure => simp [intOf]; omega
      by_cases r1 : r = 1
      · subst r1
        have HD := hide (EP.next H1.out (by omega) n (by omega))
        clear H1
        go_wp2_with (first
          | (go_at_call 85; refine HD.out.mono ?_; rintro e w2 ⟨t, rfl, ht, g2, H2⟩; have HB := hide (EP.bytes H2.out (by omega)))
          | (go_at_call 124; refine HB.out.mono ?_; rintro e w3 ⟨o3, l3, c3, rfl, H3⟩; obtain ⟨X2, hX2⟩ : ∃ X, w3.alloc (.cells #[.int .i64 7, .int .i64 (t : Int), .slice o3 l3 c3] 58) = X := ⟨_, rfl⟩; have HJ := hide (EP.lit H3.out 7 t hX2))
          | (at_builtin; obtain ⟨ys, y1, y2, y3, y4⟩ := HJ.out; refine wpList_append_lies _ rfl _ _ 24 rfl w.heap.size 58 i0 (.agg #[.int .i64 0, .int .i64 0, .slice none 0 0]) 3 40 Try.underlying24 HI3.out.1 HI3.out.2.1 HI3.out.2.2.1 HI3.out.2.2.2 rfl (by decide) _ (k) ys rfl y1 ⟨w3.heap.size, 0, none⟩ 1 1 [.int .i64 7, .int .i64 (t : Int), .slice o3 l3 c3] rfl rfl y2 (fun u' hu' => by simp only [List.mem_cons, List.not_mem_nil, or_false] at hu'; rcases hu' with rfl | rfl | rfl <;> rfl) (by decide) (by unfold maxLen; omega) (by omega) y3 _ rfl ?_; intro g2 cap2 wn z1 z2 z3 z4; have HN := hide (y4 g2 cap2 wn z1 z2 z3); clear z1 z2 z3 z4 y1 y2 y3 y4))
        go_roundw
        case rel => exact ⟨u + 1, l - 1, k + 1, some ⟨g2, 0, none⟩, cap2, by omega, by omega, rfl, by go_num, EP.more HN.out (by omega)⟩
        case measure => simp [intOf]; omega
      by_cases r2 : r = 2
      · subst r2
        have HT := hide (fun wx (hx : Below w1.heap.size w1 wx) => two H1.out (by omega) 3 4 5 (by omega) hx)
        clear H1
        go_wp2
        go_region_law (first
            | (go_simp; go_at_call 85; have _h := HC2; refine (HC2.out _ (by first | (with_reducible exact Below.refl _ _) | (rw [← hXI]; exact grp.more (Below.refl _ _) _))).mono ?_; rintro e w3 ⟨s, XJ, X3, X4, rfl, hXJ, hKJ, hX3, hX4, hk1, hk2, HA3, HA4⟩; first | (have hKb := hk1.out hKa) | (have hKb := hk2.out hKX) | skip)
            | (go_simp; go_at_call 85; refine (HT.out _ (by first | exact (Below.refl _ _).drew | exact (grp.more (Below.refl _ _) _).drew)).mono ?_; rintro e w2 ⟨t, K, XI, rfl, ht2, hXI, hKX, hK0, HC2⟩; first | (have hKa := hK0.out (heap_alloc_new w1 _)) | skip)
            | (have _h := HA3; obtain ⟨ys, y1, y2, y3, y4⟩ := HA3.out; refine step_append_lies _ rfl _ _ 24 rfl w.heap.size 58 i0 (.agg #[.int .i64 0, .int .i64 0, .slice none 0 0]) 3 40 Try.underlying24 HI3.out.1 HI3.out.2.1 HI3.out.2.2.1 HI3.out.2.2.2 rfl (by decide) _ (k) ys rfl y1 ⟨w3.heap.size, 0, none⟩ 1 1 [.int .i64 K, .int .i64 (s : Int), .slice none 0 0] rfl rfl y2 (fun u' hu' => by simp only [List.mem_cons, List.not_mem_nil, or_false] at hu'; rcases hu' with rfl | rfl | rfl <;> rfl) (by decide) (by unfold maxLen; omega) (by omega) y3 _ rfl ?_; intro g2 cap2 wn z1 z2 z3 z4; have HN := hide (y4 g2 cap2 wn z1 z2 z3); clear z1 z2 z3 z4 y1 y2 y3 y4)
            | (have _h := HA4; obtain ⟨ys, y1, y2, y3, y4⟩ := HA4.out; refine step_append_lies _ rfl _ _ 24 rfl w.heap.size 58 i0 (.agg #[.int .i64 0, .int .i64 0, .slice none 0 0]) 3 40 Try.underlying24 HI3.out.1 HI3.out.2.1 HI3.out.2.2.1 HI3.out.2.2.2 rfl (by decide) _ (k) ys rfl y1 ⟨XJ.heap.size, 0, none⟩ 1 1 [.int .i64 K, .int .i64 (s : Int), .slice none 0 0] rfl rfl y2 (fun u' hu' => by simp only [List.mem_cons, List.not_mem_nil, or_false] at hu'; rcases hu' with rfl | rfl | rfl <;> rfl) (by decide) (by unfold maxLen; omega) (by omega) y3 _ rfl ?_; intro g2 cap2 wn z1 z2 z3 z4; have HN := hide (y4 g2 cap2 wn z1 z2 z3); clear z1 z2 z3 z4 y1 y2 y3 y4))
        all_goals
          go_wp2
          go_roundw
        all_goals first
          | exact ⟨u + 1, l - 1, k + 1, some ⟨g2, 0, none⟩, cap2, by omega, by omega, rfl, by go_num, EP.more HN.out (by omega)⟩
          | (simp [intOf]; omega)
      by_cases r3 : r = 3
      · subst r3
        have HD := hide (EP.chance H1.out (by omega) 2 (by omega) (by omega))
        clear H1
        go_wp2_with fail
        refine HD.out.mono ?_
        rintro e w4 ⟨bb, rfl, H4⟩
        cases bb with
        | false =>
          go_wp2
          go_roundw
          case rel => exact ⟨u + 1, l - 1, k, so, sc, by omega, by omega, rfl, by go_num, EP.more H4.out (by omega)⟩
          case measure => simp [intOf]; omega
        | true =>
          have HT := hide (fun wx (hx : Below w4.heap.size w4 wx) => two H4.out (by omega) 5 6 n (by omega) hx)
          clear H4 HD
          go_wp2
          go_region_law (first
            | (go_simp; go_at_call 85; have _h := HC2; refine (HC2.out _ (by first | (with_reducible exact Below.refl _ _) | (rw [← hXI]; exact grp.more (Below.refl _ _) _))).mono ?_; rintro e w3 ⟨s, XJ, X3, X4, rfl, hXJ, hKJ, hX3, hX4, hk1, hk2, HA3, HA4⟩; first | (have hKb := hk1.out hKa) | (have hKb := hk2.out hKX) | skip)
            | (go_simp; go_at_call 85; refine (HT.out _ (by first | exact (Below.refl _ _).drew | exact (grp.more (Below.refl _ _) _).drew)).mono ?_; rintro e w2 ⟨t, K, XI, rfl, ht2, hXI, hKX, hK0, HC2⟩; first | (have hKa := hK0.out (heap_alloc_new w4 _)) | skip)
            | (have _h := HA3; obtain ⟨ys, y1, y2, y3, y4⟩ := HA3.out; refine step_append_lies _ rfl _ _ 24 rfl w.heap.size 58 i0 (.agg #[.int .i64 0, .int .i64 0, .slice none 0 0]) 3 40 Try.underlying24 HI3.out.1 HI3.out.2.1 HI3.out.2.2.1 HI3.out.2.2.2 rfl (by decide) _ (k) ys rfl y1 ⟨w3.heap.size, 0, none⟩ 1 1 [.int .i64 K, .int .i64 (s : Int), .slice none 0 0] rfl rfl y2 (fun u' hu' => by simp only [List.mem_cons, List.not_mem_nil, or_false] at hu'; rcases hu' with rfl | rfl | rfl <;> rfl) (by decide) (by unfold maxLen; omega) (by omega) y3 _ rfl ?_; intro g2 cap2 wn z1 z2 z3 z4; have HN := hide (y4 g2 cap2 wn z1 z2 z3); clear z1 z2 z3 z4 y1 y2 y3 y4)
            | (have _h := HA4; obtain ⟨ys, y1, y2, y3, y4⟩ := HA4.out; refine step_append_lies _ rfl _ _ 24 rfl w.heap.size 58 i0 (.agg #[.int .i64 0, .int .i64 0, .slice none 0 0]) 3 40 Try.underlying24 HI3.out.1 HI3.out.2.1 HI3.out.2.2.1 HI3.out.2.2.2 rfl (by decide) _ (k) ys rfl y1 ⟨XJ.heap.size, 0, none⟩ 1 1 [.int .i64 K, .int .i64 (s : Int), .slice none 0 0] rfl rfl y2 (fun u' hu' => by simp only [List.mem_cons, List.not_mem_nil, or_false] at hu'; rcases hu' with rfl | rfl | rfl <;> rfl) (by decide) (by unfold maxLen; omega) (by omega) y3 _ rfl ?_; intro g2 cap2 wn z1 z2 z3 z4; have HN := hide (y4 g2 cap2 wn z1 z2 z3); clear z1 z2 z3 z4 y1 y2 y3 y4))
          all_goals
            go_wp2
            go_roundw
          all_goals first
            | exact ⟨u + 1, l - 1, k + 1, some ⟨g2, 0, none⟩, cap2, by omega, by omega, rfl, by go_num, EP.more HN.out (by omega)⟩
            | (simp [intOf]; omega)
      · have n0 : ((r : Int) == 0) = false := by simp; omega
        have n1 : ((r : Int) == 1) = false := by simp; omega
        have n2 : ((r : Int) == 2) = false := by simp; omega
        have n3 : ((r : Int) == 3) = false := by simp; omega
        have HD := hide (EP.next H1.out (by omega) 4 (by omega))
        clear H1
        go_wp2_with (first
          | (go_at_call 85; refine HD.out.mono ?_; rintro e w2 ⟨t, rfl, ht, g2, H2⟩; obtain ⟨X2, hX2⟩ : ∃ X, w2.alloc (.cells #[.int .i64 2, .int .i64 (t : Int), .slice none 0 0] 58) = X := ⟨_, rfl⟩; have HJ := hide (EP.lit H2.out 2 t hX2))
          | (at_builtin; obtain ⟨ys, y1, y2, y3, y4⟩ := HJ.out; refine wpList_append_lies _ rfl _ _ 24 rfl w.heap.size 58 i0 (.agg #[.int .i64 0, .int .i64 0, .slice none 0 0]) 3 40 Try.underlying24 HI3.out.1 HI3.out.2.1 HI3.out.2.2.1 HI3.out.2.2.2 rfl (by decide) _ (k) ys rfl y1 ⟨w2.heap.size, 0, none⟩ 1 1 [.int .i64 2, .int .i64 (t : Int), .slice none 0 0] rfl rfl y2 (fun u' hu' => by simp only [List.mem_cons, List.not_mem_nil, or_false] at hu'; rcases hu' with rfl | rfl | rfl <;> rfl) (by decide) (by unfold maxLen; omega) (by omega) y3 _ rfl ?_; intro g2 cap2 wn z1 z2 z3 z4; have HN := hide (y4 g2 cap2 wn z1 z2 z3); clear z1 z2 z3 z4 y1 y2 y3 y4))
        go_roundw
        case rel => exact ⟨u + 1, l - 1, k + 1, some ⟨g2, 0, none⟩, cap2, by omega, by omega, rfl, by go_num, EP.more HN.out (by omega)⟩
        case measure => simp [intOf]; omega
    · have hlt2 : ¬ (0 : Int) < l := by omega
      go_wp2
      go_ret
      exact ⟨so, k, sc, rfl, by omega, EP.more HR.out (by omega)⟩
end Go.Proofs.Ytklkglbimjajnaa.eve

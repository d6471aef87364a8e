/- How a match of letters is parted: nothing is put into spans. -/
import Derived.Test.YtfpeajbfimodfaaGreatDoorRests
import Derived.WalkMore
import Derived.Laws.EntriesVeiled
namespace Go.Proofs.YtfpeajbfimodfaaGreatDoor.part
open Go.ChangeShapes Go.WideShapes Go.ChangeAt Go.RowKit
open Go.Proofs.YtfpeajbfimodfaaGreatDoor.bytes Go.Proofs.YtfpeajbfimodfaaGreatDoor.letters Go.Proofs.YtfpeajbfimodfaaGreatDoor.read Go.Proofs.YtfpeajbfimodfaaGreatDoor.places Go.Proofs.YtfpeajbfimodfaaGreatDoor.sets Go.Proofs.YtfpeajbfimodfaaGreatDoor.leaf Go.Proofs.YtfpeajbfimodfaaGreatDoor.tz Go.Proofs.YtfpeajbfimodfaaGreatDoor.net Go.Proofs.YtfpeajbfimodfaaGreatDoor.thr Go.Proofs.YtfpeajbfimodfaaGreatDoor.ask Go.Proofs.YtfpeajbfimodfaaGreatDoor.kn Go.Proofs.YtfpeajbfimodfaaGreatDoor.kw Go.Proofs.YtfpeajbfimodfaaGreatDoor.rests
set_option linter.unusedVariables false

theorem part44 (w : World) (a b : Int) (v : Value) : Calls Tryz.prog 44 #[.int .i64 a, .int .i64 b, v] w fun e w' => e = .returned (.tuple #[]) ∧ w' = w := by
  go_enter Tryz.func44, Tryz.ntmps44
  go_wp2
  go_end0
  exact ⟨rfl, rfl⟩
/-- Within a round: the net, the kid's variable and the ends of it. -/
structure PL (g : Gr) (R1 : Rws) (W0 : World) (B2 i E : Nat) (W : World) : Prop where
  st : St g 0 R1 W0 (B2 + 1) W
  kid : W.heap[W0.heap.size]? = some (.cells #[.func (.func 83) #[] #[.pointer (some ⟨g.tb i, 0, none⟩), .pointer (some ⟨g.fb i, 0, none⟩)], .func (.func 44) #[] #[]] 52 (0, 0))
  ends : C2 W B2 E
  lt : W0.heap.size < B2
theorem PL.below {g : Gr} (hg : Geo g) {R1 : Rws} {W0 W W' : World} {B2 i E : Nat} (hN : Net g R1 W0) (h : PL g R1 W0 B2 i E W) (hb : Below W.heap.size W W') : PL g R1 W0 B2 i E W' := by
  have := h.st.hi
  have := h.lt
  exact ⟨h.st.below hg hN hb, (hb.block _ (by omega)).trans h.kid, (hb.block _ (by omega)).trans h.ends, h.lt⟩
theorem PL.use {g : Gr} (hg : Geo g) {k f X : Nat} {args : Array Value} (h : Asks g k f args X) {R1 : Rws} {W0 : World} {B2 i E : Nat} (hN : Net g R1 W0) (W : World) (hS : PL g R1 W0 B2 i E W) :
    Calls Tryz.prog f args W fun e w' => e = .returned (psV X) ∧ PL g R1 W0 B2 i E w' := by
  refine (h.use hg (Nat.zero_le k) hN W hS.st).mono ?_
  have := hS.lt
  rintro r w' ⟨h1, h2, h3, h4⟩
  exact ⟨h1, h2, (h3 _ (by omega) (by omega)).trans hS.kid, (h3 _ (by omega) (by omega)).trans hS.ends, hS.lt⟩
theorem PL.new {g : Gr} (hg : Geo g) {R1 : Rws} {W0 w1 : World} {i E : Nat} (hN : Net g R1 W0) (o : Obj) (ho : o = .cells #[.func (.func 83) #[] #[.pointer (some ⟨g.tb i, 0, none⟩), .pointer (some ⟨g.fb i, 0, none⟩)], .func (.func 44) #[] #[]] 52 (0, 0)) (hb : Below (W0.heap.size + 1) (W0.alloc o) w1) :
    PL g R1 W0 w1.heap.size i E (w1.alloc (.cells #[.int .u64 (E : Nat), .int .u64 0] 87)) := by
  have hz := hb.size
  simp at hz
  have hB : Below W0.heap.size W0 (w1.alloc (.cells #[.int .u64 (E : Nat), .int .u64 0] 87)) := (((Below.refl W0.heap.size W0).alloc (Nat.le_refl _) o).trans (hb.mono (by omega))).alloc (by omega) _
  have h := hN.st hg 0 hB
  rw [show (w1.alloc (.cells #[.int .u64 (E : Nat), .int .u64 0] 87)).heap.size = w1.heap.size + 1 by simp] at h
  refine ⟨h, ?_, heap_alloc_new w1 _, by omega⟩
  rw [Below.heap_alloc _ _ _ (by omega), hb.block _ (by omega), ← ho]
  exact heap_alloc_new W0 o
theorem PL.out {g : Gr} (hg : Geo g) {R R1 : Rws} {w W0 W : World} {B2 i E : Nat} (hN : Net g R w) (hV : Via g 0 R R1 w w.heap.size W0) (h : PL g R1 W0 B2 i E W) : St g 0 R w w.heap.size W := by
  obtain ⟨R2, hn, hv⟩ := h.st
  exact ⟨R2, hn, hV.trans hg hN (Nat.le_refl 0) hv⟩
set_option maxRecDepth 20000 in
set_option maxHeartbeats 4000000 in
theorem part_any (g : Gr) (hg : Geo g) (R : Rws) (w : World) (hN : Net g R w) (from_ to_ : Nat) (hft : from_ ≤ to_) (hto : to_ ≤ g.ts.length) (so : Option Addr) (sn sc : Nat) :
    Calls Tryz.prog 61 #[.int .i64 (from_ : Nat), .int .i64 (to_ : Nat), .slice so sn sc, .pointer (some ⟨g.kB, 0, none⟩), .pointer (some ⟨g.rB, 0, none⟩)] w fun e w' => e = .returned (.tuple #[]) ∧ St g 0 R w w.heap.size w' := by
  have hlen := hg.len
  have hfew := hg.few
  have m1 := hN.fix.kids
  have HS : Hid (St g 0 R w w.heap.size w) := hide (hN.st0 hg 0 (Below.refl _ _))
  obtain ⟨n, hn⟩ : ∃ n, n = g.ys.length := ⟨_, rfl⟩
  rw [← hn] at m1
  have hn8 : n ≤ 8 := by omega
  have HN := hide hn
  clear hn hfew
  go_enter Tryz.func61, Tryz.ntmps61
  go_wp2
  go_step3
  go_wp2
  go_step3
  go_wp2
  go_loopw [0, 8, 9, 10, 11, 14] (fun v0 v8 v9 v10 v11 iv wr => ∃ i f : Nat, i ≤ n ∧ f ≤ to_ ∧ iv = .int .i64 i ∧ v0 = .int .i64 f ∧ Hid (St g 0 R w w.heap.size wr)) (fun _ _ _ _ _ iv _ => n - (intOf iv).toNat)
  case atStart => exact ⟨0, from_, by omega, hft, rfl, rfl, HS⟩
  case round =>
    obtain ⟨i, f, hi, hf, rfl, rfl, HX⟩ := hrel
    by_cases hin : i = n
    · subst hin
      go_wp2
      rw [Exit.noGoto_normal]
      go_end0
      exact ⟨rfl, HX.out⟩
    · have hin' : i < n := by omega
      obtain ⟨W0, hW0⟩ : ∃ W, W = wr := ⟨_, rfl⟩
      subst hW0
      obtain ⟨R1, hN1, hV1⟩ := HX.out
      have e1 := (hN1.fix.kidRow i (by rw [← HN.out]; exact hin')).1
      have e2 := (hN1.fix.kidRow i (by rw [← HN.out]; exact hin')).2
      unfold leafV at e1
      have HL : Hid (∀ o, Calls Tryz.prog 83 #[.int .i64 (f : Nat), .pointer (some ⟨g.tb i, 0, none⟩), .pointer (some ⟨g.fb i, 0, none⟩)] (W0.alloc o) fun e w' => e = .returned (.agg #[.int .u64 (endsC g.ts (g.ys.getD i 0) f : Nat), .int .u64 0]) ∧ Below (W0.heap.size + 1) (W0.alloc o) w') := by
        refine hide (fun o => ?_)
        have hb := (Below.refl W0.heap.size W0).alloc (Nat.le_refl _) o
        have h := leaf_any (W0.alloc o) _ _ (g.rb i) g.ts (g.ys.getD i 0) f hlen (by omega) hg.bytes ((hN1.below hg hb).fix.leaf i (by rw [← HN.out]; exact hin'))
        rw [show (W0.alloc o).heap.size = W0.heap.size + 1 by simp] at h
        exact h
      obtain ⟨E, hE⟩ : ∃ E, E = endsC g.ts (g.ys.getD i 0) f := ⟨_, rfl⟩
      have hElt : E < 18446744073709551616 := by
        rw [hE]
        unfold endsC
        split
        · exact pow_lt64 (by omega)
        · decide
      rw [← hE] at HL
      clear hE
      have HNew := hide (fun w1 o ho hb => PL.new (g := g) (R1 := R1) (W0 := W0) (w1 := w1) (i := i) (E := E) hg hN1 o ho hb)
      have HO := hide (fun B2 W h => PL.out (i := i) (E := E) (B2 := B2) (W := W) hg hN hV1 h)
      go_wp2_with (go_at_call 83; refine (HL.out _).mono ?_; rintro e w1 ⟨rfl, hb1⟩)
      have HPL := hide (HNew.out w1 _ rfl hb1)
      clear hb1 HL HNew e1 e2 hV1 HX m1 HS
      generalize w1.alloc (.cells #[.int .u64 (E : Nat), .int .u64 0] 87) = W2 at HPL ⊢
      generalize w1.heap.size = B2 at HPL ⊢
      go_loopw [0, 11] (fun v0 v11 wx => ∃ e : Int, v0 = .int .i64 f ∧ v11 = .int .i64 e ∧ (f : Int) - 1 ≤ e ∧ e ≤ (to_ : Int) ∧ Hid (PL g R1 W0 B2 i E wx)) (fun _ v _ => (intOf v + 1 - (f : Int)).toNat)
      case atStart => exact ⟨_, rfl, rfl, by omega, by omega, HPL⟩
      case round =>
        obtain ⟨e, rfl, rfl, he1, he2, HP2⟩ := hrel
        clear HPL
        by_cases hef : e < (f : Int)
        · have hge : ¬ (f : Int) ≤ e := by omega
          go_wp2
          go_roundw
          case rel => exact ⟨i + 1, f, by omega, hf, by go_num, rfl, hide (HO.out _ _ HP2.out)⟩
          case measure => simp [intOf]; omega
        · have hge : (f : Int) ≤ e := by omega
          obtain ⟨en, rfl⟩ : ∃ en : Nat, e = (en : Int) := ⟨e.toNat, by omega⟩
          have h2 := HP2.out
          have c0 := h2.ends.c0
          have c1 := h2.ends.c1
          go_upto_region 7 with fail
          go_cut [42] from 29 to 41 (fun v wx => ∃ b, v = .bool b ∧ Hid (PL g R1 W0 B2 i E wx))
          case first =>
            have hTo : to_ ≤ 22 := by omega
            have hEn : en ≤ 22 := by omega
            obtain ⟨K, hK9⟩ : ∃ K, K = i + 1 := ⟨_, rfl⟩
            obtain ⟨M, hM9⟩ : ∃ M, M = n + 1 := ⟨_, rfl⟩
            have hwK : IntKind.i64.wrap ((i : Int) + 1) = (K : Int) := by rw [IntKind.wrap_i64]; omega
            have hKM : (K : Int) < (M : Int) := by omega
            have hn := HN.out
            have HF : Hid (∀ wx, PL g R1 W0 B2 i E wx → wx.cell? ⟨g.rB, 0, none⟩ = some (.slice (some ⟨g.rR, 0, none⟩) M M) ∧ wx.cell? ⟨g.rR, K, none⟩ = some (restV g K)) := by
              refine hide (fun wx h => ?_)
              have hF := h.st.net
              rw [hM9, hn]
              exact ⟨hF.rest, hF.restRow K (by omega)⟩
            have hOK := rest_ok g hg (g.ys.length - K) K (by omega)
            obtain ⟨X, hX⟩ : ∃ X, X = restE g.ts (g.ys.drop K) en := ⟨_, rfl⟩
            have hXlt : X < 18446744073709551616 := by rw [hX]; exact restE_lt _ _ _ hlen (by omega)
            have HHt : Hid (∀ wx, PL g R1 W0 B2 i E wx → Calls Tryz.prog 62 #[.agg #[.int .u64 (X : Nat), .int .u64 0], .int .i64 (to_ : Nat)] wx fun r w' => r = .returned (.bool (X.testBit to_)) ∧ PL g R1 W0 B2 i E w') := hide (fun wx h => (has_any wx X to_ hTo hXlt).mono (by rintro r w' ⟨h1, h2⟩; exact ⟨h1, h.below hg hN1 h2⟩))
            have hc : (K = g.ys.length) ∨ (K + 1 = g.ys.length) ∨ (K + 1 < g.ys.length) := by omega
            cases hb : E.testBit en with
            | false =>
              have HHe : Hid (∀ wx, PL g R1 W0 B2 i E wx → Calls Tryz.prog 62 #[.agg #[.int .u64 (E : Nat), .int .u64 0], .int .i64 (en : Nat)] wx fun r w' => r = .returned (.bool false) ∧ PL g R1 W0 B2 i E w') := hide (fun wx h => (has_any wx E en hEn hElt).mono (by rintro r w' ⟨h1, h2⟩; rw [hb] at h1; exact ⟨h1, h.below hg hN1 h2⟩))
              clear hc hX hOK hK9 hM9 hn
              go_wp2_with (go_at_call 62; with_reducible (refine (HHe.out _ ?_).mono ?_); exact h2; rintro e w3 ⟨rfl, h3⟩; have H3 := hide h3)
              go_meet
              exact ⟨_, rfl, H3⟩
            | true =>
              have HHe : Hid (∀ wx, PL g R1 W0 B2 i E wx → Calls Tryz.prog 62 #[.agg #[.int .u64 (E : Nat), .int .u64 0], .int .i64 (en : Nat)] wx fun r w' => r = .returned (.bool true) ∧ PL g R1 W0 B2 i E w') := hide (fun wx h => (has_any wx E en hEn hElt).mono (by rintro r w' ⟨h1, h2⟩; rw [hb] at h1; exact ⟨h1, h.below hg hN1 h2⟩))
              rcases hc with hc | hc | hc
              · -- the rest behind: 56
                have hcr : restV g K = .func (.func 56) #[] #[] := by
                  unfold restV
                  rw [if_pos (by omega)]
                have HA : Hid (∀ wx, PL g R1 W0 B2 i E wx → Calls Tryz.prog 56 #[.int .i64 (en : Nat)] wx fun e w' => e = .returned (.agg #[.int .u64 (X : Nat), .int .u64 0]) ∧ PL g R1 W0 B2 i E w') := hide (fun wx h => by
                  have h9 := PL.use hg (hOK.last (by omega) en (by omega)) hN1 wx h
                  rw [← hX] at h9
                  exact h9)
                have HF2 : Hid (∀ wx, PL g R1 W0 B2 i E wx → wx.cell? ⟨g.rB, 0, none⟩ = some (.slice (some ⟨g.rR, 0, none⟩) M M) ∧ wx.cell? ⟨g.rR, K, none⟩ = some (.func (.func 56) #[] #[])) := hide (fun wx h => by
                  have h9 := HF.out wx h
                  rw [hcr] at h9
                  exact h9)
                clear hcr hOK hX HF hc hK9 hM9 hn
                go_wp2_with (first | (go_at_call 56; with_reducible (refine (HA.out _ ?_).mono ?_); exact h3; rintro e w4 ⟨rfl, h4⟩) | (go_at_call 62; with_reducible (refine (HHe.out _ ?_).mono ?_); exact h2; rintro e w3 ⟨rfl, h3⟩; obtain ⟨r1, r2⟩ := HF2.out _ h3) | (go_at_call 62; with_reducible (refine (HHt.out _ ?_).mono ?_); exact h4; rintro e w5 ⟨rfl, h5⟩; have H5 := hide h5))
                go_meet
                exact ⟨_, rfl, H5⟩
              · -- the rest behind: 83
                have hcr : restV g K = .func (.func 83) #[] #[.pointer (some ⟨g.tb K, 0, none⟩), .pointer (some ⟨g.fb K, 0, none⟩)] := by
                  unfold restV
                  rw [if_neg (by omega), if_pos (by omega)]; rfl
                have HA : Hid (∀ wx, PL g R1 W0 B2 i E wx → Calls Tryz.prog 83 #[.int .i64 (en : Nat), .pointer (some ⟨g.tb K, 0, none⟩), .pointer (some ⟨g.fb K, 0, none⟩)] wx fun e w' => e = .returned (.agg #[.int .u64 (X : Nat), .int .u64 0]) ∧ PL g R1 W0 B2 i E w') := hide (fun wx h => by
                  have h9 := PL.use hg (hOK.one (by omega) en (by omega)) hN1 wx h
                  rw [← hX] at h9
                  exact h9)
                have HF2 : Hid (∀ wx, PL g R1 W0 B2 i E wx → wx.cell? ⟨g.rB, 0, none⟩ = some (.slice (some ⟨g.rR, 0, none⟩) M M) ∧ wx.cell? ⟨g.rR, K, none⟩ = some (.func (.func 83) #[] #[.pointer (some ⟨g.tb K, 0, none⟩), .pointer (some ⟨g.fb K, 0, none⟩)])) := hide (fun wx h => by
                  have h9 := HF.out wx h
                  rw [hcr] at h9
                  exact h9)
                clear hcr hOK hX HF hc hK9 hM9 hn
                go_wp2_with (first | (go_at_call 83; with_reducible (refine (HA.out _ ?_).mono ?_); exact h3; rintro e w4 ⟨rfl, h4⟩) | (go_at_call 62; with_reducible (refine (HHe.out _ ?_).mono ?_); exact h2; rintro e w3 ⟨rfl, h3⟩; obtain ⟨r1, r2⟩ := HF2.out _ h3) | (go_at_call 62; with_reducible (refine (HHt.out _ ?_).mono ?_); exact h4; rintro e w5 ⟨rfl, h5⟩; have H5 := hide h5))
                go_meet
                exact ⟨_, rfl, H5⟩
              · -- the rest behind: 78
                have hcr : restV g K = .func (.func 78) #[] #[.pointer (some ⟨g.c K + 4, 0, none⟩), .pointer (some ⟨g.c K + 2, 0, none⟩), .pointer (some ⟨g.c K + 5, 0, none⟩), .pointer (some ⟨g.c K + 3, 0, none⟩)] := by
                  unfold restV
                  rw [if_neg (by omega), if_neg (by omega)]
                have HA : Hid (∀ wx, PL g R1 W0 B2 i E wx → Calls Tryz.prog 78 #[.int .i64 (en : Nat), .pointer (some ⟨g.c K + 4, 0, none⟩), .pointer (some ⟨g.c K + 2, 0, none⟩), .pointer (some ⟨g.c K + 5, 0, none⟩), .pointer (some ⟨g.c K + 3, 0, none⟩)] wx fun e w' => e = .returned (.agg #[.int .u64 (X : Nat), .int .u64 0]) ∧ PL g R1 W0 B2 i E w') := hide (fun wx h => by
                  have h9 := PL.use hg (hOK.more (by omega) en (by omega)) hN1 wx h
                  rw [← hX] at h9
                  exact h9)
                have HF2 : Hid (∀ wx, PL g R1 W0 B2 i E wx → wx.cell? ⟨g.rB, 0, none⟩ = some (.slice (some ⟨g.rR, 0, none⟩) M M) ∧ wx.cell? ⟨g.rR, K, none⟩ = some (.func (.func 78) #[] #[.pointer (some ⟨g.c K + 4, 0, none⟩), .pointer (some ⟨g.c K + 2, 0, none⟩), .pointer (some ⟨g.c K + 5, 0, none⟩), .pointer (some ⟨g.c K + 3, 0, none⟩)])) := hide (fun wx h => by
                  have h9 := HF.out wx h
                  rw [hcr] at h9
                  exact h9)
                clear hcr hOK hX HF hc hK9 hM9 hn
                go_wp2_with (first | (go_at_call 78; with_reducible (refine (HA.out _ ?_).mono ?_); exact h3; rintro e w4 ⟨rfl, h4⟩) | (go_at_call 62; with_reducible (refine (HHe.out _ ?_).mono ?_); exact h2; rintro e w3 ⟨rfl, h3⟩; obtain ⟨r1, r2⟩ := HF2.out _ h3) | (go_at_call 62; with_reducible (refine (HHt.out _ ?_).mono ?_); exact h4; rintro e w5 ⟨rfl, h5⟩; have H5 := hide h5))
                go_meet
                exact ⟨_, rfl, H5⟩
          case rest =>
            obtain ⟨b, rfl, HC⟩ := hcut
            clear HP2 h2 c0 c1
            cases b with
            | false =>
              go_wp2
              go_roundw
              case rel => exact ⟨_, rfl, rfl, by omega, by omega, HC⟩
              case measure => simp [intOf]; omega
            | true =>
              have k1 : wc.cell? ⟨W0.heap.size, 1, none⟩ = some (.func (.func 44) #[] #[]) := by
                have h9 := HC.out.kid
                simp [World.cell?, h9]
              go_wp2_with (go_at_call 44; refine (part44 _ _ _ _).mono ?_; rintro e w6 ⟨rfl, rfl⟩)
              exact ⟨⟨i + 1, en, by omega, by omega, by go_num, rfl, hide (HO.out _ _ HC.out)⟩, by simp [intOf]; omega⟩
end Go.Proofs.YtfpeajbfimodfaaGreatDoor.part

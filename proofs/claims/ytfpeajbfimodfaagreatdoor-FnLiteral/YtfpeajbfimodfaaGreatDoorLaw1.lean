/- FnLiteral's walk. -/
import Derived.Test.YtfpeajbfimodfaaGreatDoorLits
import Derived.Deep.CutRange
import Derived.BigQuiet
namespace Go.Proofs.YtfpeajbfimodfaaGreatDoor.law1
open Go.ChangeShapes Go.WideShapes Go.ChangeAt Go.RowKit
open Go.Proofs.YtfpeajbfimodfaaGreatDoor.bytes Go.Proofs.YtfpeajbfimodfaaGreatDoor.pile Go.Proofs.YtfpeajbfimodfaaGreatDoor.letters Go.Proofs.YtfpeajbfimodfaaGreatDoor.read Go.Proofs.YtfpeajbfimodfaaGreatDoor.pat Go.Proofs.YtfpeajbfimodfaaGreatDoor.compile Go.Proofs.YtfpeajbfimodfaaGreatDoor.tz Go.Proofs.YtfpeajbfimodfaaGreatDoor.net Go.Proofs.YtfpeajbfimodfaaGreatDoor.ci Go.Proofs.YtfpeajbfimodfaaGreatDoor.sea Go.Proofs.YtfpeajbfimodfaaGreatDoor.fseven Go.Proofs.YtfpeajbfimodfaaGreatDoor.lits
set_option linter.unusedVariables false

set_option maxRecDepth 20000 in
set_option maxHeartbeats 4000000 in
theorem lit_any (w : World) (ao1 ao2 : Option Addr) (cap1 cap2 : Nat) (xs1 xs2 : List Int) (h1 : RdA w (.slice ao1 xs1.length cap1) xs1) (h2 : RdA w (.slice ao2 xs2.length cap2) xs2) (hT : TabIn w) (hz : 1 < w.heap.size) :
    Calls Tryz.prog 3 #[.slice ao1 xs1.length cap1, .slice ao2 xs2.length cap2] w fun e w' => e = .returned (.bool true) ∧ Below w.heap.size w w' := by
  by_cases l1 : 1048576 < xs1.length
  · have l1' : (1048576 : Int) < (xs1.length : Int) := by omega
    have l1b : decide ((1048576 : Int) < (xs1.length : Int)) = true := by simp [l1']
    go_enter Tryz.func3, Tryz.ntmps3
    go_wp2
    go_ret
    exact ⟨rfl, Below.refl _ _⟩
  have l1' : ¬ (1048576 : Int) < (xs1.length : Int) := by omega
  have l1b : decide ((1048576 : Int) < (xs1.length : Int)) = false := by simp; omega
  by_cases l2 : 1048576 < xs2.length
  · have l2' : (1048576 : Int) < (xs2.length : Int) := by omega
    have l2b : decide ((1048576 : Int) < (xs2.length : Int)) = true := by simp [l2']
    go_enter Tryz.func3, Tryz.ntmps3
    go_wp2
    go_ret
    exact ⟨rfl, Below.refl _ _⟩
  have l2' : ¬ (1048576 : Int) < (xs2.length : Int) := by omega
  have l2b : decide ((1048576 : Int) < (xs2.length : Int)) = false := by simp; omega
  have HL := hide (letters_any w ao1 cap1 xs1 (by omega) h1)
  have HWd := hide (fun W hB => wordsOf_any W ao2 cap2 xs2 (by omega) (h2.below hB (Nat.le_refl _)))
  clear h1 h2
  go_enter Tryz.func3, Tryz.ntmps3
  go_wp2_with fail
  refine HL.out.mono ?_
  rintro e w1 ⟨ys, rfl, hy1, hy8, hyl, hb1⟩
  have HWd1 := hide (HWd.out w1 hb1)
  clear HWd HL
  obtain ⟨SY, hSY⟩ : ∃ S, S = strOfNums ys := ⟨_, rfl⟩
  rw [← hSY]
  have HSY := hide hSY
  clear hSY
  go_wp2_with fail
  refine HWd1.out.mono ?_
  rintro e w2 ⟨zs, rfl, hzl, hzb, hb2⟩
  have hSY := HSY.out
  obtain ⟨SZ, hSZ⟩ : ∃ S, S = strOfNums zs := ⟨_, rfl⟩
  rw [← hSZ]
  have hB2 : Below w.heap.size w w2 := hb1.trans (hb2.mono hb1.size)
  clear HWd1 hb1 hb2
  obtain ⟨ts, hts⟩ : ∃ ts, ts = zs ++ ys := ⟨_, rfl⟩
  obtain ⟨ST, hST⟩ : ∃ S, S = strOfNums ts := ⟨_, rfl⟩
  have hcat : SZ ++ SY = ST := by rw [hSZ, hSY, hST, hts, str_app]
  have hsy : SY.size = ys.length := by rw [hSY]; exact strOfNums_size _
  have hszz : SZ.size = zs.length := by rw [hSZ]; exact strOfNums_size _
  have hst : ST.size = ts.length := by rw [hST]; exact strOfNums_size _
  have htl : ts.length = zs.length + ys.length := by rw [hts, List.length_append]
  have htb : ∀ t ∈ ts, 0 ≤ t ∧ t ≤ 255 := by
    intro t ht
    rw [hts, List.mem_append] at ht
    rcases ht with ht | ht
    · exact hzb t ht
    · have := hyl t ht
      unfold Letter at this
      omega
  have hyb : ∀ t ∈ ys, 0 ≤ t ∧ t ≤ 255 := by
    intro t ht
    have := hyl t ht
    unfold Letter at this
    omega
  have hex : restE ts ys zs.length ≠ 0 := by rw [hts]; exact at_end zs ys
  have HPc : Hid (∀ p, p + ys.length ≤ ts.length → ((ST.extract p (p + ys.length)).toList == SY.toList) = decide (restE ts ys p ≠ 0)) := by
    rw [hST, hSY]
    exact hide (fun p hp => piece ts ys htb hyb p hp)
  have HCo : Hid (∀ (W : World) (ere : Bool), Calls Tryz.prog 6 #[.string SY, .bool ere] W fun e w' => ∃ g cap, e = .returned (.tuple #[.agg #[.int .i64 7, .int .i64 0, .int .i64 0, .string ⟨#[]⟩, .slice (some ⟨g, 0, none⟩) ys.length cap], .int .i64 0, .int .i64 0]) ∧ w'.ownsRow W.heap.size 26 5 (.slice (some ⟨g, 0, none⟩) ys.length cap) ys.length (nodes ys) ∧ Below W.heap.size W w') := by
    rw [hSY]
    exact hide (fun W ere => compile_any W ys ere hy8 hy1 hyl)
  have HFi : Hid (∀ (W : World) (q cap base : Nat), Below w.heap.size w W → W.ownsRow base 26 5 (.slice (some ⟨q, 0, none⟩) ys.length cap) ys.length (nodes ys) → Calls Tryz.prog 7 #[.agg #[.int .i64 7, .int .i64 0, .int .i64 0, .string ⟨#[]⟩, .slice (some ⟨q, 0, none⟩) ys.length cap], .string ST, .int .i64 0] W fun e w' => ∃ f b : Nat, f + ys.length ≤ ts.length ∧ restE ts ys f ≠ 0 ∧ (∀ i, i < f → restE ts ys i = 0) ∧ e = .returned (.tuple #[.slice (some ⟨b, 0, none⟩) 2 2, .int .i64 0]) ∧ w'.cell? ⟨b, 0, none⟩ = some (.int .i64 (f : Nat)) ∧ w'.cell? ⟨b, 1, none⟩ = some (.int .i64 ((f + ys.length : Nat) : Int)) ∧ W.heap.size ≤ b ∧ Below W.heap.size W w') := by
    rw [hST]
    refine hide (fun W q cap base hB hr => ?_)
    have hzW := hB.size
    exact find_seven W ts ys q cap base (by omega) htb hy1 hy8 hyl (hT.below hB hz) (by omega) hr zs.length (by omega) hex
  have HT9 := hide (And.intro htl (And.intro hzl (And.intro hy1 hy8)))
  obtain ⟨n, hn⟩ : ∃ n, n = ys.length := ⟨_, rfl⟩
  rw [← hn] at HCo HFi HPc hsy
  have HNn := hide hn
  have hnc : ¬ 9223372036854775807 < SZ.size + n := by rw [hszz, hn]; omega
  clear hszz
  clear HSY hn hSY hSZ hST hts htb hyb hex hyl hzb hT htl
  have HB2 := hide hB2
  clear hB2
  go_wp2
  go_loopw [7, 8, 9, 10, 11, 12, 13] (fun v7 _ _ _ _ _ _ wr => (v7 = .int .i64 0 ∨ v7 = .int .i64 1 ∨ v7 = .int .i64 2) ∧ Hid (Below w.heap.size w wr)) (fun v7 _ _ _ _ _ _ _ => 2 - (intOf v7).toNat)
  case atStart => exact ⟨.inl rfl, HB2⟩
  case round =>
    obtain ⟨hv, HB⟩ := hrel
    clear HB2
    obtain ⟨W0, hW0⟩ : ∃ W, W = wr := ⟨_, rfl⟩
    subst hW0
    rcases hv with rfl | rfl | rfl
    · go_wp2_with (first | (go_at_call 6; with_reducible (refine (HCo.out _ _).mono ?_); rintro e w3 ⟨q, cap, rfl, hr3, hb3⟩) | (go_at_call 7; with_reducible (refine (HFi.out _ q cap W0.heap.size ?_ ?_).mono ?_); exact ((HB.out.trans (hb3.mono HB.out.size)).alloc (Nat.le_trans HB.out.size hb3.size) _); exact (row_below hr3 ((Below.refl w3.heap.size w3).alloc (Nat.le_refl _) _)); rintro e w4 ⟨f, b, k1, k2, k3, rfl, k5, k6, k7, k8⟩))
      have HB4 := hide ((HB.out.trans (hb3.mono HB.out.size)).trans (((Below.refl w3.heap.size w3).alloc (Nat.le_refl _) (.cells #[.int .i64 7, .int .i64 0, .int .i64 0, .string ⟨#[]⟩, .slice (some ⟨q, 0, none⟩) n cap] 26)).mono (Nat.le_trans HB.out.size hb3.size) |>.trans (k8.mono (by have := HB.out.size; have := hb3.size; simp; omega))))
      obtain ⟨L, hL⟩ : ∃ L, L = ts.length := ⟨_, rfl⟩
      obtain ⟨T, hT⟩ : ∃ T, T = f + n := ⟨_, rfl⟩
      have p1 : ((ST.extract f T).toList == SY.toList) = true := by
        rw [hT, HPc.out f k1]
        simp [k2]
      rw [← hT] at k6 k1
      rw [← hL] at k1 hst
      have t1 : (f : Int) + (n : Int) = (T : Int) := by omega
      have t2 : IntKind.i64.wrap ((f : Int) + (n : Int)) = (T : Int) := by rw [t1, IntKind.wrap_i64]; have := HT9.out; omega
      have t3 : (f : Int) ≤ (T : Int) := by omega
      have t4 : (T : Int) ≤ (L : Int) := by omega
      have tne : ((T : Int) != (T : Int)) = false := by simp
      have tne2 : ((T : Int) != (f : Int) + (n : Int)) = false := by rw [t1]; simp
      have HK := hide (And.intro k2 (And.intro k3 (And.intro hL hT)))
      clear hb3 hr3 k2 k3 hL hT k7 k8 HB HCo HFi t1
      go_quiet (fail)
      go_wp2
      have m5 : (w4.drewN nq).cell? ⟨b, 0, none⟩ = some (.int .i64 (f : Nat)) := k5
      have HB5 : Hid (Below w.heap.size w (w4.drewN nq)) := hide (HB4.out.trans ⟨rfl, rfl, rfl, Nat.le_refl _, fun _ _ => rfl⟩)
      clear k5 k6 HB4 tne tne2 p1 t2
      generalize w4.drewN nq = w5 at m5 HB5 ⊢
      go_loopw [13] (fun v13 wx => ∃ i : Nat, v13 = .int .i64 i ∧ i ≤ f ∧ wx = w5) (fun v13 _ => f - (intOf v13).toNat)
      case atStart => exact ⟨0, rfl, by omega, rfl⟩
      case round =>
        obtain ⟨i, rfl, hi, rfl⟩ := hrel
        by_cases hif : i = f
        · subst hif
          have hnl : ¬ (i : Int) < (i : Int) := by omega
          go_wp2
          go_roundw
          case rel => exact ⟨.inr (.inl rfl), HB5⟩
          case measure => simp [intOf]
        · have hlt : (i : Int) < (f : Int) := by omega
          obtain ⟨J, hJ⟩ : ∃ J, J = i + n := ⟨_, rfl⟩
          have hTf := HK.out.2.2.2
          have hLt := HK.out.2.2.1
          have p2 : ((ST.extract i J).toList == SY.toList) = false := by
            rw [hJ, HPc.out i (by rw [← hLt]; omega)]
            have := HK.out.2.1 i (by omega)
            simp [this]
          have j1 : (i : Int) + (n : Int) = (J : Int) := by omega
          have j2 : IntKind.i64.wrap ((i : Int) + (n : Int)) = (J : Int) := by rw [j1, IntKind.wrap_i64]; have := HT9.out; omega
          have hib : i ≤ 22 := by have := HT9.out; omega
          have j3 : (i : Int) ≤ (J : Int) := by omega
          have j4 : (J : Int) ≤ (L : Int) := by omega
          have HJ := hide (And.intro hJ (And.intro hTf hLt))
          clear hJ hTf hLt j1
          go_wp2
          go_roundw
          case rel => exact ⟨i + 1, by go_num, by omega, trivial⟩
          case measure => simp [intOf]; omega
    · go_wp2_with (first | (go_at_call 6; with_reducible (refine (HCo.out _ _).mono ?_); rintro e w3 ⟨q, cap, rfl, hr3, hb3⟩) | (go_at_call 7; with_reducible (refine (HFi.out _ q cap W0.heap.size ?_ ?_).mono ?_); exact ((HB.out.trans (hb3.mono HB.out.size)).alloc (Nat.le_trans HB.out.size hb3.size) _); exact (row_below hr3 ((Below.refl w3.heap.size w3).alloc (Nat.le_refl _) _)); rintro e w4 ⟨f, b, k1, k2, k3, rfl, k5, k6, k7, k8⟩))
      have HB4 := hide ((HB.out.trans (hb3.mono HB.out.size)).trans (((Below.refl w3.heap.size w3).alloc (Nat.le_refl _) (.cells #[.int .i64 7, .int .i64 0, .int .i64 0, .string ⟨#[]⟩, .slice (some ⟨q, 0, none⟩) n cap] 26)).mono (Nat.le_trans HB.out.size hb3.size) |>.trans (k8.mono (by have := HB.out.size; have := hb3.size; simp; omega))))
      obtain ⟨L, hL⟩ : ∃ L, L = ts.length := ⟨_, rfl⟩
      obtain ⟨T, hT⟩ : ∃ T, T = f + n := ⟨_, rfl⟩
      have p1 : ((ST.extract f T).toList == SY.toList) = true := by
        rw [hT, HPc.out f k1]
        simp [k2]
      rw [← hT] at k6 k1
      rw [← hL] at k1 hst
      have t1 : (f : Int) + (n : Int) = (T : Int) := by omega
      have t2 : IntKind.i64.wrap ((f : Int) + (n : Int)) = (T : Int) := by rw [t1, IntKind.wrap_i64]; have := HT9.out; omega
      have t3 : (f : Int) ≤ (T : Int) := by omega
      have t4 : (T : Int) ≤ (L : Int) := by omega
      have tne : ((T : Int) != (T : Int)) = false := by simp
      have tne2 : ((T : Int) != (f : Int) + (n : Int)) = false := by rw [t1]; simp
      have HK := hide (And.intro k2 (And.intro k3 (And.intro hL hT)))
      clear hb3 hr3 k2 k3 hL hT k7 k8 HB HCo HFi t1
      go_quiet (fail)
      go_wp2
      have m5 : (w4.drewN nq).cell? ⟨b, 0, none⟩ = some (.int .i64 (f : Nat)) := k5
      have HB5 : Hid (Below w.heap.size w (w4.drewN nq)) := hide (HB4.out.trans ⟨rfl, rfl, rfl, Nat.le_refl _, fun _ _ => rfl⟩)
      clear k5 k6 HB4 tne tne2 p1 t2
      generalize w4.drewN nq = w5 at m5 HB5 ⊢
      go_loopw [13] (fun v13 wx => ∃ i : Nat, v13 = .int .i64 i ∧ i ≤ f ∧ wx = w5) (fun v13 _ => f - (intOf v13).toNat)
      case atStart => exact ⟨0, rfl, by omega, rfl⟩
      case round =>
        obtain ⟨i, rfl, hi, rfl⟩ := hrel
        by_cases hif : i = f
        · subst hif
          have hnl : ¬ (i : Int) < (i : Int) := by omega
          go_wp2
          go_roundw
          case rel => exact ⟨.inr (.inr rfl), HB5⟩
          case measure => simp [intOf]
        · have hlt : (i : Int) < (f : Int) := by omega
          obtain ⟨J, hJ⟩ : ∃ J, J = i + n := ⟨_, rfl⟩
          have hTf := HK.out.2.2.2
          have hLt := HK.out.2.2.1
          have p2 : ((ST.extract i J).toList == SY.toList) = false := by
            rw [hJ, HPc.out i (by rw [← hLt]; omega)]
            have := HK.out.2.1 i (by omega)
            simp [this]
          have j1 : (i : Int) + (n : Int) = (J : Int) := by omega
          have j2 : IntKind.i64.wrap ((i : Int) + (n : Int)) = (J : Int) := by rw [j1, IntKind.wrap_i64]; have := HT9.out; omega
          have hib : i ≤ 22 := by have := HT9.out; omega
          have j3 : (i : Int) ≤ (J : Int) := by omega
          have j4 : (J : Int) ≤ (L : Int) := by omega
          have HJ := hide (And.intro hJ (And.intro hTf hLt))
          clear hJ hTf hLt j1
          go_wp2
          go_roundw
          case rel => exact ⟨i + 1, by go_num, by omega, trivial⟩
          case measure => simp [intOf]; omega
    · go_wp2
      go_ret
      exact ⟨rfl, HB.out⟩
end Go.Proofs.YtfpeajbfimodfaaGreatDoor.law1

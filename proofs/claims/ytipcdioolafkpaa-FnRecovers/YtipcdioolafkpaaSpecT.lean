/- The model's side of a recovery: the term at an index, two numbers. -/
import Derived.Test.YtipcdioolafkpaaRecov
import Derived.Test.YtipcdioolafkpaaSpecs
import Derived.Test.YtipcdioolafkpaaRecs
namespace Go.Proofs.Ytipcdioolafkpaa.spect
open Go.ChangeShapes Go.WideShapes Go.ChangeAt Go.RowKit
open Go.Proofs.Ytipcdioolafkpaa.bytes Go.Proofs.Ytipcdioolafkpaa.pile Go.Proofs.Ytipcdioolafkpaa.put Go.Proofs.Ytipcdioolafkpaa.crcs Go.Proofs.Ytipcdioolafkpaa.join Go.Proofs.Ytipcdioolafkpaa.frames Go.Proofs.Ytipcdioolafkpaa.get Go.Proofs.Ytipcdioolafkpaa.dec Go.Proofs.Ytipcdioolafkpaa.take Go.Proofs.Ytipcdioolafkpaa.one Go.Proofs.Ytipcdioolafkpaa.votes Go.Proofs.Ytipcdioolafkpaa.pays Go.Proofs.Ytipcdioolafkpaa.rechelp Go.Proofs.Ytipcdioolafkpaa.recrows Go.Proofs.Ytipcdioolafkpaa.recov Go.Proofs.Ytipcdioolafkpaa.specs Go.Proofs.Ytipcdioolafkpaa.recs
set_option linter.unusedVariables false

/-- The value of a state. -/
def walV (s : St) (lv : Value) (good : Int) : Value := .agg #[.int .i64 s.term, .int .i64 s.vote, .int .i64 s.base, .int .i64 s.bterm, lv, .int .i64 good]
set_option maxHeartbeats 1000000 in
theorem termAt_any (w : World) (s : St) (lv : Value) (us : List Value) (good : Int) (h : RdRecs w lv s.log us) (n : Nat) (hn : n ≤ s.log.length) (hl : s.log.length ≤ 65536) (hb : 0 ≤ s.base ∧ s.base ≤ 1000000) (x : Int) (hx : x = s.base + n) :
    Calls Try.prog 75 #[walV s lv good, .int .i64 x] w fun e w' => e = .returned (.int .i64 (termB s n)) ∧ Below w.heap.size w w' := by
  unfold walV
  obtain ⟨ao, cap, rfl, h1, h2, h3⟩ := h.row
  unfold maxLen at h2
  have HB : Hid (∀ o, Below w.heap.size w (w.alloc o)) := fun o => (Below.refl _ _).alloc (Nat.le_refl _) _
  cases n with
  | zero =>
    have HT : Hid (termB s 0 = s.bterm) := by unfold Hid termB; simp
    rw [HT.out]
    have hx' : x = s.base := by omega
    clear hx h h3 hn
    subst hx'
    go_enter Try.func75, Try.ntmps75
    go_wp2
    go_ret
    exact ⟨rfl, HB.out _⟩
  | succ n =>
    obtain ⟨g, off, rfl, hc⟩ := h3 (by omega)
    have HT : Hid (termB s (n + 1) = (s.log.getD n zRec).t) := by unfold Hid termB; simp
    have ct := (hc n (by omega)).1
    have ct2 : ∀ o, (w.alloc o).cell? ⟨g, off + n * 3, none⟩ = some (.int .i64 (s.log.getD n zRec).t) := fun o => ((HB.out o).cell (by have := cell_lt ct; simpa using this)).trans ct
    rw [HT.out]
    clear h hc h3 HT
    generalize (s.log.getD n zRec).t = T at ct ct2 ⊢
    have hlt : n < s.log.length := by omega
    have hne : ¬ x = s.base := by omega
    have hx1 : x - s.base - 1 = (n : Int) := by omega
    generalize s.base = bb at *
    clear hx
    go_enter Try.func75, Try.ntmps75
    go_wp2
    go_ret
    exact ⟨rfl, HB.out _⟩

theorem results_tmp4 {fn : Func} {t u v x : Tmp} (h : fn.results = #[.tmp t, .tmp u, .tmp v, .tmp x]) (tmps : Array Value) (P : Program) (w : World) :
    (results fn tmps).run P w = .ok (.tuple #[tmps.getD t undef, tmps.getD u undef, tmps.getD v undef, tmps.getD x undef]) w := by
  simp [results, h]
/-- Two numbers at the beginning of bytes: what stands behind them. -/
def rest2 (q : List Int) : List Int := q.drop ((getR 9 0 0 q).2.1 + (getR 9 0 0 (q.drop (getR 9 0 0 q).2.1)).2.1)
theorem below_same (w : World) (n : Nat) : Below w.heap.size w (w.drewN n) := ⟨rfl, rfl, rfl, Nat.le_refl _, fun _ _ => rfl⟩
/-- What l03Numbers answers. -/
def NumE (w : World) (q : List Int) (g1 g2 : Int × Nat × Int) (e : Ending) (w' : World) : Prop := Below w.heap.size w w' ∧ ((∃ a b o n c, e = .returned (.tuple #[.int .i64 a, .int .i64 b, .slice o n c, .bool false]) ∧ (g1.2.2 ≠ 0 ∨ g2.2.2 ≠ 0 ∨ ¬ termIn g1.1 ∨ ¬ termIn g2.1)) ∨
  ∃ o n c, e = .returned (.tuple #[.int .i64 g1.1, .int .i64 g2.1, .slice o n c, .bool true]) ∧ RdA w' (.slice o n c) (rest2 q) ∧ g1.2.2 = 0 ∧ g2.2.2 = 0 ∧ termIn g1.1 ∧ termIn g2.1)
set_option maxRecDepth 20000 in
set_option maxHeartbeats 2000000 in
theorem numbers_any (w : World) (ao : Option Addr) (cap : Nat) (q : List Int) (h : RdA w (.slice ao q.length cap) q) (hl : q.length ≤ 65536) :
    Calls Try.prog 86 #[.slice ao q.length cap] w (NumE w q (getR 9 0 0 q) (getR 9 0 0 (q.drop (getR 9 0 0 q).2.1))) := by
  have HG := hide (l01Get_any w _ q 0 (Nat.zero_le _) h.1 hl)
  have hgn : gotN q 0 = getR 9 0 0 q := rfl
  rw [hgn] at HG
  obtain ⟨_, hc1, hc2⟩ := le_cap h.1
  unfold maxLen at hc2
  have hok := getR_ok 9 0 0 q (by omega)
  by_cases hs : (getR 9 0 0 q).2.2 = 0
  · have hb : behind 0 (getR 9 0 0 q) = (((getR 9 0 0 q).2.1 : Nat) : Int) := by unfold behind; simp [hs]
    rw [hb] at HG
    have hle : (getR 9 0 0 q).2.1 ≤ q.length := by have := (hok hs).2.2; omega
    have HG2 := hide (l01Get_any w _ q (getR 9 0 0 q).2.1 hle h.1 hl)
    have hg2 : gotN q (getR 9 0 0 q).2.1 = getR 9 0 0 (q.drop (getR 9 0 0 q).2.1) := rfl
    rw [hg2] at HG2
    have hok2 := getR_ok 9 0 0 (q.drop (getR 9 0 0 q).2.1) (by omega)
    rw [List.length_drop] at hok2
    have HR2 : Hid (rest2 q = q.drop ((getR 9 0 0 q).2.1 + (getR 9 0 0 (q.drop (getR 9 0 0 q).2.1)).2.1)) := rfl
    have HRd : Hid (RdA w (.slice ao q.length cap) q) := h
    clear hok hgn hg2 hb h
    generalize getR 9 0 0 q = g1 at *
    generalize getR 9 0 0 (q.drop g1.2.1) = g2 at *
    have HS1 : Hid (g1.2.2 = 0) := hs
    by_cases hs2 : g2.2.2 = 0
    · have hb2 : behind g1.2.1 g2 = ((g1.2.1 + g2.2.1 : Nat) : Int) := by unfold behind; simp [hs2]
      rw [hb2] at HG2
      have hP : g1.2.1 + g2.2.1 ≤ q.length := by have := (hok2 hs2).2.2; omega
      have HS2 : Hid (g2.2.2 = 0) := hs2
      clear hb2 hok2
      generalize g1.2.1 + g2.2.1 = P at *
      have hPi : (P : Int) ≤ q.length := by omega
      have hPc : (P : Int) ≤ cap := by omega
      have hP0 : (0 : Int) ≤ P := by omega
      by_cases hy : (0 ≤ g1.1 ∧ g1.1 ≤ 1000000)
      · have hyd : decide (0 ≤ g1.1 ∧ g1.1 ≤ 1000000) = true := by simp [hy]
        have HI1 : Hid (∀ wx : World, Calls Try.prog 70 #[.int .i64 g1.1, .int .i64 0, .int .i64 1000000] wx fun e w' => e = .returned (.bool true) ∧ w' = wx) := fun wx => by
          have h := in_any wx g1.1 0 1000000
          rw [hyd] at h
          exact h
        have HY : Hid (termIn g1.1) := hy
        clear hy hyd
        by_cases hz : (0 ≤ g2.1 ∧ g2.1 ≤ 1000000)
        · have hzd : decide (0 ≤ g2.1 ∧ g2.1 ≤ 1000000) = true := by simp [hz]
          have HI2 : Hid (∀ wx : World, Calls Try.prog 70 #[.int .i64 g2.1, .int .i64 0, .int .i64 1000000] wx fun e w' => e = .returned (.bool true) ∧ w' = wx) := fun wx => by
            have h := in_any wx g2.1 0 1000000
            rw [hzd] at h
            exact h
          have HZ : Hid (termIn g2.1) := hz
          clear hz hzd
          have HCut : Hid (∀ m, RdA (w.drewN m) (cutV ao cap P (q.length - P)) (rest2 q)) := fun m => by
            have hcc := cut_rd (at_ := P) (n := q.length - P) HRd.out (by omega)
            rw [List.take_of_length_le (by rw [List.length_drop]; omega), ← HR2.out] at hcc
            exact hcc.below (below_same w m) (Nat.le_refl _)
          go_enter Try.func86, Try.ntmps86
          go_wp2_with fail
          refine HG.out.mono ?_
          rintro e w1 ⟨rfl, rfl⟩
          go_wp2_with fail
          refine HG2.out.mono ?_
          rintro e w2 ⟨rfl, rfl⟩
          clear HG HG2
          go_wp2
          go_quiet ((first | (go_at_call_of 70 (Value.int .i64 g1.1); exact Calls.quiet_of_same (HI1.out _)) | (go_at_call_of 70 (Value.int .i64 g2.1); exact Calls.quiet_of_same (HI2.out _))))
          go_wp2
          all_goals
            (try simp only [Exit.inBlock, Exit.then]); refine bodyPost_ret (results_tmp4 rfl _ _ _) rfl ?_
            first
              | exact ⟨below_same _ _, .inr ⟨_, _, _, rfl, by have h := HCut.out nq; unfold cutV at h; rw [if_pos (by assumption)] at h; exact h, HS1.out, HS2.out, HY.out, HZ.out⟩⟩
              | exact ⟨below_same _ _, .inr ⟨_, _, _, rfl, by have h := HCut.out nq; unfold cutV at h; rw [if_neg (by assumption)] at h; exact h, HS1.out, HS2.out, HY.out, HZ.out⟩⟩
        · have hzd : decide (0 ≤ g2.1 ∧ g2.1 ≤ 1000000) = false := by simp only [decide_eq_false_iff_not]; exact hz
          have HI2 : Hid (∀ wx : World, Calls Try.prog 70 #[.int .i64 g2.1, .int .i64 0, .int .i64 1000000] wx fun e w' => e = .returned (.bool false) ∧ w' = wx) := fun wx => by
            have h := in_any wx g2.1 0 1000000
            rw [hzd] at h
            exact h
          have HZ : Hid (¬ termIn g2.1) := hz
          clear hz hzd
          go_enter Try.func86, Try.ntmps86
          go_wp2_with fail
          refine HG.out.mono ?_
          rintro e w1 ⟨rfl, rfl⟩
          go_wp2_with fail
          refine HG2.out.mono ?_
          rintro e w2 ⟨rfl, rfl⟩
          clear HG HG2
          go_wp2
          go_quiet ((first | (go_at_call_of 70 (Value.int .i64 g1.1); exact Calls.quiet_of_same (HI1.out _)) | (go_at_call_of 70 (Value.int .i64 g2.1); exact Calls.quiet_of_same (HI2.out _))))
          go_wp2
          all_goals
            (try simp only [Exit.inBlock, Exit.then]); refine bodyPost_ret (results_tmp4 rfl _ _ _) rfl ?_
            exact ⟨below_same _ _, .inl ⟨_, _, _, _, _, rfl, .inr (.inr (.inr HZ.out))⟩⟩
      · have hyd : decide (0 ≤ g1.1 ∧ g1.1 ≤ 1000000) = false := by simp only [decide_eq_false_iff_not]; exact hy
        have HI1 : Hid (∀ wx : World, Calls Try.prog 70 #[.int .i64 g1.1, .int .i64 0, .int .i64 1000000] wx fun e w' => e = .returned (.bool false) ∧ w' = wx) := fun wx => by
          have h := in_any wx g1.1 0 1000000
          rw [hyd] at h
          exact h
        have HY : Hid (¬ termIn g1.1) := hy
        clear hy hyd
        go_enter Try.func86, Try.ntmps86
        go_wp2_with fail
        refine HG.out.mono ?_
        rintro e w1 ⟨rfl, rfl⟩
        go_wp2_with fail
        refine HG2.out.mono ?_
        rintro e w2 ⟨rfl, rfl⟩
        clear HG HG2
        go_wp2
        go_quiet ((first | (go_at_call_of 70 (Value.int .i64 g1.1); exact Calls.quiet_of_same (HI1.out _))))
        go_wp2
        all_goals
          (try simp only [Exit.inBlock, Exit.then]); refine bodyPost_ret (results_tmp4 rfl _ _ _) rfl ?_
          exact ⟨below_same _ _, .inl ⟨_, _, _, _, _, rfl, .inr (.inr (.inl HY.out))⟩⟩
    · generalize behind g1.2.1 g2 = bh at HG2
      have HSn : Hid (g2.2.2 ≠ 0) := hs2
      clear hok2 HR2
      go_enter Try.func86, Try.ntmps86
      go_wp2_with fail
      refine HG.out.mono ?_
      rintro e w1 ⟨rfl, rfl⟩
      go_wp2_with fail
      refine HG2.out.mono ?_
      rintro e w2 ⟨rfl, rfl⟩
      clear HG HG2
      have HB : Hid (∀ o, Below w2.heap.size w2 (w2.alloc o)) := fun o => (Below.refl _ _).alloc (Nat.le_refl _) _
      go_wp2
      (try simp only [Exit.inBlock, Exit.then]); refine bodyPost_ret (results_tmp4 rfl _ _ _) rfl ?_
      exact ⟨HB.out _, .inl ⟨_, _, _, _, _, rfl, .inr (.inl HSn.out)⟩⟩
  · generalize getR 9 0 0 q = g1 at *
    generalize behind 0 g1 = bh at HG
    have HSn : Hid (g1.2.2 ≠ 0) := hs
    clear hok hgn h
    go_enter Try.func86, Try.ntmps86
    go_wp2_with fail
    refine HG.out.mono ?_
    rintro e w1 ⟨rfl, rfl⟩
    clear HG
    have HB : Hid (∀ o, Below w1.heap.size w1 (w1.alloc o)) := fun o => (Below.refl _ _).alloc (Nat.le_refl _) _
    go_wp2
    (try simp only [Exit.inBlock, Exit.then]); refine bodyPost_ret (results_tmp4 rfl _ _ _) rfl ?_
    exact ⟨HB.out _, .inl ⟨_, _, _, _, _, rfl, .inl HSn.out⟩⟩
end Go.Proofs.Ytipcdioolafkpaa.spect

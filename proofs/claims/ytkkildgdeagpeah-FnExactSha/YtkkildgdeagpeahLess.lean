/- Powers held against primes, as the specification does it. -/
import Derived.Test.YtkkildgdeagpeahTimes
namespace Go.Proofs.Ytkkildgdeagpeah.less
open Go.ChangeShapes Go.WideShapes Go.ChangeAt Go.RowKit
open Go.Proofs.Ytkkildgdeagpeah.bytes Go.Proofs.Ytkkildgdeagpeah.pile Go.Proofs.Ytkkildgdeagpeah.rot Go.Proofs.Ytkkildgdeagpeah.root Go.Proofs.Ytkkildgdeagpeah.arr Go.Proofs.Ytkkildgdeagpeah.primes Go.Proofs.Ytkkildgdeagpeah.specpr Go.Proofs.Ytkkildgdeagpeah.times
set_option linter.unusedVariables false

def dg (n : Nat) : List Nat := [n % 65536, n / 65536 % 65536, n / 4294967296]
def pw (n : Nat) : Nat → List Nat
  | 0 => [1]
  | i + 1 => tOut (pw n i) (dg n) (pw n i).length
theorem pw_len (n i : Nat) : (pw n i).length = 1 + 3 * i := by
  induction i with
  | zero => rfl
  | succ i ih => rw [pw, tOut_len, ih]; show 1 + 3 * i + 3 = _; omega
theorem dg_lt {n : Nat} (h : n < 68719476736) : ∀ x ∈ dg n, x < 65536 := by
  intro x hx
  unfold dg at hx
  simp only [List.mem_cons, List.not_mem_nil, or_false] at hx
  rcases hx with rfl | rfl | rfl <;> omega
theorem pw_lt {n : Nat} (h : n < 68719476736) (i : Nat) : ∀ x ∈ pw n i, x < 65536 := by
  induction i with
  | zero => intro x hx; simp [pw] at hx; omega
  | succ i ih => exact tOut_lt ih (dg_lt h) _
theorem times_pw (W : World) (g gd n i : Nat) (hn : n < 68719476736) (hi : i ≤ 5) (hA : Arr W g 3 .i64 (pw n i)) (hB : Arr W gd 3 .i64 (dg n)) :
    Calls Try.prog 64 #[.slice (some ⟨g, 0, none⟩) (1 + 3 * i) (1 + 3 * i), .slice (some ⟨gd, 0, none⟩) 3 3] W fun e w' => e = .returned (.slice (some ⟨W.heap.size, 0, none⟩) (1 + 3 * (i + 1)) (1 + 3 * (i + 1))) ∧ Arr w' W.heap.size 3 .i64 (pw n (i + 1)) ∧ Below W.heap.size W w' := by
  have h := times_any W g gd (1 + 3 * i) 3 (pw n i) (dg n) hA hB (by rw [pw_len]; omega) (by show 3 ≤ 20; decide) (pw_lt hn i) (dg_lt hn)
  rw [pw_len, show (dg n).length = 3 from rfl] at h
  refine h.mono ?_
  rintro e w' ⟨rfl, h1, h2⟩
  refine ⟨by rw [show 1 + 3 * i + 3 = 1 + 3 * (i + 1) by omega], ?_, h2⟩
  rw [pw, pw_len]
  exact h1

def want (p r z : Nat) : List Nat := List.replicate (2 * r) 0 ++ [p % 65536, p / 65536] ++ List.replicate z 0
theorem want_len (p r z : Nat) : (want p r z).length = 2 * r + 2 + z := by unfold want; simp; omega
def cmp (xs ys : List Nat) : Nat → Bool
  | 0 => true
  | j + 1 => if xs.getD j 0 = ys.getD j 0 then cmp xs ys j else decide (xs.getD j 0 < ys.getD j 0)
theorem wpList_append_int2 (w : World) {ops : Array Oper} {rest : List Oper} {o : Oper} {a : Act} {Q : Exit → Act → World → Prop} (hgd : o.guard = none) (s x : Operand)
    (ho : o.op = .call { callee := .builtin .append, args := #[s, x], argTypes := #[77, 77] })
    (base : Nat) (v : Value) (xs : List Nat) (hs : a.eval s = v) (hown : RowI w base v xs)
    (ad : Nat) (y z : Nat) (hx : a.eval x = .slice (some ⟨ad, 0, none⟩) 2 2) (hn1 : Arr w ad 3 .i64 [y, z]) (h63 : xs.length ≤ 1000) (hbase : base ≤ w.heap.size)
    (h : ∀ g cap w', RowI w' base (.slice (some ⟨g, 0, none⟩) (xs.length + 2) cap) (xs ++ [y, z]) → w.grownBy w' v.ownBlock → wpList Try.prog ops Q rest (a.put o.dst (.slice (some ⟨g, 0, none⟩) (xs.length + 2) cap)) w') : wpList Try.prog ops Q (o :: rest) a w := by
  obtain ⟨i0, hi, hz0, hz1, hz2⟩ := info_parts info3
  refine wpList_append_lies w hgd s x 77 ho base 3 i0 (.int .i64 0) 1 8 Try.underlying77 hi hz0 hz1 hz2 rfl (by decide) v xs.length (vals .i64 xs) hs hown ⟨ad, 0, none⟩ 2 2 [.int .i64 (y : Nat), .int .i64 (z : Nat)] hx rfl (World.news_of_block hn1) (by intro u hu; simp at hu; rcases hu with rfl | rfl <;> rfl) (by decide) (by unfold maxLen; omega) (by omega) hbase _ rfl (fun g cap w' h1 h2 h3 h4 => h g cap w' ?_ h2)
  unfold RowI
  rw [List.length_append]
  have e : vals .i64 (xs ++ [y, z]) = vals .i64 xs ++ [.int .i64 (y : Nat), .int .i64 (z : Nat)] := by simp [vals]
  rw [e]
  exact h1

set_option maxRecDepth 20000 in
set_option maxHeartbeats 8000000 in
theorem less_walk (w : World) (n p r : Nat) (hn : n < 68719476736) (hp : p < 65536) (hr : r = 2 ∨ r = 3) :
    Calls Try.prog 56 #[.int .i64 n, .int .i64 p, .int .i64 r] w fun e w' => e = .returned (.bool (cmp (pw n r) (want p r (r - 1)) (1 + 3 * r))) ∧ Below w.heap.size w w' := by
  have hr5 : r ≤ 3 := by omega
  obtain ⟨W2, hW2⟩ : ∃ W2, W2 = (w.alloc (.cells #[.int .i64 ((n : Int) % 65536), .int .i64 ((n : Int) / 65536 % 65536), .int .i64 ((n : Int) / 4294967296)] 3)).alloc (.cells #[.int .i64 1] 3) := ⟨_, rfl⟩
  have HS : Hid (Arr W2 (w.heap.size + 1) 3 .i64 (pw n 0) ∧ Arr W2 w.heap.size 3 .i64 (dg n) ∧ Below w.heap.size w W2) := by
    rw [hW2]
    refine hide ⟨?_, ?_, ((Below.refl _ _).alloc (Nat.le_refl _) _).alloc (by simp) _⟩
    · have h := Arr.new (w.alloc (.cells #[.int .i64 ((n : Int) % 65536), .int .i64 ((n : Int) / 65536 % 65536), .int .i64 ((n : Int) / 4294967296)] 3)) 3 .i64 [1] #[.int .i64 1] rfl
      rw [show (w.alloc (.cells #[.int .i64 ((n : Int) % 65536), .int .i64 ((n : Int) / 65536 % 65536), .int .i64 ((n : Int) / 4294967296)] 3)).heap.size = w.heap.size + 1 by simp] at h
      exact h
    · exact (Arr.new w 3 .i64 (dg n) _ (by unfold dg vals; simp)).alloc _
  go_enter Try.func56, Try.ntmps56
  go_wp2
  rw [← hW2]
  clear hW2
  go_loopw [8, 9] (fun pv iv wr => ∃ (i g : Nat), i ≤ r ∧ iv = .int .i64 i ∧ pv = .slice (some ⟨g, 0, none⟩) (1 + 3 * i) (1 + 3 * i) ∧ Hid (Arr wr g 3 .i64 (pw n i) ∧ Arr wr w.heap.size 3 .i64 (dg n) ∧ Below w.heap.size w wr ∧ w.heap.size < g)) (fun _ iv _ => r - (intOf iv).toNat)
  case atStart => exact ⟨0, w.heap.size + 1, by omega, rfl, rfl, hide ⟨HS.out.1, HS.out.2.1, HS.out.2.2, by omega⟩⟩
  case round =>
    obtain ⟨i, g, hi, rfl, rfl, HR⟩ := hrel
    clear HS
    by_cases hir : i < r
    · have HT := hide (times_pw wr g w.heap.size n i hn (by omega) HR.out.1 HR.out.2.1)
      go_wp2_with fail
      refine HT.out.mono ?_
      rintro e w3 ⟨rfl, hA3, hB3⟩
      have HR3 : Hid (Arr w3 wr.heap.size 3 .i64 (pw n (i + 1)) ∧ Arr w3 w.heap.size 3 .i64 (dg n) ∧ Below w.heap.size w w3 ∧ w.heap.size < wr.heap.size) := hide ⟨hA3, HR.out.2.1.below hB3 HR.out.2.1.lt, HR.out.2.2.1.trans (hB3.mono HR.out.2.2.1.size), HR.out.2.1.lt⟩
      clear hA3 hB3 HT HR
      go_wp2
      go_roundw
      case rel => exact ⟨i + 1, _, by omega, by go_num, rfl, HR3⟩
      case measure => simp [intOf]; omega
    · obtain rfl : i = r := by omega
      obtain ⟨i0, hi0, hz0, hz1, hz2⟩ := info_parts info3
      have HI := hide (And.intro hi0 (And.intro hz0 (And.intro hz1 hz2)))
      clear hi0 hz0 hz1 hz2
      have hsw := HR.out.2.2.1.size
      obtain ⟨m, hm⟩ : ∃ m, m = 2 * i := ⟨_, rfl⟩
      have hm2 : 2 * (i : Int) = (m : Int) := by omega
      have hm6 : m ≤ 6 := by omega
      have HM := hide hm
      clear hm
      obtain ⟨H, hH⟩ : ∃ H, H = wr.heap.size := ⟨_, rfl⟩
      have HH := hide hH
      have hgH : g < H := by rw [hH]; exact HR.out.1.lt
      have hwH : w.heap.size < H := by rw [hH]; exact HR.out.2.1.lt
      have HMk : Hid (∀ w4 : World, w4.ownsRow H 3 1 (.slice (some ⟨H, 0, none⟩) m m) m (madeCells (Value.int .i64 0).cells (m * 1)).toList → wr.grownBy w4 none → (RowI w4 H (.slice (some ⟨H, 0, none⟩) m m) (List.replicate m 0) ∧ Arr w4 g 3 .i64 (pw n i) ∧ Below w.heap.size w w4 ∧ H < w4.heap.size)) := hide (fun w4 hown4 hgrow4 => by
        have hb : Below wr.heap.size wr w4 := (Below.refl _ _).grown hgrow4 (Nat.le_refl _) (fun k hk => by simp at hk)
        have hrow : RowI w4 H (.slice (some ⟨H, 0, none⟩) m m) (List.replicate m 0) := by
          rw [made_i64] at hown4
          unfold RowI
          rw [List.length_replicate]
          exact hown4
        exact ⟨hrow, HR.out.1.below hb HR.out.1.lt, HR.out.2.2.1.trans (hb.mono hsw), (World.ownsRow.lt hrow H rfl).2⟩)
      have HN5 : Hid (∀ w4 : World, Arr (w4.alloc (.cells #[.int .i64 ((p : Int) % 65536), .int .i64 ((p : Int) / 65536)] 3)) w4.heap.size 3 .i64 [p % 65536, p / 65536]) := hide (fun w4 => Arr.new w4 3 .i64 [p % 65536, p / 65536] _ (by unfold vals; simp))
      clear hH
      go_wp2_with (first | (at_make; rw [← HH.out]; refine wpList_make_full _ rfl _ _ 77 rfl H 3 i0 (.int .i64 0) 1 Try.underlying77 HI.out.1 HI.out.2.1 HI.out.2.2.1 .i64 .i64 _ _ m rfl rfl (by first | rfl | exact hm2) (by first | rfl | exact hm2) (by rw [HI.out.2.2.2]; omega) (by unfold maxLen; omega) (by rw [HH.out]; exact Nat.le_refl _) ?_; intro w4 hown4 hgrow4; rw [← HH.out] at hown4 ⊢; have HR4 := hide (HMk.out w4 hown4 hgrow4); have hs4 := HR4.out.2.2.2; clear hown4 hgrow4) | (at_make; refine wpList_make_full _ rfl _ _ 77 rfl H 3 i0 (.int .i64 0) 1 Try.underlying77 HI.out.1 HI.out.2.1 HI.out.2.2.1 .i64 .i64 _ _ m rfl rfl (by first | rfl | exact hm2) (by first | rfl | exact hm2) (by rw [HI.out.2.2.2]; omega) (by unfold maxLen; omega) (by rw [HH.out]; exact Nat.le_refl _) ?_; intro w4 hown4 hgrow4; rw [← HH.out] at hown4 ⊢; have HR4 := hide (HMk.out w4 hown4 hgrow4); have hs4 := HR4.out.2.2.2; clear hown4 hgrow4) | (at_builtin; refine wpList_append_int2 _ rfl _ _ rfl H (.slice (some ⟨H, 0, none⟩) m m) (List.replicate m 0) rfl (World.ownsRow.alloc HR4.out.1 _) w4.heap.size (p % 65536) (p / 65536) rfl (HN5.out _) (by rw [List.length_replicate]; omega) (by simp; omega) ?_; intro g5 cap5 w5 hown5 hgrow5))
      have HS5 : Hid (RowI w5 H (.slice (some ⟨g5, 0, none⟩) (m + 2) cap5) (want p i 0) ∧ Arr w5 g 3 .i64 (pw n i) ∧ Below w.heap.size w w5 ∧ H < w5.heap.size) := by
        rw [List.length_replicate] at hown5
        have hb5 : Below H (w4.alloc (.cells #[.int .i64 ((p : Int) % 65536), .int .i64 ((p : Int) / 65536)] 3)) w5 := (Below.refl H _).grown hgrow5 (by simp; omega) (fun k hk => by simp [Value.ownBlock] at hk; omega)
        refine hide ⟨?_, (HR4.out.2.1.alloc _).below hb5 hgH, ?_, Nat.lt_of_lt_of_le (by simp; omega) hb5.size⟩
        · unfold want
          rw [← HM.out, List.replicate_zero, List.append_nil]
          exact hown5
        · exact (HR4.out.2.2.1.alloc HR4.out.2.2.1.size _).trans (hb5.mono (by omega))
      try rw [List.length_replicate]
      clear hown5 hgrow5 HR4 HN5 HMk HI HR
      have hmi : (m : Int) = 2 * (i : Int) := by have := HM.out; omega
      have hi23 : 2 ≤ i := by omega
      clear hm2
      obtain ⟨m2, hm2⟩ : ∃ m2, m2 = m + 2 := ⟨_, rfl⟩
      rw [← hm2] at HS5 ⊢
      obtain ⟨l8, hl8⟩ : ∃ l8, l8 = 1 + 3 * i := ⟨_, rfl⟩
      rw [← hl8]
      have HL8 := hide (And.intro hl8 hm2)
      have hc1 : ¬ (l8 : Int) < (m2 : Int) := by omega
      clear hl8 hm2 hmi
      go_loopw [8] (fun pv wx => pv = .slice (some ⟨g, 0, none⟩) l8 (1 + 3 * i) ∧ Hid (RowI wx H (.slice (some ⟨g5, 0, none⟩) m2 cap5) (want p i 0) ∧ Arr wx g 3 .i64 (pw n i) ∧ Below w.heap.size w wx ∧ H < wx.heap.size)) (fun _ _ => 0)
      case atStart => exact ⟨by rw [HL8.out.1], HS5⟩
      case round =>
        obtain ⟨rfl, HX⟩ := hrel
        clear HS5
        go_wp2
        go_loopw [10] (fun wv wy => ∃ (z g6 cap6 l6 : Nat), z ≤ i - 1 ∧ wv = .slice (some ⟨g6, 0, none⟩) l6 cap6 ∧ Hid (l6 = m2 + z) ∧ Hid (RowI wy H (.slice (some ⟨g6, 0, none⟩) l6 cap6) (want p i z) ∧ Arr wy g 3 .i64 (pw n i) ∧ Below w.heap.size w wy ∧ H < wy.heap.size)) (fun wv _ => l8 - (match wv with | .slice _ n _ => n | _ => 0))
        case atStart => exact ⟨0, g5, cap5, m2, by omega, rfl, hide rfl, HX⟩
        case round =>
          obtain ⟨z, g6, cap6, l6, hz, rfl, HL6, HY⟩ := hrel
          clear HX
          by_cases hz1 : z < i - 1
          · have hc2 : (l6 : Int) < (l8 : Int) := by have := HL6.out; have := HL8.out; have := HM.out; omega
            have HLw : Hid ((want p i z).length ≤ 1000) := hide (by rw [want_len]; omega)
            have hHs := HY.out.2.2.2
            have HCell : Hid ((wr.alloc (.cells #[.int .i64 0] 3)).cell? ⟨wr.heap.size, 0, none⟩ = some (.int .i64 ((0 : Nat) : Int))) := hide ((Arr.new wr 3 .i64 [0] #[.int .i64 0] rfl).cell (i := 0) (by simp))
            go_wp2_with (at_builtin; refine wpList_append_int _ rfl _ _ rfl H (.slice (some ⟨g6, 0, none⟩) l6 cap6) (want p i z) rfl (World.ownsRow.alloc HY.out.1 _) ⟨wr.heap.size, 0, none⟩ 0 rfl HCell.out HLw.out (by simp; omega) ?_; intro g9 cap9 w9 hown9 hgrow9 hat9 hlt9)
            obtain ⟨l9, hl9⟩ : ∃ l9, l9 = (want p i z).length + 1 := ⟨_, rfl⟩
            have HY9 : Hid (RowI w9 H (.slice (some ⟨g9, 0, none⟩) l9 cap9) (want p i (z + 1)) ∧ Arr w9 g 3 .i64 (pw n i) ∧ Below w.heap.size w w9 ∧ H < w9.heap.size) := by
              have hb9 : Below H (wr.alloc (.cells #[.int .i64 0] 3)) w9 := (Below.refl H _).grown hgrow9 (by simp; omega) (fun k hk => (World.ownsRow.lt HY.out.1 k hk).1)
              refine hide ⟨?_, (HY.out.2.1.alloc _).below hb9 hgH, ?_, Nat.lt_of_lt_of_le (by simp; omega) hb9.size⟩
              · rw [hl9]
                have e : want p i (z + 1) = want p i z ++ [0] := by unfold want; rw [List.replicate_succ']; simp
                rw [e]
                exact hown9
              · exact (HY.out.2.2.1.alloc HY.out.2.2.1.size _).trans (hb9.mono (by omega))
            rw [← hl9]
            have HL9 : Hid (l9 = m2 + (z + 1)) := hide (by rw [hl9, want_len]; have := HL8.out; have := HM.out; omega)
            clear hown9 hgrow9 hat9 hl9 HY
            go_wp2
            go_roundw
            case rel => exact ⟨z + 1, g9, cap9, l9, by omega, rfl, HL9, HY9⟩
            case measure => have := HL9.out; have := HL6.out; simp; omega
          · have hc2 : ¬ (l6 : Int) < (l8 : Int) := by have := HL6.out; have := HL8.out; have := HM.out; omega
            have hzi : z = i - 1 := by omega
            subst hzi
            have hl8p : 1 ≤ l8 := by have := HL8.out; omega
            have hl8u : l8 ≤ 10 := by have := HL8.out; omega
            have hl68 : l8 ≤ l6 := by omega
            have HXl : Hid ((pw n i).length = l8) := hide (by rw [pw_len]; exact HL8.out.1.symm)
            have HPost : Hid (1 + 3 * i = l8) := hide HL8.out.1.symm
            go_wp2
            go_loopw [11] (fun jv wz => ∃ j : Nat, j ≤ l8 ∧ jv = .int .i64 ((j : Int) - 1) ∧ Hid (cmp (pw n i) (want p i (i - 1)) l8 = cmp (pw n i) (want p i (i - 1)) j) ∧ Hid (RowI wz H (.slice (some ⟨g6, 0, none⟩) l6 cap6) (want p i (i - 1)) ∧ Arr wz g 3 .i64 (pw n i) ∧ Below w.heap.size w wz)) (fun jv _ => (intOf jv + 1).toNat)
            case atStart => exact ⟨l8, Nat.le_refl _, rfl, hide rfl, hide ⟨HY.out.1, HY.out.2.1, HY.out.2.2.1⟩⟩
            case round =>
              obtain ⟨j, hj, rfl, HC, HZ⟩ := hrel
              clear HY
              cases j with
              | zero =>
                go_wp2
                go_ret
                exact ⟨by rw [HPost.out, HC.out]; rfl, HZ.out.2.2⟩
              | succ j =>
                have cx := HZ.out.2.1.cell (i := j) (by rw [HXl.out]; omega)
                obtain ⟨hxl, hcells⟩ := HZ.out.1.cells
                clear hxl
                obtain ⟨g', hg', hcg⟩ := hcells (by omega)
                simp only [Option.some.injEq, Addr.mk.injEq] at hg'
                obtain ⟨rfl, _⟩ := hg'
                have cy := hcg j (by omega)
                clear hcells hcg
                have HT : Hid (cmp (pw n i) (want p i (i - 1)) (j + 1) = if (pw n i).getD j 0 = (want p i (i - 1)).getD j 0 then cmp (pw n i) (want p i (i - 1)) j else decide ((pw n i).getD j 0 < (want p i (i - 1)).getD j 0)) := hide rfl
                generalize (pw n i).getD j 0 = X at cx HT
                generalize (want p i (i - 1)).getD j 0 = Y at cy HT
                rw [show (((j + 1 : Nat) : Int) - 1) = (j : Int) by omega]
                have hj8 : (j : Int) < (l8 : Int) := by omega
                have hj6 : (j : Int) < (l6 : Int) := by omega
                by_cases hXY : X = Y
                · subst hXY
                  rw [if_pos rfl] at HT
                  go_wp2
                  go_quiet (fail)
                  have HZ4 : Hid (RowI (wr.drewN nq) H (.slice (some ⟨g6, 0, none⟩) l6 cap6) (want p i (i - 1)) ∧ Arr (wr.drewN nq) g 3 .i64 (pw n i) ∧ Below w.heap.size w (wr.drewN nq)) := hide ⟨HZ.out.1, HZ.out.2.1, HZ.out.2.2.trans ⟨rfl, rfl, rfl, Nat.le_refl _, fun _ _ => rfl⟩⟩
                  generalize wr.drewN nq = W4 at HZ4 ⊢
                  clear HZ cx cy
                  go_wp2
                  go_roundw
                  case rel => exact ⟨j, by omega, rfl, hide (HC.out.trans HT.out), HZ4⟩
                  case measure => simp [intOf]
                · have hXI : ¬ (X : Int) = (Y : Int) := by omega
                  rw [if_neg hXY] at HT
                  have HB4 : Hid (∀ m m', Below w.heap.size w ((wr.drewN m).drewN m')) := hide (fun m m' => HZ.out.2.2.trans ⟨rfl, rfl, rfl, Nat.le_refl _, fun _ _ => rfl⟩)
                  go_wp2
                  go_quiet (fail)
                  go_wp2
                  go_quiet (fail)
                  go_wp2
                  go_ret
                  exact ⟨by rw [HPost.out, HC.out, HT.out]; rfl, HB4.out _ _⟩
end Go.Proofs.Ytkkildgdeagpeah.less

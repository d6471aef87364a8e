/- diskActs answers the acts of the code. -/
import Derived.Test.YtipcdioolafkpaaActsFn
namespace Go.Proofs.Ytipcdioolafkpaa.diskacts
open Go.ChangeShapes Go.WideShapes Go.ChangeAt Go.RowKit
open Go.Proofs.Ytipcdioolafkpaa.bytes Go.Proofs.Ytipcdioolafkpaa.put Go.Proofs.Ytipcdioolafkpaa.pile Go.Proofs.Ytipcdioolafkpaa.join Go.Proofs.Ytipcdioolafkpaa.frames Go.Proofs.Ytipcdioolafkpaa.reader Go.Proofs.Ytipcdioolafkpaa.one Go.Proofs.Ytipcdioolafkpaa.many Go.Proofs.Ytipcdioolafkpaa.draws Go.Proofs.Ytipcdioolafkpaa.payloads Go.Proofs.Ytipcdioolafkpaa.bytefn Go.Proofs.Ytipcdioolafkpaa.drawsfn Go.Proofs.Ytipcdioolafkpaa.acts Go.Proofs.Ytipcdioolafkpaa.implrun Go.Proofs.Ytipcdioolafkpaa.disks Go.Proofs.Ytipcdioolafkpaa.actsfn
set_option linter.unusedVariables false

theorem cell_four_new (w : World) (e : Nat) (x0 x1 x2 x3 : Value) : ∀ j u, [x0, x1, x2, x3][j]? = some u → (w.alloc (.cells #[x0, x1, x2, x3] e)).cell? ((⟨w.heap.size, 0, none⟩ : Addr).add j) = some u := by
  intro j u hj
  have hb := heap_alloc_new w (.cells #[x0, x1, x2, x3] e)
  rcases j with _ | _ | _ | _ | j
  · exact cell_of hb hj
  · exact cell_of hb hj
  · exact cell_of hb hj
  · exact cell_of hb hj
  · simp at hj

theorem own_sl {w : World} {B : Nat} {v : Value} {ys : List Int} (h : Own w B v ys) : ∃ ao n c, v = .slice ao n c := by
  obtain ⟨_, _, ⟨rfl, _⟩ | ⟨g, cap, cur, rfl, _⟩⟩ := h
  · exact ⟨_, _, _, rfl⟩
  · exact ⟨_, _, _, rfl⟩
theorem own_down {w : World} {B B' : Nat} {v : Value} {ys : List Int} (h : Own w B v ys) (hl : B' ≤ B) : Own w B' v ys := by
  obtain ⟨h0, h1, h2 | ⟨g, cap, cur, h3, h4, h5⟩⟩ := h
  · exact ⟨h0, h1, .inl h2⟩
  · exact ⟨h0, h1, .inr ⟨g, cap, cur, h3, by omega, h5⟩⟩

theorem act2_0 (xs ys : List Int) (s : Nat × Int) : act2 xs ys (0, s) = (⟨2, 0, 0, []⟩, s) := by simp [act2]
theorem act2_1 (xs ys : List Int) (s : Nat × Int) : act2 xs ys (1, s) = (⟨2, 0, 0, []⟩, s) := by simp [act2]
theorem act2_2 (xs ys : List Int) (a : Nat) (sd : Int) : act2 xs ys (2, a, sd) = (⟨3, (nextR 4 xs a sd).1, (nextR 6 xs (nextR 4 xs a sd).2.1 (nextR 4 xs a sd).2.2).1, []⟩, (nextR 6 xs (nextR 4 xs a sd).2.1 (nextR 4 xs a sd).2.2).2) := by simp [act2]
theorem act2_3 (xs ys : List Int) (a : Nat) (sd : Int) : act2 xs ys (3, a, sd) = (⟨4, (nextR 20 xs a sd).1, 0, []⟩, (nextR 20 xs a sd).2) := by simp [act2]
theorem act2_4 (xs ys : List Int) (a : Nat) (sd : Int) : act2 xs ys (4, a, sd) = (⟨(nextR 6 xs a sd).1, (nextR 5 xs (nextR 6 xs a sd).2.1 (nextR 6 xs a sd).2.2).1 - 1, (nextR 5 xs (nextR 5 xs (nextR 6 xs a sd).2.1 (nextR 6 xs a sd).2.2).2.1 (nextR 5 xs (nextR 6 xs a sd).2.1 (nextR 6 xs a sd).2.2).2.2).1 - 1, ys⟩, (nextR 5 xs (nextR 5 xs (nextR 6 xs a sd).2.1 (nextR 6 xs a sd).2.2).2.1 (nextR 5 xs (nextR 6 xs a sd).2.1 (nextR 6 xs a sd).2.2).2.2).2) := by simp [act2]
theorem act2_5 (xs ys : List Int) (r : Int) (s : Nat × Int) (h : 5 ≤ r) : act2 xs ys (r, s) = (⟨1, 0, 0, ys⟩, s) := by
  unfold act2
  rw [if_neg (by simp only; omega), if_neg (by simp only; omega), if_neg (by simp only; omega), if_neg (by simp only; omega), if_neg (by simp only; omega)]

set_option maxHeartbeats 4000000 in
theorem diskActs_fn (w : World) (d : Nat) (ao : Option Addr) (cap : Nat) (xs : List Int) (h : SS w d ao cap xs 0 ((xs.length : Int) % 1000)) :
    Calls Try.prog 48 #[.pointer (some ⟨d, 0, none⟩)] w fun e w' => ∃ v, e = .returned v ∧ RdActs w' v (actsOf xs) ∧ w.grownBy w' (some d) := by
  obtain ⟨i0, hi, hz0, hz1, hz2⟩ := info_parts info76
  have HI : Hid (Try.prog.info? 76 = some i0 ∧ i0.zero = some (.agg #[.int .i64 0, .int .i64 0, .int .i64 0, .slice none 0 0]) ∧ i0.size = 4 ∧ i0.bytes = 48) := ⟨hi, hz0, hz1, hz2⟩
  clear hi hz0 hz1 hz2
  have HX : Hid (0 < xs.length → ∀ x, ao = some x → x.block < w.heap.size) := rd_lt h.data
  have hd := h.lt
  have hba : Below w.heap.size w (w.alloc (.cells #[] 76)) := (Below.refl _ _).alloc (Nat.le_refl _) _
  have HS0 : Hid (SS (w.alloc (.cells #[] 76)) d ao cap xs 0 ((xs.length : Int) % 1000)) := h.below hba
  have HA0 : Hid (AR (w.alloc (.cells #[] 76)) w.heap.size (.slice (some ⟨w.heap.size, 0, none⟩) 0 0) [] []) := AR.nil w w.heap.size (Nat.le_refl _)
  have HZ := hide (size_fn _ d ao cap xs 0 _ HS0.out)
  have HAc : Hid (actsOf xs = actsL xs (nextR ((sizeN xs : Int) + 2) xs 0 ((xs.length : Int) % 1000)).1.toNat (nextR ((sizeN xs : Int) + 2) xs 0 ((xs.length : Int) % 1000)).2.1 (nextR ((sizeN xs : Int) + 2) xs 0 ((xs.length : Int) % 1000)).2.2) := rfl
  clear h hba
  have hS : sizeN xs ≤ 16 := by unfold sizeN; omega
  generalize sizeN xs = S at HZ HAc hS
  generalize actsOf xs = Tot at HAc ⊢
  generalize hsd : (xs.length : Int) % 1000 = sd0 at HS0 HZ HAc
  clear hsd
  go_enter Try.func48, Try.ntmps48
  go_wp2_with fail
  refine HZ.out.mono ?_
  rintro e w1 ⟨rfl, m, rfl⟩
  clear HZ
  have HS1 : Hid (SS ((w.alloc (.cells #[] 76)).drewN m) d ao cap xs 0 sd0) := HS0.out.below (below_same _ _)
  have HA1 : Hid (AR ((w.alloc (.cells #[] 76)).drewN m) w.heap.size (.slice (some ⟨w.heap.size, 0, none⟩) 0 0) [] []) := HA0.out.kept (drew_grown _ _ none) (by simp)
  have HN := hide (next_fn _ d ao cap xs 0 sd0 ((S : Int) + 2) (by omega) (by omega) HS1.out (by omega))
  have hbd := nextR_bd (n := (S : Int) + 2) (by omega) xs 0 sd0
  generalize nextR ((S : Int) + 2) xs 0 sd0 = r at HN hbd HAc
  obtain ⟨r, a1, sd1⟩ := r
  simp only at HN hbd HAc
  obtain ⟨R, rfl⟩ := Int.eq_ofNat_of_zero_le hbd.1
  rw [Int.toNat_natCast] at HAc
  have ha1 : a1 = 1 := by omega
  have hR : R ≤ 17 := by omega
  clear hbd
  go_wp2_with fail
  refine HN.out.mono ?_
  rintro e w1 ⟨rfl, S1, K1⟩
  have H0 : Hid (LS w w1 d ao cap xs w.heap.size (.slice (some ⟨w.heap.size, 0, none⟩) 0 0) [] [] a1 sd1) :=
    hide ⟨S1, HA1.out.kept K1 (fun k hk => by simp only [Option.some.injEq] at hk; omega), grown_trans (grown_trans (alloc_grown _ _ _) (drew_grown _ _ _)) K1, hd, ⟨Nat.le_refl _, Nat.le_refl _⟩, HX.out⟩
  clear S1 K1 HN HS0 HA0 HS1 HA1 HX
  go_wp2
  go_loopw [3, 4] (fun v i wr => ∃ (k : Nat) (al : List Act4) (us : List Value) (a : Nat) (sd' : Int), i = .int .i64 k ∧ k + al.length ≤ 17 ∧ a + 13 * k ≤ 222 ∧ Hid (LS w wr d ao cap xs w.heap.size v al us a sd' ∧ Tot = al ++ actsL xs k a sd')) (fun _ i _ => (intOf i).toNat)
  case atStart => exact ⟨R, [], [], a1, sd1, rfl, by simp; omega, by omega, hide ⟨H0.out, by rw [HAc.out]; rfl⟩⟩
  case round =>
    clear H0 HAc
    obtain ⟨k, al, us, a, sd', rfl, hk, ha, HRr⟩ := hrel
    by_cases hk0 : (0 : Int) < k
    · obtain ⟨k', rfl⟩ : ∃ k', k = k' + 1 := ⟨k - 1, by omega⟩
      have HB := hide (bytes_fn wr d ao cap xs a sd' HRr.out.1.ss (by omega))
      have hba := bytesR_at xs a sd'
      have HAct : Hid (Tot = al ++ ((actR xs a sd').1 :: actsL xs k' (actR xs a sd').2.1 (actR xs a sd').2.2)) := HRr.out.2
      have hfit := actR_fit xs a sd'
      have HA2 : Hid (actR xs a sd' = act2 xs (bytesR xs a sd').1 (nextR 8 xs (bytesR xs a sd').2.1 (bytesR xs a sd').2.2)) := rfl
      have hafit := hfit.2
      clear hfit
      generalize actR xs a sd' = Aa at HAct HA2 hafit
      generalize bytesR xs a sd' = q at HB hba HA2
      obtain ⟨ys, a2, sd2⟩ := q
      simp only at HB hba HA2
      go_wp2_with fail
      refine HB.out.mono ?_
      rintro e w2 ⟨yv, rfl, O2, S2, K2⟩
      obtain ⟨yo, yn, yc, rfl⟩ := own_sl O2
      go_wp2_with fail
      have hgr := HRr.out.1.gr.size
      have hgr2 := K2.size
      have HM0 : Hid (MS w (w2.alloc (.cells #[.int .i64 1, .int .i64 0, .int .i64 0, .slice yo yn yc] 76)) d ao cap xs w.heap.size u3 al us w2.heap.size 1 0 0 (.slice yo yn yc) ys a2 sd2) := by
        have hA := HRr.out.1.ar.kept K2 (fun k hk => by simp only [Option.some.injEq] at hk; omega)
        refine hide ⟨S2.below ((Below.refl _ _).alloc (Nat.le_refl _) _), hA.kept (alloc_grown _ _ none) (by simp), heap_alloc_new w2 _, own_down (own_kept O2 (alloc_grown _ _ none) (by cases (Value.slice yo yn yc).ownBlock <;> simp)) (by omega), ?_, by omega, grown_trans (grown_trans HRr.out.1.gr K2) (alloc_grown _ _ _), hd, ⟨Nat.le_refl _, Nat.le_refl _⟩, HRr.out.1.xf⟩
        obtain ⟨cs, hrow, _⟩ := HRr.out.1.ar.row
        intro e
        have := (World.ownsRow.lt hrow _ e).2
        omega
      clear O2 S2 K2 HRr HB
      have HN := hide (next_fn _ d ao cap xs a2 sd2 8 (by omega) (by omega) HM0.out.ss (by omega))
      have hb8 := nextR_bd (n := 8) (by decide) xs a2 sd2
      generalize nextR 8 xs a2 sd2 = q at HN hb8 HA2
      obtain ⟨r, a3, sd3⟩ := q
      simp only at HN hb8 HA2
      refine HN.out.mono ?_
      rintro e w3 ⟨rfl, S3, K3⟩
      have HM := hide (HM0.out.draw K3 S3)
      clear S3 K3 HN HM0
      generalize w2.heap.size = X at HM hgr2 ⊢
      obtain ⟨⟨q0, q1, q2, q3⟩, f0, f1, f2, f3⟩ := HM.out.cells
      rcases (by omega : r = 0 ∨ r = 1 ∨ r = 2 ∨ r = 3 ∨ r = 4 ∨ 5 ≤ r) with rfl | rfl | rfl | rfl | rfl | h5
      · rw [act2_0] at HA2
        obtain rfl := HA2.out
        have HM := hide (HM.out.four 2 0 0)
        go_wp2_with (at_builtin; have hW : (World.heap ((((World.setCell w3 ⟨X, 0, none⟩ (.int .i64 2)).setCell ⟨X, 1, none⟩ (.int .i64 0)).setCell ⟨X, 2, none⟩ (.int .i64 0)).setCell ⟨X, 3, none⟩ (.slice none 0 0))).size = w3.heap.size := (by simp); generalize ((((World.setCell w3 ⟨X, 0, none⟩ (.int .i64 2)).setCell ⟨X, 1, none⟩ (.int .i64 0)).setCell ⟨X, 2, none⟩ (.int .i64 0)).setCell ⟨X, 3, none⟩ (.slice none 0 0)) = w9 at HM hW ⊢; obtain ⟨cs, hrow, hcs⟩ := HM.out.ar.row; have HRow := hide (And.intro hrow hcs); have hwsz : w.heap.size ≤ w9.heap.size := HM.out.gr.size; clear hrow hcs; refine wpList_append_lies _ rfl _ _ 43 rfl w.heap.size 76 i0 (.agg #[.int .i64 0, .int .i64 0, .int .i64 0, .slice none 0 0]) 4 48 Try.underlying43 HI.out.1 HI.out.2.1 HI.out.2.2.1 HI.out.2.2.2 rfl (by decide) _ _ _ rfl (HRow.out.1.alloc _) ⟨w3.heap.size, 0, none⟩ 1 1 [.int .i64 2, .int .i64 0, .int .i64 0, .slice none 0 0] rfl rfl (by rw [← hW]; exact cell_four_new _ _ _ _ _ _) ?c2 (by decide) ?c3 ?c4 ?c5 _ rfl ?_)
        case c2 => intro u hu; simp at hu; rcases hu with rfl | rfl | rfl | rfl <;> rfl
        case c3 => unfold maxLen; omega
        case c4 => omega
        case c5 => first | omega | (simp; omega)
        intro g cap9 w10 hown' hgrow _ _
        have HL := hide (HM.out.push HRow.out.1 HRow.out.2 hown' hgrow)
        clear hown' hgrow HRow HM HI
        go_wp2
        go_roundw
        case rel => exact ⟨k', _, _, _, _, by go_num, by simp; omega, by first | omega | (simp only at hafit; omega), hide ⟨HL.out, by rw [HAct.out]; simp⟩⟩
        case measure => simp [intOf]
      · rw [act2_1] at HA2
        obtain rfl := HA2.out
        have HM := hide (HM.out.four 2 0 0)
        go_wp2_with (at_builtin; have hW : (World.heap ((((World.setCell w3 ⟨X, 0, none⟩ (.int .i64 2)).setCell ⟨X, 1, none⟩ (.int .i64 0)).setCell ⟨X, 2, none⟩ (.int .i64 0)).setCell ⟨X, 3, none⟩ (.slice none 0 0))).size = w3.heap.size := (by simp); generalize ((((World.setCell w3 ⟨X, 0, none⟩ (.int .i64 2)).setCell ⟨X, 1, none⟩ (.int .i64 0)).setCell ⟨X, 2, none⟩ (.int .i64 0)).setCell ⟨X, 3, none⟩ (.slice none 0 0)) = w9 at HM hW ⊢; obtain ⟨cs, hrow, hcs⟩ := HM.out.ar.row; have HRow := hide (And.intro hrow hcs); have hwsz : w.heap.size ≤ w9.heap.size := HM.out.gr.size; clear hrow hcs; refine wpList_append_lies _ rfl _ _ 43 rfl w.heap.size 76 i0 (.agg #[.int .i64 0, .int .i64 0, .int .i64 0, .slice none 0 0]) 4 48 Try.underlying43 HI.out.1 HI.out.2.1 HI.out.2.2.1 HI.out.2.2.2 rfl (by decide) _ _ _ rfl (HRow.out.1.alloc _) ⟨w3.heap.size, 0, none⟩ 1 1 [.int .i64 2, .int .i64 0, .int .i64 0, .slice none 0 0] rfl rfl (by rw [← hW]; exact cell_four_new _ _ _ _ _ _) ?c2 (by decide) ?c3 ?c4 ?c5 _ rfl ?_)
        case c2 => intro u hu; simp at hu; rcases hu with rfl | rfl | rfl | rfl <;> rfl
        case c3 => unfold maxLen; omega
        case c4 => omega
        case c5 => first | omega | (simp; omega)
        intro g cap9 w10 hown' hgrow _ _
        have HL := hide (HM.out.push HRow.out.1 HRow.out.2 hown' hgrow)
        clear hown' hgrow HRow HM HI
        go_wp2
        go_roundw
        case rel => exact ⟨k', _, _, _, _, by go_num, by simp; omega, by first | omega | (simp only at hafit; omega), hide ⟨HL.out, by rw [HAct.out]; simp⟩⟩
        case measure => simp [intOf]
      · rw [act2_2] at HA2
        have HN := hide (next_fn _ d ao cap xs a3 sd3 4 (by omega) (by omega) HM.out.ss (by omega))
        have hb4 := nextR_bd (n := 4) (by decide) xs a3 sd3
        generalize nextR 4 xs a3 sd3 = q at HN hb4 HA2
        obtain ⟨r4, a4, sd4⟩ := q
        simp only at HN hb4 HA2
        clear q0 q1 q2 q3 f0 f1 f2 f3
        go_wp2_with fail
        refine HN.out.mono ?_
        rintro e w4 ⟨rfl, S3, K3⟩
        have HM := hide (HM.out.draw K3 S3)
        clear S3 K3 HN
        obtain ⟨⟨q0, q1, q2, q3⟩, f0, f1, f2, f3⟩ := HM.out.cells
        have HN := hide (next_fn _ d ao cap xs a4 sd4 6 (by omega) (by omega) HM.out.ss (by omega))
        have hb5 := nextR_bd (n := 6) (by decide) xs a4 sd4
        generalize nextR 6 xs a4 sd4 = q at HN hb5 HA2
        obtain ⟨r5, a5, sd5⟩ := q
        simp only at HN hb5 HA2
        clear q0 q1 q2 q3 f0 f1 f2 f3
        go_wp2_with fail
        refine HN.out.mono ?_
        rintro e w5 ⟨rfl, S3, K3⟩
        have HM := hide (HM.out.draw K3 S3)
        clear S3 K3 HN
        obtain ⟨⟨q0, q1, q2, q3⟩, f0, f1, f2, f3⟩ := HM.out.cells
        obtain rfl := HA2.out
        have HM := hide (HM.out.four 3 r4 r5)
        go_wp2_with (at_builtin; have hW : (World.heap ((((World.setCell w5 ⟨X, 0, none⟩ (.int .i64 3)).setCell ⟨X, 1, none⟩ (.int .i64 r4)).setCell ⟨X, 2, none⟩ (.int .i64 r5)).setCell ⟨X, 3, none⟩ (.slice none 0 0))).size = w5.heap.size := (by simp); generalize ((((World.setCell w5 ⟨X, 0, none⟩ (.int .i64 3)).setCell ⟨X, 1, none⟩ (.int .i64 r4)).setCell ⟨X, 2, none⟩ (.int .i64 r5)).setCell ⟨X, 3, none⟩ (.slice none 0 0)) = w9 at HM hW ⊢; obtain ⟨cs, hrow, hcs⟩ := HM.out.ar.row; have HRow := hide (And.intro hrow hcs); have hwsz : w.heap.size ≤ w9.heap.size := HM.out.gr.size; clear hrow hcs; refine wpList_append_lies _ rfl _ _ 43 rfl w.heap.size 76 i0 (.agg #[.int .i64 0, .int .i64 0, .int .i64 0, .slice none 0 0]) 4 48 Try.underlying43 HI.out.1 HI.out.2.1 HI.out.2.2.1 HI.out.2.2.2 rfl (by decide) _ _ _ rfl (HRow.out.1.alloc _) ⟨w5.heap.size, 0, none⟩ 1 1 [.int .i64 3, .int .i64 r4, .int .i64 r5, .slice none 0 0] rfl rfl (by rw [← hW]; exact cell_four_new _ _ _ _ _ _) ?c2 (by decide) ?c3 ?c4 ?c5 _ rfl ?_)
        case c2 => intro u hu; simp at hu; rcases hu with rfl | rfl | rfl | rfl <;> rfl
        case c3 => unfold maxLen; omega
        case c4 => omega
        case c5 => first | omega | (simp; omega)
        intro g cap9 w10 hown' hgrow _ _
        have HL := hide (HM.out.push HRow.out.1 HRow.out.2 hown' hgrow)
        clear hown' hgrow HRow HM HI
        go_wp2
        go_roundw
        case rel => exact ⟨k', _, _, _, _, by go_num, by simp; omega, by first | omega | (simp only at hafit; omega), hide ⟨HL.out, by rw [HAct.out]; simp⟩⟩
        case measure => simp [intOf]
      · rw [act2_3] at HA2
        have HN := hide (next_fn _ d ao cap xs a3 sd3 20 (by omega) (by omega) HM.out.ss (by omega))
        have hb4 := nextR_bd (n := 20) (by decide) xs a3 sd3
        generalize nextR 20 xs a3 sd3 = q at HN hb4 HA2
        obtain ⟨r4, a4, sd4⟩ := q
        simp only at HN hb4 HA2
        clear q0 q1 q2 q3 f0 f1 f2 f3
        go_wp2_with fail
        refine HN.out.mono ?_
        rintro e w4 ⟨rfl, S3, K3⟩
        have HM := hide (HM.out.draw K3 S3)
        clear S3 K3 HN
        obtain ⟨⟨q0, q1, q2, q3⟩, f0, f1, f2, f3⟩ := HM.out.cells
        obtain rfl := HA2.out
        have HM := hide (HM.out.four 4 r4 0)
        go_wp2_with (at_builtin; have hW : (World.heap ((((World.setCell w4 ⟨X, 0, none⟩ (.int .i64 4)).setCell ⟨X, 1, none⟩ (.int .i64 r4)).setCell ⟨X, 2, none⟩ (.int .i64 0)).setCell ⟨X, 3, none⟩ (.slice none 0 0))).size = w4.heap.size := (by simp); generalize ((((World.setCell w4 ⟨X, 0, none⟩ (.int .i64 4)).setCell ⟨X, 1, none⟩ (.int .i64 r4)).setCell ⟨X, 2, none⟩ (.int .i64 0)).setCell ⟨X, 3, none⟩ (.slice none 0 0)) = w9 at HM hW ⊢; obtain ⟨cs, hrow, hcs⟩ := HM.out.ar.row; have HRow := hide (And.intro hrow hcs); have hwsz : w.heap.size ≤ w9.heap.size := HM.out.gr.size; clear hrow hcs; refine wpList_append_lies _ rfl _ _ 43 rfl w.heap.size 76 i0 (.agg #[.int .i64 0, .int .i64 0, .int .i64 0, .slice none 0 0]) 4 48 Try.underlying43 HI.out.1 HI.out.2.1 HI.out.2.2.1 HI.out.2.2.2 rfl (by decide) _ _ _ rfl (HRow.out.1.alloc _) ⟨w4.heap.size, 0, none⟩ 1 1 [.int .i64 4, .int .i64 r4, .int .i64 0, .slice none 0 0] rfl rfl (by rw [← hW]; exact cell_four_new _ _ _ _ _ _) ?c2 (by decide) ?c3 ?c4 ?c5 _ rfl ?_)
        case c2 => intro u hu; simp at hu; rcases hu with rfl | rfl | rfl | rfl <;> rfl
        case c3 => unfold maxLen; omega
        case c4 => omega
        case c5 => first | omega | (simp; omega)
        intro g cap9 w10 hown' hgrow _ _
        have HL := hide (HM.out.push HRow.out.1 HRow.out.2 hown' hgrow)
        clear hown' hgrow HRow HM HI
        go_wp2
        go_roundw
        case rel => exact ⟨k', _, _, _, _, by go_num, by simp; omega, by first | omega | (simp only at hafit; omega), hide ⟨HL.out, by rw [HAct.out]; simp⟩⟩
        case measure => simp [intOf]
      · rw [act2_4] at HA2
        have HN := hide (next_fn _ d ao cap xs a3 sd3 6 (by omega) (by omega) HM.out.ss (by omega))
        have hb4 := nextR_bd (n := 6) (by decide) xs a3 sd3
        generalize nextR 6 xs a3 sd3 = q at HN hb4 HA2
        obtain ⟨r4, a4, sd4⟩ := q
        simp only at HN hb4 HA2
        clear q0 q1 q2 q3 f0 f1 f2 f3
        go_wp2_with fail
        refine HN.out.mono ?_
        rintro e w4 ⟨rfl, S3, K3⟩
        have HM := hide (HM.out.draw K3 S3)
        clear S3 K3 HN
        obtain ⟨⟨q0, q1, q2, q3⟩, f0, f1, f2, f3⟩ := HM.out.cells
        have HM := hide (HM.out.cell (cur := #[]) 0 (.int .i64 r4) r4 0 0 (.slice yo yn yc) ys HM.out.dat rfl)
        have HN := hide (next_fn _ d ao cap xs a4 sd4 5 (by omega) (by omega) HM.out.ss (by omega))
        have hb5 := nextR_bd (n := 5) (by decide) xs a4 sd4
        generalize nextR 5 xs a4 sd4 = q at HN hb5 HA2
        obtain ⟨r5, a5, sd5⟩ := q
        simp only at HN hb5 HA2
        go_wp2_with fail
        clear q0 q1 q2 q3 f0 f1 f2 f3
        refine HN.out.mono ?_
        rintro e w5 ⟨rfl, S3, K3⟩
        have HM := hide (HM.out.draw K3 S3)
        clear S3 K3 HN
        obtain ⟨⟨q0, q1, q2, q3⟩, f0, f1, f2, f3⟩ := HM.out.cells
        have HM := hide (HM.out.cell (cur := #[]) 1 (.int .i64 (r5 - 1)) r4 (r5 - 1) 0 (.slice yo yn yc) ys HM.out.dat rfl)
        have HN := hide (next_fn _ d ao cap xs a5 sd5 5 (by omega) (by omega) HM.out.ss (by omega))
        have hb6 := nextR_bd (n := 5) (by decide) xs a5 sd5
        generalize nextR 5 xs a5 sd5 = q at HN hb6 HA2
        obtain ⟨r6, a6, sd6⟩ := q
        simp only at HN hb6 HA2
        go_wp2_with fail
        clear q0 q1 q2 q3 f0 f1 f2 f3
        refine HN.out.mono ?_
        rintro e w6 ⟨rfl, S3, K3⟩
        have HM := hide (HM.out.draw K3 S3)
        clear S3 K3 HN
        obtain ⟨⟨q0, q1, q2, q3⟩, f0, f1, f2, f3⟩ := HM.out.cells
        obtain rfl := HA2.out
        have HM := hide (HM.out.cell (cur := #[]) 2 (.int .i64 (r6 - 1)) r4 (r5 - 1) (r6 - 1) (.slice yo yn yc) ys HM.out.dat rfl)
        go_wp2_with (at_builtin; have hW : (World.heap (World.setCell w6 ⟨X, 2, none⟩ (.int .i64 (r6 - 1)))).size = w6.heap.size := (by simp); generalize (World.setCell w6 ⟨X, 2, none⟩ (.int .i64 (r6 - 1))) = w9 at HM hW ⊢; obtain ⟨cs, hrow, hcs⟩ := HM.out.ar.row; have HRow := hide (And.intro hrow hcs); have hwsz : w.heap.size ≤ w9.heap.size := HM.out.gr.size; clear hrow hcs; refine wpList_append_lies _ rfl _ _ 43 rfl w.heap.size 76 i0 (.agg #[.int .i64 0, .int .i64 0, .int .i64 0, .slice none 0 0]) 4 48 Try.underlying43 HI.out.1 HI.out.2.1 HI.out.2.2.1 HI.out.2.2.2 rfl (by decide) _ _ _ rfl (HRow.out.1.alloc _) ⟨w6.heap.size, 0, none⟩ 1 1 [.int .i64 r4, .int .i64 (r5 - 1), .int .i64 (r6 - 1), .slice yo yn yc] rfl rfl (by rw [← hW]; exact cell_four_new _ _ _ _ _ _) ?c2 (by decide) ?c3 ?c4 ?c5 _ rfl ?_)
        case c2 => intro u hu; simp at hu; rcases hu with rfl | rfl | rfl | rfl <;> rfl
        case c3 => unfold maxLen; omega
        case c4 => omega
        case c5 => first | omega | (simp; omega)
        intro g cap9 w10 hown' hgrow _ _
        have HL := hide (HM.out.push HRow.out.1 HRow.out.2 hown' hgrow)
        clear hown' hgrow HRow HM HI
        go_wp2
        go_roundw
        case rel => exact ⟨k', _, _, _, _, by go_num, by simp; omega, by first | omega | (simp only at hafit; omega), hide ⟨HL.out, by rw [HAct.out]; simp⟩⟩
        case measure => simp [intOf]
      · have n0 : ¬ r = 0 := by omega
        have n1 : ¬ r = 1 := by omega
        have n2 : ¬ r = 2 := by omega
        have n3 : ¬ r = 3 := by omega
        have n4 : ¬ r = 4 := by omega
        rw [act2_5 xs ys r _ h5] at HA2
        obtain rfl := HA2.out
        go_wp2_with (at_builtin; skip; obtain ⟨cs, hrow, hcs⟩ := HM.out.ar.row; have HRow := hide (And.intro hrow hcs); have hwsz : w.heap.size ≤ w3.heap.size := HM.out.gr.size; clear hrow hcs; refine wpList_append_lies _ rfl _ _ 43 rfl w.heap.size 76 i0 (.agg #[.int .i64 0, .int .i64 0, .int .i64 0, .slice none 0 0]) 4 48 Try.underlying43 HI.out.1 HI.out.2.1 HI.out.2.2.1 HI.out.2.2.2 rfl (by decide) _ _ _ rfl (HRow.out.1.alloc _) ⟨w3.heap.size, 0, none⟩ 1 1 [.int .i64 1, .int .i64 0, .int .i64 0, .slice yo yn yc] rfl rfl (cell_four_new _ _ _ _ _ _) ?c2 (by decide) ?c3 ?c4 ?c5 _ rfl ?_)
        case c2 => intro u hu; simp at hu; rcases hu with rfl | rfl | rfl | rfl <;> rfl
        case c3 => unfold maxLen; omega
        case c4 => omega
        case c5 => first | omega | (simp; omega)
        intro g cap9 w10 hown' hgrow _ _
        have HL := hide (HM.out.push HRow.out.1 HRow.out.2 hown' hgrow)
        clear hown' hgrow HRow HM HI
        go_wp2
        go_roundw
        case rel => exact ⟨k', _, _, _, _, by go_num, by simp; omega, by first | omega | (simp only at hafit; omega), hide ⟨HL.out, by rw [HAct.out]; simp⟩⟩
        case measure => simp [intOf]
    · have hk1 : k = 0 := by omega
      subst hk1
      have hfin := HRr.out
      simp only [actsL, List.append_nil] at hfin
      have HF := hide hfin
      clear HRr hfin
      go_wp2
      go_ret
      rw [HF.out.2]
      exact ⟨_, rfl, HF.out.1.ar.rd, HF.out.1.gr⟩
end Go.Proofs.Ytipcdioolafkpaa.diskacts

/- One block of the hash, as the specification mixes it in. -/
import Derived.Test.YtkkildgdeagpeahSBits
import Derived.Test.YtkkildgdeagpeahTimes
import Derived.Deep.RegionLaw
import Derived.Deep.RegionHeld
namespace Go.Proofs.Ytkkildgdeagpeah.sblk
open Go.ChangeShapes Go.WideShapes Go.ChangeAt Go.RowKit
open Go.Proofs.Ytkkildgdeagpeah.bytes Go.Proofs.Ytkkildgdeagpeah.pile Go.Proofs.Ytkkildgdeagpeah.rot Go.Proofs.Ytkkildgdeagpeah.arr Go.Proofs.Ytkkildgdeagpeah.turn Go.Proofs.Ytkkildgdeagpeah.word Go.Proofs.Ytkkildgdeagpeah.round Go.Proofs.Ytkkildgdeagpeah.block Go.Proofs.Ytkkildgdeagpeah.specpr Go.Proofs.Ytkkildgdeagpeah.times Go.Proofs.Ytkkildgdeagpeah.sbits
set_option linter.unusedVariables false

theorem wpList_append_ints8 (w : World) {ops : Array Oper} {rest : List Oper} {o : Oper} {a : Act} {Q : Exit → Act → World → Prop} (hgd : o.guard = none) (s x : Operand)
    (ho : o.op = .call { callee := .builtin .append, args := #[s, x], argTypes := #[77, 77] })
    (base : Nat) (v : Value) (hs : a.eval s = v) (hown : RowI w base v [])
    (b c : Nat) (ys : List Nat) (hy8 : ys.length = 8) (hx : a.eval x = .slice (some ⟨b, 0, none⟩) 8 c) (hn : ∀ i, i < 8 → w.cell? ⟨b, i, none⟩ = some (.int .i64 (ys.getD i 0 : Nat))) (hbase : base ≤ w.heap.size)
    (h : ∀ g cap w', RowI w' base (.slice (some ⟨g, 0, none⟩) 8 cap) ys → w.grownBy w' v.ownBlock → wpList Try.prog ops Q rest (a.put o.dst (.slice (some ⟨g, 0, none⟩) 8 cap)) w') : wpList Try.prog ops Q (o :: rest) a w := by
  obtain ⟨i0, hi, hz0, hz1, hz2⟩ := info_parts info3
  refine wpList_append_lies w hgd s x 77 ho base 3 i0 (.int .i64 0) 1 8 Try.underlying77 hi hz0 hz1 hz2 rfl (by decide) v 0 [] hs hown ⟨b, 0, none⟩ 8 c (vals .i64 ys) hx (by rw [vals_length, hy8]) (fun j u hu => ?_) (fun u hu => ?_) (by decide) (by unfold maxLen; omega) (by omega) hbase _ rfl (fun g cap w' h1 h2 h3 h4 => h g cap w' ?_ h2)
  · have hj : j < ys.length := by
      have := (List.getElem?_eq_some_iff.1 hu).1
      rwa [vals_length] at this
    rw [add_at, Nat.zero_add, hn j (by omega)]
    rw [vals_get hj] at hu
    exact hu
  · unfold vals at hu
    rw [List.mem_map] at hu
    obtain ⟨y, _, rfl⟩ := hu
    rfl
  · unfold RowI
    rw [hy8]
    exact h1

theorem step_append_int (w : World) {ops : Array Oper} {o : Oper} {a : Act} {K : Act → World → Prop} {Q : Exit → Act → World → Prop} {E : Prop} (hgd : o.guard = none) (s x : Operand)
    (ho : o.op = .call { callee := .builtin .append, args := #[s, x], argTypes := #[77, 77] })
    (base : Nat) (v : Value) (xs : List Nat) (hs : a.eval s = v) (hown : RowI w base v xs)
    (ad : Addr) (y : Nat) (hx : a.eval x = .slice (some ad) 1 1) (hnews : w.cell? ad = some (.int .i64 y)) (h63 : xs.length ≤ 1000) (hbase : base ≤ w.heap.size) (H : Nat) (hH : w.heap.size = H)
    (h : ∀ g cap w', RowI w' base (.slice (some ⟨g, 0, none⟩) (xs.length + 1) cap) (xs ++ [y]) → w.grownBy w' v.ownBlock → (v.ownBlock = some g ∨ g = H) → g < w'.heap.size → K (a.put o.dst (.slice (some ⟨g, 0, none⟩) (xs.length + 1) cap)) w') :
    if Region.wanted o (yielded ops a.tmps) = true then Oper.wp Try.prog o a w K Q else E := by
  obtain ⟨i0, hi, hz0, hz1, hz2⟩ := info_parts info3
  refine step_append_lies w hgd s x 77 ho base 3 i0 (.int .i64 0) 1 8 Try.underlying77 hi hz0 hz1 hz2 rfl (by decide) v xs.length (vals .i64 xs) hs hown ad 1 1 [.int .i64 (y : Nat)] hx rfl (fun j u hu => ?_) (by intro u hu; simp at hu; subst hu; rfl) (by decide) (by unfold maxLen; omega) (by omega) hbase H hH (fun g cap w' h1 h2 h3 h4 => h g cap w' ?_ h2 h3 h4)
  · cases j with
    | zero =>
      simp only [List.getElem?_cons_zero, Option.some.injEq] at hu
      subst hu
      rw [show ad.add 0 = ad by unfold Addr.add; cases ad; simp]
      exact hnews
    | succ j => simp at hu
  · unfold RowI
    rw [List.length_append]
    have e : vals .i64 (xs ++ [y]) = vals .i64 xs ++ [.int .i64 (y : Nat)] := by simp [vals]
    rw [e]
    exact h1
theorem sms_len (st nx : List Nat) (j : Nat) : (sms st nx j).length = j := by unfold sms; simp
theorem sms_eq {st : List Nat} (h : st.length = 8) (nx : List Nat) : sms st nx 8 = sm st nx 8 := by
  obtain ⟨a, b, c, d, e, f, g, i, rfl⟩ := list8 h
  exact sms_all a b c d e f g i nx
/-- One round more, its numbers named. -/
structure Rounds (st ws ks : List Nat) (j a b c d e f g h x y : Nat) : Prop where
  out : rN st ws ks (j + 1) = [(h + bg1 e + chN e f g + (x + y) % 4294967296 + (bg0 a + majN a b c)) % 4294967296, a, b, c, (d + (h + bg1 e + chN e f g + (x + y) % 4294967296)) % 4294967296, e, f, g]
structure Next (l m : List Nat) : Prop where
  out : l = m

set_option maxRecDepth 20000 in
set_option maxHeartbeats 16000000 in
theorem sblock_any (w : World) (gh gk b o ch ck cap : Nat) (st bs ks : List Nat) (hst : st.length = 8) (lst : ∀ x ∈ st, x < 4294967296) (hl : bs.length = 64) (hb : ∀ x ∈ bs, x < 256) (hcap : 64 ≤ cap) (hcap2 : cap ≤ maxLen)
    (hk : ks.length = 64) (lk : ∀ x ∈ ks, x < 4294967296) (hgh : gh < w.heap.size) (hgk : gk < w.heap.size) (hlt : b < w.heap.size)
    (hh : ∀ i, i < 8 → w.cell? ⟨gh, i, none⟩ = some (.int .i64 (st.getD i 0 : Nat))) (hks : ∀ i, i < 64 → w.cell? ⟨gk, i, none⟩ = some (.int .i64 (ks.getD i 0 : Nat)))
    (hc : ∀ i, i < 64 → w.cell? ⟨b, o + i, none⟩ = some (.int .u8 (bs.getD i 0 : Nat))) :
    Calls Try.prog 46 #[.slice (some ⟨gh, 0, none⟩) 8 ch, .slice (some ⟨gk, 0, none⟩) 64 ck, .slice (some ⟨b, o, none⟩) 64 cap] w fun e w' => ∃ g c, e = .returned (.slice (some ⟨g, 0, none⟩) 8 c) ∧ RowI w' w.heap.size (.slice (some ⟨g, 0, none⟩) 8 c) (blkN st bs ks) ∧ Below w.heap.size w w' := by
  unfold maxLen at hcap2
  obtain ⟨i0, hi, hz0, hz1, hz2⟩ := info_parts info3
  have HI := hide (And.intro hi (And.intro hz0 (And.intro hz1 hz2)))
  clear hi hz0 hz1 hz2
  have HC := hide hc
  have HH := hide hh
  have HK := hide hks
  clear hc hh hks
  go_enter Try.func46, Try.ntmps46
  go_wp2_with (at_make; refine wpList_make_full _ rfl _ _ 77 rfl w.heap.size 3 i0 (.int .i64 0) 1 Try.underlying77 HI.out.1 HI.out.2.1 HI.out.2.2.1 .i64 .i64 _ _ 64 rfl rfl rfl rfl (by rw [HI.out.2.2.2]; omega) (by unfold maxLen; omega) (Nat.le_refl _) ?_; intro w1 hown1 hgrow1)
  have HS1 : Hid (Arr w1 w.heap.size 3 .i64 (sc bs 0) ∧ Below w.heap.size w w1) := by
    refine hide ⟨?_, (Below.refl _ _).grown hgrow1 (Nat.le_refl _) (fun k hk => by simp at hk)⟩
    rw [made_i64] at hown1
    have h := row_arr (xs := List.replicate 64 0) (by simp) hown1
    exact h
  clear hown1 hgrow1
  go_loopw [8] (fun iv wr => ∃ i : Nat, i ≤ 16 ∧ iv = .int .i64 i ∧ Hid (Arr wr w.heap.size 3 .i64 (sc bs i) ∧ Below w.heap.size w wr)) (fun iv _ => 16 - (intOf iv).toNat)
  case atStart => exact ⟨0, by omega, rfl, HS1⟩
  case round =>
    obtain ⟨j, hj, rfl, HR⟩ := hrel
    clear HS1
    by_cases h16 : j < 16
    · skip
      have hsl := sc_length bs j
      have c0 := (HR.out.2.cell hlt).trans (HC.out (4 * j) (by omega))
      have c1 := (HR.out.2.cell hlt).trans (HC.out (4 * j + 1) (by omega))
      have c2 := (HR.out.2.cell hlt).trans (HC.out (4 * j + 2) (by omega))
      have c3 := (HR.out.2.cell hlt).trans (HC.out (4 * j + 3) (by omega))
      have l0 := getD_lt (by decide) hb (4 * j)
      have l1 := getD_lt (by decide) hb (4 * j + 1)
      have l2 := getD_lt (by decide) hb (4 * j + 2)
      have l3 := getD_lt (by decide) hb (4 * j + 3)
      have HV : Hid (sc bs (j + 1) = (sc bs j).set j (wordN (bs.getD (4 * j) 0) (bs.getD (4 * j + 1) 0) (bs.getD (4 * j + 2) 0) (bs.getD (4 * j + 3) 0))) := by
        unfold Hid
        rw [sc, scVal, if_pos h16]
      have cj := HR.out.1.cell (i := j) (by omega)
      have fj := HR.out.1.frozen j
      generalize bs.getD (4 * j) 0 = x0 at c0 l0 HV
      generalize bs.getD (4 * j + 1) 0 = x1 at c1 l1 HV
      generalize bs.getD (4 * j + 2) 0 = x2 at c2 l2 HV
      generalize bs.getD (4 * j + 3) 0 = x3 at c3 l3 HV
      generalize (sc bs j).getD j 0 = A0 at cj
      have hw := word_i x0 x1 x2 x3 l0 l1 l2 l3
      have hwl := wordN_lt x0 x1 x2 x3 l0 l1 l2 l3
      generalize wordN x0 x1 x2 x3 = V at hw hwl HV
      have hne : ¬ b = w.heap.size := by omega
      have hne2 : ¬ w.heap.size = b := by omega
      go_wp2
      go_region
      have HY : Hid (Arr (wr.setCell ⟨w.heap.size, j, none⟩ (.int .i64 (V : Nat))).drew w.heap.size 3 .i64 (sc bs (j + 1)) ∧ Below w.heap.size w (wr.setCell ⟨w.heap.size, j, none⟩ (.int .i64 (V : Nat))).drew) := by
        refine hide ⟨?_, (HR.out.2.setCell (p := ⟨w.heap.size, j, none⟩) (Nat.le_refl _) _).drew⟩
        rw [HV.out]
        exact HR.out.1.set j _ _ rfl
      generalize (wr.setCell ⟨w.heap.size, j, none⟩ (.int .i64 (V : Nat))).drew = W7 at HY ⊢
      clear HR c0 c1 c2 c3 cj fj hw
      go_wp2
      go_roundw
      case rel => exact ⟨j + 1, by omega, by go_num, HY⟩
      case measure => simp [intOf]; omega
    · obtain rfl : j = 16 := by omega
      have HS2 := HR
      clear HR
      go_wp2
      go_loopw [9] (fun iv wr => ∃ i : Nat, 16 ≤ i ∧ i ≤ 64 ∧ iv = .int .i64 i ∧ Hid (Arr wr w.heap.size 3 .i64 (sc bs i) ∧ Below w.heap.size w wr)) (fun iv _ => 64 - (intOf iv).toNat)
      case atStart => exact ⟨16, by omega, by omega, rfl, HS2⟩
      case round =>
        obtain ⟨j, hj1, hj, rfl, HR⟩ := hrel
        clear HS2
        by_cases h64 : j < 64
        · skip
          obtain ⟨k, rfl⟩ : ∃ k, j = k + 16 := ⟨j - 16, by omega⟩
          have hsl := sc_length bs (k + 16)
          have k16 := HR.out.1.cell (i := k) (by omega)
          have k15 := HR.out.1.cell (i := k + 1) (by omega)
          have k7 := HR.out.1.cell (i := k + 9) (by omega)
          have k2 := HR.out.1.cell (i := k + 14) (by omega)
          have cj := HR.out.1.cell (i := k + 16) (by omega)
          have fj := HR.out.1.frozen (k + 16)
          have HV : Hid (sc bs (k + 16 + 1) = (sc bs (k + 16)).set (k + 16) (((sc bs (k + 16)).getD k 0 + sg0 ((sc bs (k + 16)).getD (k + 1) 0) + (sc bs (k + 16)).getD (k + 9) 0 + sg1 ((sc bs (k + 16)).getD (k + 14) 0)) % 4294967296)) := by
            unfold Hid
            rw [sc, scVal, if_neg (by omega)]
            rfl
          have hm := sc_lt hb (k + 16)
          have l16 := getD_lt (by decide) hm k
          have l15 := getD_lt (by decide) hm (k + 1)
          have l7 := getD_lt (by decide) hm (k + 9)
          have l2 := getD_lt (by decide) hm (k + 14)
          clear hm
          generalize (sc bs (k + 16)).getD k 0 = A16 at k16 HV l16
          generalize (sc bs (k + 16)).getD (k + 1) 0 = A15 at k15 HV l15
          generalize (sc bs (k + 16)).getD (k + 9) 0 = A7 at k7 HV l7
          generalize (sc bs (k + 16)).getD (k + 14) 0 = A2 at k2 HV l2
          generalize (sc bs (k + 16)).getD (k + 16) 0 = A0 at cj
          have HX0 := hide (sg0_i A15 l15)
          have HX1 := hide (sg1_i A2 l2)
          have g0 := sg0_lt l15
          have g1 := sg1_lt l2
          have HQ7 := hide (fun W => turn7 W A15 l15)
          have HQ18 := hide (fun W => turn18 W A15 l15)
          have HQ17 := hide (fun W => turn17 W A2 l2)
          have HQ19 := hide (fun W => turn19 W A2 l2)
          generalize rotr A15 7 = B1 at HX0 HQ7
          generalize rotr A15 18 = B2 at HX0 HQ18
          generalize rotr A2 17 = B3 at HX1 HQ17
          generalize rotr A2 19 = B4 at HX1 HQ19
          generalize sg0 A15 = S0 at HX0 HV g0
          generalize sg1 A2 = S1 at HX1 HV g1
          have hmk : bits .and .i64 ((A16 : Int) + S0 + A7 + S1) 4294967295 = (((A16 + S0 + A7 + S1) % 4294967296 : Nat) : Int) := by
            have h := i64_mask (A16 + S0 + A7 + S1) (by omega)
            rw [show ((A16 + S0 + A7 + S1 : Nat) : Int) = (A16 : Int) + S0 + A7 + S1 by omega] at h
            exact h
          have hVl : (A16 + S0 + A7 + S1) % 4294967296 < 4294967296 := Nat.mod_lt _ (by decide)
          generalize (A16 + S0 + A7 + S1) % 4294967296 = V at HV hmk hVl
          have hx0 := HX0.out
          have hx1 := HX1.out
          go_wp2_with fail
          go_quiet (first | (go_at_call 57; with_reducible (refine Calls.quiet_of_same (HQ7.out _))) | (go_at_call 57; with_reducible (refine Calls.quiet_of_same (HQ18.out _))))
          clear k15
          have HR3 : Hid (Arr (wr.drewN nq) w.heap.size 3 .i64 (sc bs (k + 16)) ∧ Below w.heap.size w (wr.drewN nq)) := hide ⟨HR.out.1, HR.out.2.trans ⟨rfl, rfl, rfl, Nat.le_refl _, fun _ _ => rfl⟩⟩
          replace k16 : (wr.drewN nq).cell? ⟨w.heap.size, k, none⟩ = some (.int .i64 (A16 : Nat)) := k16
          replace k7 : (wr.drewN nq).cell? ⟨w.heap.size, k + 9, none⟩ = some (.int .i64 (A7 : Nat)) := k7
          replace k2 : (wr.drewN nq).cell? ⟨w.heap.size, k + 14, none⟩ = some (.int .i64 (A2 : Nat)) := k2
          replace cj : (wr.drewN nq).cell? ⟨w.heap.size, k + 16, none⟩ = some (.int .i64 (A0 : Nat)) := cj
          replace fj : (wr.drewN nq).frozen? ⟨w.heap.size, k + 16, none⟩ = false := fj
          generalize wr.drewN nq = W3 at HR3 k16 k7 k2 cj fj ⊢
          clear HR hx0 HX0 HQ7 HQ18
          go_wp2_with fail
          go_quiet (first | (go_at_call 57; with_reducible (refine Calls.quiet_of_same (HQ17.out _))) | (go_at_call 57; with_reducible (refine Calls.quiet_of_same (HQ19.out _))))
          have HR4 : Hid (Arr (W3.drewN nq) w.heap.size 3 .i64 (sc bs (k + 16)) ∧ Below w.heap.size w (W3.drewN nq)) := hide ⟨HR3.out.1, HR3.out.2.trans ⟨rfl, rfl, rfl, Nat.le_refl _, fun _ _ => rfl⟩⟩
          replace k16 : (W3.drewN nq).cell? ⟨w.heap.size, k, none⟩ = some (.int .i64 (A16 : Nat)) := k16
          replace k7 : (W3.drewN nq).cell? ⟨w.heap.size, k + 9, none⟩ = some (.int .i64 (A7 : Nat)) := k7
          replace k2 : (W3.drewN nq).cell? ⟨w.heap.size, k + 14, none⟩ = some (.int .i64 (A2 : Nat)) := k2
          replace cj : (W3.drewN nq).cell? ⟨w.heap.size, k + 16, none⟩ = some (.int .i64 (A0 : Nat)) := cj
          replace fj : (W3.drewN nq).frozen? ⟨w.heap.size, k + 16, none⟩ = false := fj
          generalize W3.drewN nq = WQ2 at HR4 k16 k7 k2 cj fj ⊢
          clear HR3 hx1 HX1 HQ17 HQ19 k2
          go_wp2_with fail
          go_region
          have HY : Hid (Arr (WQ2.setCell ⟨w.heap.size, k + 16, none⟩ (.int .i64 (V : Nat))).drew w.heap.size 3 .i64 (sc bs (k + 16 + 1)) ∧ Below w.heap.size w (WQ2.setCell ⟨w.heap.size, k + 16, none⟩ (.int .i64 (V : Nat))).drew) := by
            refine hide ⟨?_, (HR4.out.2.setCell (p := ⟨w.heap.size, k + 16, none⟩) (Nat.le_refl _) _).drew⟩
            rw [HV.out]
            exact HR4.out.1.set (k + 16) _ _ rfl
          generalize (WQ2.setCell ⟨w.heap.size, k + 16, none⟩ (.int .i64 (V : Nat))).drew = W7 at HY ⊢
          clear HR4 k16 k7 cj fj hmk
          go_wp2
          go_roundw
          case rel => exact ⟨k + 16 + 1, by omega, by omega, by go_num, HY⟩
          case measure => simp [intOf]; omega
        · obtain rfl : j = 64 := by omega
          have hws := sc_length bs 64
          have lws := sc_lt hb 64
          have HBl : Next (blkN st bs ks) (sm st (rN st (sc bs 64) ks 64) 8) := ⟨rfl⟩
          generalize sc bs 64 = ws at hws lws HBl HR
          have hszr := HR.out.2.size
          have HO0 : Hid (RowI (wr.alloc (.cells #[] 3)) w.heap.size (.slice (some ⟨wr.heap.size, 0, none⟩) 0 0) []) := hide (World.ownsRow_lit (base := w.heap.size) (e := 3) (size := 1) wr #[] 0 hszr (by simp [maxLen]) (by simp))
          have HHc : Hid (∀ i, i < 8 → (wr.alloc (.cells #[] 3)).cell? ⟨gh, i, none⟩ = some (.int .i64 (st.getD i 0 : Nat))) := hide (fun i hi => ((HR.out.2.alloc hszr _).cell hgh).trans (HH.out i hi))
          have HGo : Hid (∀ g cap w', RowI w' w.heap.size (.slice (some ⟨g, 0, none⟩) 8 cap) st → (wr.alloc (.cells #[] 3)).grownBy w' (Value.slice (some ⟨wr.heap.size, 0, none⟩) 0 0).ownBlock → (∀ i, i < 8 → w'.cell? ⟨g, i, none⟩ = some (.int .i64 ((rN st ws ks 0).getD i 0 : Nat))) ∧ Arr w' w.heap.size 3 .i64 ws ∧ Below w.heap.size w w') := by
            refine hide (fun g cap w' h1 h2 => ?_)
            obtain ⟨_, hcs0⟩ := h1.cells
            obtain ⟨g', hg', hcs⟩ := hcs0 (by omega)
            simp only [Option.some.injEq, Addr.mk.injEq, and_true] at hg'
            subst hg'
            refine ⟨hcs, ?_, (HR.out.2.alloc hszr _).grown h2 (by simp; omega) (fun k hk => by simp [Value.ownBlock] at hk; omega)⟩
            have hne : some w.heap.size ≠ (Value.slice (some ⟨wr.heap.size, 0, none⟩) 0 0).ownBlock := by
              have := HR.out.1.lt
              simp [Value.ownBlock]
              omega
            exact (h2.block w.heap.size (by have := HR.out.1.lt; simp; omega) hne).trans (HR.out.1.alloc _)
          clear HR
          go_wp2_with (at_builtin; refine wpList_append_ints8 _ rfl _ _ rfl w.heap.size _ rfl HO0.out gh ch st hst rfl HHc.out (by simp; omega) ?_; intro g8 c8 w8 hown8 hgrow8; have HS3 := hide (HGo.out g8 c8 w8 hown8 hgrow8); clear hown8 hgrow8)
          clear HGo HO0 HHc
          go_loopw [12, 13] (fun v iv wr => ∃ (j g c : Nat), j ≤ 64 ∧ iv = .int .i64 j ∧ v = .slice (some ⟨g, 0, none⟩) 8 c ∧ Hid ((∀ i, i < 8 → wr.cell? ⟨g, i, none⟩ = some (.int .i64 ((rN st ws ks j).getD i 0 : Nat))) ∧ Arr wr w.heap.size 3 .i64 ws ∧ Below w.heap.size w wr)) (fun _ iv _ => 64 - (intOf iv).toNat)
          case atStart => exact ⟨0, g8, c8, by omega, rfl, rfl, HS3⟩
          case round =>
            obtain ⟨j, g, c8', hj, rfl, rfl, HR⟩ := hrel
            clear HS3
            by_cases h64 : j < 64
            · skip
              have HCl : Hid (∀ i, i < 8 → wr.cell? ⟨g, i, none⟩ = some (.int .i64 ((rN st ws ks j).getD i 0 : Nat))) := hide HR.out.1
              have c0 := HCl.out 0 (by omega)
              have c1 := HCl.out 1 (by omega)
              have c2 := HCl.out 2 (by omega)
              have c3 := HCl.out 3 (by omega)
              have c4 := HCl.out 4 (by omega)
              have c5 := HCl.out 5 (by omega)
              have c6 := HCl.out 6 (by omega)
              have c7 := HCl.out 7 (by omega)
              have cW := HR.out.2.1.cell (i := j) (by omega)
              have cK := (HR.out.2.2.cell hgk).trans (HK.out j h64)
              have hm := rN_lt (ws := ws) (ks := ks) lst j
              have v0 := getD_lt (by decide) hm 0
              have v1 := getD_lt (by decide) hm 1
              have v2 := getD_lt (by decide) hm 2
              have v3 := getD_lt (by decide) hm 3
              have v4 := getD_lt (by decide) hm 4
              have v5 := getD_lt (by decide) hm 5
              have v6 := getD_lt (by decide) hm 6
              have v7 := getD_lt (by decide) hm 7
              have vW := getD_lt (by decide) lws j
              have vK := getD_lt (by decide) lk j
              have HN : Rounds st ws ks j ((rN st ws ks j).getD 0 0) ((rN st ws ks j).getD 1 0) ((rN st ws ks j).getD 2 0) ((rN st ws ks j).getD 3 0) ((rN st ws ks j).getD 4 0) ((rN st ws ks j).getD 5 0) ((rN st ws ks j).getD 6 0) ((rN st ws ks j).getD 7 0) (ws.getD j 0) (ks.getD j 0) := ⟨rfl⟩
              have HAw : Hid (Arr wr w.heap.size 3 .i64 ws ∧ Below w.heap.size w wr) := hide HR.out.2
              clear hm HCl HR
              generalize (rN st ws ks j).getD 0 0 = a at c0 v0 HN
              generalize (rN st ws ks j).getD 1 0 = b1 at c1 v1 HN
              generalize (rN st ws ks j).getD 2 0 = c at c2 v2 HN
              generalize (rN st ws ks j).getD 3 0 = d at c3 v3 HN
              generalize (rN st ws ks j).getD 4 0 = e at c4 v4 HN
              generalize (rN st ws ks j).getD 5 0 = f at c5 v5 HN
              generalize (rN st ws ks j).getD 6 0 = g6 at c6 v6 HN
              generalize (rN st ws ks j).getD 7 0 = h7 at c7 v7 HN
              generalize ws.getD j 0 = X at cW vW HN
              generalize ks.getD j 0 = Y at cK vK HN
              have HXb1 := hide (bg1_i e v4)
              have HXb0 := hide (bg0_i a v0)
              have hch := ch_i e f g6 v4 v5 v6
              have hmj := maj_i a b1 c v0 v1 v2
              have q1 := bg1_lt v4
              have q0 := bg0_lt v0
              have qc := ch_lt v4 v5 v6
              have qm := maj_lt v0 v1 v2
              have HQ6 := hide (fun W => turn6 W e v4)
              have HQ11 := hide (fun W => turn11 W e v4)
              have HQ25 := hide (fun W => turn25 W e v4)
              have HQ2 := hide (fun W => turn2 W a v0)
              have HQ13 := hide (fun W => turn13 W a v0)
              have HQ22 := hide (fun W => turn22 W a v0)
              have HE := HN.out
              clear HN
              generalize rotr e 6 = B1 at HXb1 HQ6
              generalize rotr e 11 = B2 at HXb1 HQ11
              generalize rotr e 25 = B3 at HXb1 HQ25
              generalize rotr a 2 = B4 at HXb0 HQ2
              generalize rotr a 13 = B5 at HXb0 HQ13
              generalize rotr a 22 = B6 at HXb0 HQ22
              generalize bg1 e = S1 at HXb1 q1 HE
              generalize bg0 a = S0 at HXb0 q0 HE
              generalize chN e f g6 = C at hch qc HE
              generalize majN a b1 c = M at hmj qm HE
              have hmk1 : bits .and .i64 ((h7 : Int) + S1 + C + Y + X + (S0 + M)) 4294967295 = (((h7 + S1 + C + Y + X + (S0 + M)) % 4294967296 : Nat) : Int) := by
                have h := i64_mask (h7 + S1 + C + Y + X + (S0 + M)) (by omega)
                rw [show ((h7 + S1 + C + Y + X + (S0 + M) : Nat) : Int) = (h7 : Int) + S1 + C + Y + X + (S0 + M) by omega] at h
                exact h
              have hmk2 : bits .and .i64 ((d : Int) + (h7 + S1 + C + Y + X)) 4294967295 = (((d + (h7 + S1 + C + Y + X)) % 4294967296 : Nat) : Int) := by
                have h := i64_mask (d + (h7 + S1 + C + Y + X)) (by omega)
                rw [show ((d + (h7 + S1 + C + Y + X) : Nat) : Int) = (d : Int) + (h7 + S1 + C + Y + X) by omega] at h
                exact h
              rw [← rnd_mod h7 S1 C X Y (S0 + M), ← rnd_mod2 d h7 S1 C X Y] at HE
              generalize (h7 + S1 + C + Y + X + (S0 + M)) % 4294967296 = V1 at hmk1 HE
              generalize (d + (h7 + S1 + C + Y + X)) % 4294967296 = V2 at hmk2 HE
              have HNx : Next (rN st ws ks (j + 1)) [V1, a, b1, c, V2, e, f, g6] := ⟨HE⟩
              clear HE
              have hxb1 := HXb1.out
              have hxb0 := HXb0.out
              go_wp2_with fail
              with_reducible (refine (HQ6.out _).mono ?_)
              rintro e' w' ⟨rfl, hw9⟩
              replace hw9 := hw9.symm
              subst hw9
              go_wp2_with fail
              with_reducible (refine (HQ11.out _).mono ?_)
              rintro e' w' ⟨rfl, hw9⟩
              replace hw9 := hw9.symm
              subst hw9
              go_wp2_with fail
              with_reducible (refine (HQ25.out _).mono ?_)
              rintro e' w' ⟨rfl, hw9⟩
              replace hw9 := hw9.symm
              subst hw9
              go_wp2_with fail
              clear HXb1 HQ6 HQ11 HQ25
              go_quiet (fail)
              replace c0 : (wr.drewN nq).cell? ⟨g, 0, none⟩ = some (.int .i64 (a : Nat)) := c0
              replace c1 : (wr.drewN nq).cell? ⟨g, 1, none⟩ = some (.int .i64 (b1 : Nat)) := c1
              replace c2 : (wr.drewN nq).cell? ⟨g, 2, none⟩ = some (.int .i64 (c : Nat)) := c2
              replace c3 : (wr.drewN nq).cell? ⟨g, 3, none⟩ = some (.int .i64 (d : Nat)) := c3
              replace c4 : (wr.drewN nq).cell? ⟨g, 4, none⟩ = some (.int .i64 (e : Nat)) := c4
              replace c5 : (wr.drewN nq).cell? ⟨g, 5, none⟩ = some (.int .i64 (f : Nat)) := c5
              replace c6 : (wr.drewN nq).cell? ⟨g, 6, none⟩ = some (.int .i64 (g6 : Nat)) := c6
              replace c7 : (wr.drewN nq).cell? ⟨g, 7, none⟩ = some (.int .i64 (h7 : Nat)) := c7
              replace cW : (wr.drewN nq).cell? ⟨w.heap.size, j, none⟩ = some (.int .i64 (X : Nat)) := cW
              replace cK : (wr.drewN nq).cell? ⟨gk, j, none⟩ = some (.int .i64 (Y : Nat)) := cK
              replace HAw : Hid (Arr (wr.drewN nq) w.heap.size 3 .i64 ws ∧ Below w.heap.size w (wr.drewN nq)) := hide ⟨HAw.out.1, HAw.out.2.trans ⟨rfl, rfl, rfl, Nat.le_refl _, fun _ _ => rfl⟩⟩
              generalize wr.drewN nq = W1 at HAw c0 c1 c2 c3 c4 c5 c6 c7 cW cK ⊢
              clear hch hxb1
              go_wp2_with fail
              go_quiet (fail)
              replace c0 : (W1.drewN nq).cell? ⟨g, 0, none⟩ = some (.int .i64 (a : Nat)) := c0
              replace c1 : (W1.drewN nq).cell? ⟨g, 1, none⟩ = some (.int .i64 (b1 : Nat)) := c1
              replace c2 : (W1.drewN nq).cell? ⟨g, 2, none⟩ = some (.int .i64 (c : Nat)) := c2
              replace c3 : (W1.drewN nq).cell? ⟨g, 3, none⟩ = some (.int .i64 (d : Nat)) := c3
              replace c4 : (W1.drewN nq).cell? ⟨g, 4, none⟩ = some (.int .i64 (e : Nat)) := c4
              replace c5 : (W1.drewN nq).cell? ⟨g, 5, none⟩ = some (.int .i64 (f : Nat)) := c5
              replace c6 : (W1.drewN nq).cell? ⟨g, 6, none⟩ = some (.int .i64 (g6 : Nat)) := c6
              replace HAw : Hid (Arr (W1.drewN nq) w.heap.size 3 .i64 ws ∧ Below w.heap.size w (W1.drewN nq)) := hide ⟨HAw.out.1, HAw.out.2.trans ⟨rfl, rfl, rfl, Nat.le_refl _, fun _ _ => rfl⟩⟩
              generalize W1.drewN nq = W2 at HAw c0 c1 c2 c3 c4 c5 c6 ⊢
              clear c7 cW cK
              go_wp2_with fail
              go_quiet (first | (go_at_call 57; with_reducible (refine Calls.quiet_of_same (HQ2.out _))) | (go_at_call 57; with_reducible (refine Calls.quiet_of_same (HQ13.out _))) | (go_at_call 57; with_reducible (refine Calls.quiet_of_same (HQ22.out _))))
              replace c0 : (W2.drewN nq).cell? ⟨g, 0, none⟩ = some (.int .i64 (a : Nat)) := c0
              replace c1 : (W2.drewN nq).cell? ⟨g, 1, none⟩ = some (.int .i64 (b1 : Nat)) := c1
              replace c2 : (W2.drewN nq).cell? ⟨g, 2, none⟩ = some (.int .i64 (c : Nat)) := c2
              replace c3 : (W2.drewN nq).cell? ⟨g, 3, none⟩ = some (.int .i64 (d : Nat)) := c3
              replace c4 : (W2.drewN nq).cell? ⟨g, 4, none⟩ = some (.int .i64 (e : Nat)) := c4
              replace c5 : (W2.drewN nq).cell? ⟨g, 5, none⟩ = some (.int .i64 (f : Nat)) := c5
              replace c6 : (W2.drewN nq).cell? ⟨g, 6, none⟩ = some (.int .i64 (g6 : Nat)) := c6
              replace HAw : Hid (Arr (W2.drewN nq) w.heap.size 3 .i64 ws ∧ Below w.heap.size w (W2.drewN nq)) := hide ⟨HAw.out.1, HAw.out.2.trans ⟨rfl, rfl, rfl, Nat.le_refl _, fun _ _ => rfl⟩⟩
              generalize W2.drewN nq = W3 at HAw c0 c1 c2 c3 c4 c5 c6 ⊢
              clear hxb0 HXb0 HQ2 HQ13 HQ22
              go_wp2_with fail
              go_quiet (fail)
              replace c0 : (W3.drewN nq).cell? ⟨g, 0, none⟩ = some (.int .i64 (a : Nat)) := c0
              replace c1 : (W3.drewN nq).cell? ⟨g, 1, none⟩ = some (.int .i64 (b1 : Nat)) := c1
              replace c2 : (W3.drewN nq).cell? ⟨g, 2, none⟩ = some (.int .i64 (c : Nat)) := c2
              replace c3 : (W3.drewN nq).cell? ⟨g, 3, none⟩ = some (.int .i64 (d : Nat)) := c3
              replace c4 : (W3.drewN nq).cell? ⟨g, 4, none⟩ = some (.int .i64 (e : Nat)) := c4
              replace c5 : (W3.drewN nq).cell? ⟨g, 5, none⟩ = some (.int .i64 (f : Nat)) := c5
              replace c6 : (W3.drewN nq).cell? ⟨g, 6, none⟩ = some (.int .i64 (g6 : Nat)) := c6
              replace HAw : Hid (Arr (W3.drewN nq) w.heap.size 3 .i64 ws ∧ Below w.heap.size w (W3.drewN nq)) := hide ⟨HAw.out.1, HAw.out.2.trans ⟨rfl, rfl, rfl, Nat.le_refl _, fun _ _ => rfl⟩⟩
              generalize W3.drewN nq = W4 at HAw c0 c1 c2 c3 c4 c5 c6 ⊢
              clear hmj
              go_wp2_with fail
              have hS0 : W4.drew.cell? ⟨g, 0, none⟩ = some (.int .i64 (a : Nat)) ∧ W4.drew.cell? ⟨g, 1, none⟩ = some (.int .i64 (b1 : Nat)) ∧ W4.drew.cell? ⟨g, 2, none⟩ = some (.int .i64 (c : Nat)) ∧ W4.drew.cell? ⟨g, 3, none⟩ = some (.int .i64 (d : Nat)) ∧ W4.drew.cell? ⟨g, 4, none⟩ = some (.int .i64 (e : Nat)) ∧ W4.drew.cell? ⟨g, 5, none⟩ = some (.int .i64 (f : Nat)) ∧ W4.drew.cell? ⟨g, 6, none⟩ = some (.int .i64 (g6 : Nat)) := ⟨c0, c1, c2, c3, c4, c5, c6⟩
              go_region_held (fun W => W.cell? ⟨g, 0, none⟩ = some (.int .i64 (a : Nat)) ∧ W.cell? ⟨g, 1, none⟩ = some (.int .i64 (b1 : Nat)) ∧ W.cell? ⟨g, 2, none⟩ = some (.int .i64 (c : Nat)) ∧ W.cell? ⟨g, 3, none⟩ = some (.int .i64 (d : Nat)) ∧ W.cell? ⟨g, 4, none⟩ = some (.int .i64 (e : Nat)) ∧ W.cell? ⟨g, 5, none⟩ = some (.int .i64 (f : Nat)) ∧ W.cell? ⟨g, 6, none⟩ = some (.int .i64 (g6 : Nat))) (first | exact hS0 | go_keep) (fail)
              have hwr1 : IntKind.i64.wrap ((h7 : Int) + S1 + C + Y + X + (S0 + M)) = (h7 : Int) + S1 + C + Y + X + (S0 + M) := by rw [IntKind.wrap_i64]; omega
              have hwr2 : IntKind.i64.wrap ((d : Int) + (h7 + S1 + C + Y + X)) = (d : Int) + (h7 + S1 + C + Y + X) := by rw [IntKind.wrap_i64]; omega
              rw [hwr1, hwr2, hmk1, hmk2]
              have HY : Hid ((∀ i, i < 8 → (W4.alloc (.cells #[.int .i64 (V1 : Nat), .int .i64 (a : Nat), .int .i64 (b1 : Nat), .int .i64 (c : Nat), .int .i64 (V2 : Nat), .int .i64 (e : Nat), .int .i64 (f : Nat), .int .i64 (g6 : Nat)] 3)).drew.cell? ⟨W4.heap.size, i, none⟩ = some (.int .i64 ((rN st ws ks (j + 1)).getD i 0 : Nat))) ∧ Arr (W4.alloc (.cells #[.int .i64 (V1 : Nat), .int .i64 (a : Nat), .int .i64 (b1 : Nat), .int .i64 (c : Nat), .int .i64 (V2 : Nat), .int .i64 (e : Nat), .int .i64 (f : Nat), .int .i64 (g6 : Nat)] 3)).drew w.heap.size 3 .i64 ws ∧ Below w.heap.size w (W4.alloc (.cells #[.int .i64 (V1 : Nat), .int .i64 (a : Nat), .int .i64 (b1 : Nat), .int .i64 (c : Nat), .int .i64 (V2 : Nat), .int .i64 (e : Nat), .int .i64 (f : Nat), .int .i64 (g6 : Nat)] 3)).drew) := by
                refine hide ⟨fun i hi => ?_, HAw.out.1.alloc _, (HAw.out.2.alloc HAw.out.2.size _).drew⟩
                rw [HNx.out]
                exact (Arr.new W4 3 .i64 [V1, a, b1, c, V2, e, f, g6] _ rfl).cell (i := i) hi
              clear hS0 c0 c1 c2 c3 c4 c5 c6 hmk1 hmk2 hwr1 hwr2 HNx HAw
              generalize (W4.alloc (.cells #[.int .i64 (V1 : Nat), .int .i64 (a : Nat), .int .i64 (b1 : Nat), .int .i64 (c : Nat), .int .i64 (V2 : Nat), .int .i64 (e : Nat), .int .i64 (f : Nat), .int .i64 (g6 : Nat)] 3)).drew = W5 at HY ⊢
              generalize W4.heap.size = G4 at HY ⊢
              go_wp2
              go_roundw
              case rel => exact ⟨j + 1, G4, 8, by omega, by go_num, rfl, HY⟩
              case measure => simp [intOf]; omega
            · obtain rfl : j = 64 := by omega
              have e64 : ((64 : Nat) : Int) = 64 := rfl
              rw [e64]
              clear e64
              have hm := rN_lt (ws := ws) (ks := ks) lst 64
              generalize rN st ws ks 64 = nx at HR HBl hm
              have hszr := HR.out.2.2.size
              have hgl : g < wr.heap.size := cell_lt (HR.out.1 0 (by omega))
              have HS4 : Hid (RowI (wr.alloc (.cells #[] 3)) w.heap.size (.slice (some ⟨wr.heap.size, 0, none⟩) 0 0) (sms st nx 0) ∧ (∀ i, i < 8 → (wr.alloc (.cells #[] 3)).cell? ⟨g, i, none⟩ = some (.int .i64 (nx.getD i 0 : Nat))) ∧ Below w.heap.size w (wr.alloc (.cells #[] 3)) ∧ g < (wr.alloc (.cells #[] 3)).heap.size ∧ g ≠ wr.heap.size) := by
                refine hide ⟨World.ownsRow_lit (base := w.heap.size) (e := 3) (size := 1) wr #[] 0 hszr (by simp [maxLen]) (by simp), fun i hi => ?_, HR.out.2.2.alloc hszr _, by simp; omega, by omega⟩
                exact (World.cell?_of_block (Below.heap_alloc wr _ g hgl)).trans (HR.out.1 i hi)
              clear HR hgl
              go_wp2
              go_loopw [21, 22] (fun ov iv wx => ∃ (j go co : Nat), j ≤ 8 ∧ iv = .int .i64 j ∧ ov = .slice (some ⟨go, 0, none⟩) j co ∧ Hid (RowI wx w.heap.size (.slice (some ⟨go, 0, none⟩) j co) (sms st nx j) ∧ (∀ i, i < 8 → wx.cell? ⟨g, i, none⟩ = some (.int .i64 (nx.getD i 0 : Nat))) ∧ Below w.heap.size w wx ∧ g < wx.heap.size ∧ g ≠ go)) (fun _ iv _ => 8 - (intOf iv).toNat)
              case atStart => exact ⟨0, _, 0, by omega, rfl, rfl, HS4⟩
              case round =>
                clear HS4 hszr
                obtain ⟨j, go, co, hj, rfl, rfl, HX⟩ := hrel
                by_cases h8 : j < 8
                · have cA := (HX.out.2.2.1.cell hgh).trans (HH.out j h8)
                  have cB := HX.out.2.1 j h8
                  have vA := getD_lt (by decide) lst j
                  have vB := getD_lt (by decide) hm j
                  have HT : Next (sms st nx (j + 1)) (sms st nx j ++ [(st.getD j 0 + nx.getD j 0) % 4294967296]) := ⟨sms_succ st nx j⟩
                  generalize st.getD j 0 = A at cA vA HT
                  generalize nx.getD j 0 = B at cB vB HT
                  have hmk : bits .and .i64 ((A : Int) + B) 4294967295 = (((A + B) % 4294967296 : Nat) : Int) := by
                    have h := i64_mask (A + B) (by omega)
                    rw [show ((A + B : Nat) : Int) = (A : Int) + B by omega] at h
                    exact h
                  have hwr : IntKind.i64.wrap ((A : Int) + B) = (A : Int) + B := by rw [IntKind.wrap_i64]; omega
                  generalize (A + B) % 4294967296 = V at hmk HT
                  have hszx := HX.out.2.2.1.size
                  have HRo : Hid (RowI (wr.alloc (.cells #[.int .i64 (V : Nat)] 3)) w.heap.size (.slice (some ⟨go, 0, none⟩) j co) (sms st nx j)) := hide (World.ownsRow.alloc HX.out.1 _)
                  have HCell : Hid ((wr.alloc (.cells #[.int .i64 (V : Nat)] 3)).cell? ⟨wr.heap.size, 0, none⟩ = some (.int .i64 (V : Nat))) := hide ((Arr.new wr 3 .i64 [V] #[.int .i64 (V : Nat)] rfl).cell (i := 0) (by simp))
                  have HLs : Hid ((sms st nx j).length = j) := hide (sms_len st nx j)
                  have HGo : Hid (∀ g9 cap9 w9, RowI w9 w.heap.size (.slice (some ⟨g9, 0, none⟩) ((sms st nx j).length + 1) cap9) (sms st nx j ++ [V]) → (wr.alloc (.cells #[.int .i64 (V : Nat)] 3)).grownBy w9 (Value.slice (some ⟨go, 0, none⟩) j co).ownBlock → ((Value.slice (some ⟨go, 0, none⟩) j co).ownBlock = some g9 ∨ g9 = wr.heap.size + 1) → RowI w9 w.heap.size (.slice (some ⟨g9, 0, none⟩) (j + 1) cap9) (sms st nx (j + 1)) ∧ (∀ i, i < 8 → w9.cell? ⟨g, i, none⟩ = some (.int .i64 (nx.getD i 0 : Nat))) ∧ Below w.heap.size w w9 ∧ g < w9.heap.size ∧ g ≠ g9) := by
                    refine hide (fun g9 cap9 w9 h1 h2 h3 => ?_)
                    rw [HLs.out] at h1
                    have hgl := HX.out.2.2.2.1
                    have hgn := HX.out.2.2.2.2
                    have hb : w9.heap[g]? = wr.heap[g]? := (h2.block g (by simp; omega) (by simp [Value.ownBlock]; exact hgn)).trans (Below.heap_alloc wr _ g hgl)
                    refine ⟨by rw [HT.out]; exact h1, fun i hi => (World.cell?_of_block hb).trans (HX.out.2.1 i hi), (HX.out.2.2.1.alloc hszx _).grown h2 (by simp; omega) (fun k hk => (World.ownsRow.lt HX.out.1 k hk).1), ?_, ?_⟩
                    · have := h2.size
                      simp at this
                      omega
                    · intro e
                      subst e
                      rcases h3 with h | h
                      · simp [Value.ownBlock] at h
                        exact hgn h.symm
                      · omega
                  clear HX
                  go_wp2
                  go_region_law (first | (refine step_append_int _ rfl _ _ rfl w.heap.size (.slice (some ⟨go, 0, none⟩) j co) (sms st nx j) rfl (by exact HRo.out) ⟨wr.heap.size, 0, none⟩ V rfl (by exact HCell.out) (by rw [HLs.out]; omega) (by simp; omega) (wr.heap.size + 1) (by simp) ?_; intro g9 cap9 w9 hown9 hgrow9 hat9 hlt9; have HX9 := hide (HGo.out g9 cap9 w9 hown9 ⟨hgrow9.os, hgrow9.tape, hgrow9.output, hgrow9.size, hgrow9.block⟩ hat9); clear hown9 hgrow9 hat9))
                  all_goals
                    rw [HLs.out]
                    clear HRo HCell HGo cA cB hmk hwr
                    go_wp2
                    go_roundw
                    case rel => exact ⟨j + 1, g9, cap9, by omega, by go_num, rfl, HX9⟩
                    case measure => simp [intOf]; omega
                · obtain rfl : j = 8 := by omega
                  go_wp2
                  go_ret
                  refine ⟨go, co, rfl, ?_, HX.out.2.2.1⟩
                  rw [HBl.out, ← sms_eq hst nx]
                  exact HX.out.1
end Go.Proofs.Ytkkildgdeagpeah.sblk

/- The specification's ParseSed at the script that turns lines round. -/
import Derived.Test.YtdhachmelgdknaaGreatDoorMH
import Derived.Test.YtdhachmelgdknaaGreatDoorSnG
import Derived.Test.YtdhachmelgdknaaGreatDoorSnH
import Derived.Test.YtdhachmelgdknaaGreatDoorSnD
import Derived.Test.YtdhachmelgdknaaGreatDoorMG
/- The specification's reader at the script that turns lines round: its commands. -/
namespace Go.Proofs.YtdhachmelgdknaaGreatDoor.spa
open Go.ChangeShapes Go.WideShapes Go.ChangeAt Go.RowKit
open Go.Proofs.YtdhachmelgdknaaGreatDoor.bas Go.Proofs.YtdhachmelgdknaaGreatDoor.rdr
set_option linter.unusedVariables false
theorem NamE.lift {base : Nat} {w W w' : World} {d : Nat} {q : PQ} {n : Nat} {xs : List Value} (h : NamE base W d q n xs w') (g : w.grownBy W (some d)) : NamE base w d q n xs w' := by
  obtain ⟨gb, cap, o, r, t⟩ := h
  exact ⟨gb, cap, o, r, ⟨t.os.trans g.os, t.tape.trans g.tape, t.output.trans g.output, Nat.le_trans g.size t.size, fun k hk hkd hn => (t.block k (Nat.lt_of_lt_of_le hk g.size) hkd hn).trans (g.block k hk (by simpa using hkd))⟩⟩
theorem cmd0 (base : Nat) {d : Nat} {out : Value} {w : World} (h : PB w d ⟨tA, 0, false, out⟩) (n : Nat) (hn : n < 60) (ys : List Value) (ho : w.ownsRow base 60 26 out n ys) (hb : base ≤ w.heap.size) :
    Calls Tryz.prog 23 #[.pointer (some ⟨d, 0, none⟩)] w fun e w' => e = .returned (.tuple #[]) ∧ NamE base w d ⟨tA, 4, false, out⟩ n (ys ++ cmG.cells.toList) w' := by
  obtain ⟨lo, lc, hout⟩ : ∃ lo lc, out = .slice lo n lc := by
    obtain ⟨h1, ⟨e, hx⟩ | ⟨g, cap, cur, e, _⟩⟩ := ho
    · exact ⟨none, 0, by rw [e, hx]⟩
    · exact ⟨_, _, e⟩
  refine command_any h (by decide) 1 1 1 true 2 71 ⟨#[71]⟩ (fun W hW => ?_) ⟨by decide, by decide +kernel, by decide, by decide +kernel, ?_⟩ (.inr ⟨by decide, rfl⟩) lo n lc hout hn _ ?_
  · exact addr_one (q := ⟨tA, 0, false, out⟩) hW (by (try dsimp only); decide) (by (try dsimp only); decide) (by (try dsimp only); decide) (by rfl) 33 (.inl ⟨by (try dsimp only); decide, by rfl⟩) (by (try dsimp only); decide)
  · exact ⟨rfl, .inl ⟨by decide, by decide +kernel⟩⟩
  · intro W hW gW
    have hoW : W.ownsRow base 60 26 out n ys := ho.kept gW (.inr (fun e => p_own_ne h ho e.symm))
    refine (named_G base hW n ys hoW (Nat.le_trans hb gW.size) (by omega) 1 1 true ⟨#[71]⟩ 2 4 (fun W2 v h2 => ?_)).mono ?_
    · exact ended_semi (q := ⟨tA, 3, false, v⟩) (Pv.refl h2) (by (try dsimp only); decide) (by (try dsimp only); decide) (by rfl)
    · rintro e w' ⟨rfl, hN⟩
      exact ⟨rfl, hN.lift gW⟩
theorem cmd1 (base : Nat) {d : Nat} {out : Value} {w : World} (h : PB w d ⟨tA, 4, false, out⟩) (n : Nat) (hn : n < 60) (ys : List Value) (ho : w.ownsRow base 60 26 out n ys) (hb : base ≤ w.heap.size) :
    Calls Tryz.prog 23 #[.pointer (some ⟨d, 0, none⟩)] w fun e w' => e = .returned (.tuple #[]) ∧ NamE base w d ⟨tA, 6, false, out⟩ n (ys ++ cmH.cells.toList) w' := by
  obtain ⟨lo, lc, hout⟩ : ∃ lo lc, out = .slice lo n lc := by
    obtain ⟨h1, ⟨e, hx⟩ | ⟨g, cap, cur, e, _⟩⟩ := ho
    · exact ⟨none, 0, by rw [e, hx]⟩
    · exact ⟨_, _, e⟩
  refine command_any h (by decide) 0 0 4 false 4 104 ⟨#[104]⟩ (fun W hW => ?_) ⟨by decide, by decide +kernel, by decide, by decide +kernel, ?_⟩ (.inl ⟨rfl, rfl⟩) lo n lc hout hn _ ?_
  · exact addr_none (q := ⟨tA, 4, false, out⟩) hW (by (try dsimp only); decide) (by (try dsimp only); decide) 104 (.inl ⟨by (try dsimp only); decide, by rfl⟩) (by (try dsimp only); decide) (by (try dsimp only); decide) (by (try dsimp only); decide)
  · exact ⟨rfl, by decide, by decide⟩
  · intro W hW gW
    have hoW : W.ownsRow base 60 26 out n ys := ho.kept gW (.inr (fun e => p_own_ne h ho e.symm))
    refine (named_h base hW n ys hoW (Nat.le_trans hb gW.size) (by omega) 0 0 false ⟨#[104]⟩ 4 6 (fun W2 v h2 => ?_)).mono ?_
    · exact ended_semi (q := ⟨tA, 5, false, v⟩) (Pv.refl h2) (by (try dsimp only); decide) (by (try dsimp only); decide) (by rfl)
    · rintro e w' ⟨rfl, hN⟩
      exact ⟨rfl, hN.lift gW⟩
theorem cmd2 (base : Nat) {d : Nat} {out : Value} {w : World} (h : PB w d ⟨tA, 6, false, out⟩) (n : Nat) (hn : n < 60) (ys : List Value) (ho : w.ownsRow base 60 26 out n ys) (hb : base ≤ w.heap.size) :
    Calls Tryz.prog 23 #[.pointer (some ⟨d, 0, none⟩)] w fun e w' => e = .returned (.tuple #[]) ∧ NamE base w d ⟨tA, 9, false, out⟩ n (ys ++ cmD.cells.toList) w' := by
  obtain ⟨lo, lc, hout⟩ : ∃ lo lc, out = .slice lo n lc := by
    obtain ⟨h1, ⟨e, hx⟩ | ⟨g, cap, cur, e, _⟩⟩ := ho
    · exact ⟨none, 0, by rw [e, hx]⟩
    · exact ⟨_, _, e⟩
  refine command_any h (by decide) 2 0 7 true 8 100 ⟨#[100]⟩ (fun W hW => ?_) ⟨by decide, by decide +kernel, by decide, by decide +kernel, ?_⟩ (.inr ⟨by decide, rfl⟩) lo n lc hout hn _ ?_
  · exact addr_last (q := ⟨tA, 6, false, out⟩) hW (by (try dsimp only); decide) (by (try dsimp only); decide) (.inl ⟨by (try dsimp only); decide, by rfl⟩)
  · exact ⟨rfl, .inl ⟨by decide, by decide +kernel⟩⟩
  · intro W hW gW
    have hoW : W.ownsRow base 60 26 out n ys := ho.kept gW (.inr (fun e => p_own_ne h ho e.symm))
    refine (named_d base hW n ys hoW (Nat.le_trans hb gW.size) (by omega) 2 0 true ⟨#[100]⟩ 8 9 (fun W2 v h2 => ?_)).mono ?_
    · exact ended_end (q := ⟨tA, 9, false, v⟩) (Pv.refl h2) (by (try dsimp only); decide) (by (try dsimp only); decide)
    · rintro e w' ⟨rfl, hN⟩
      exact ⟨rfl, hN.lift gW⟩
end Go.Proofs.YtdhachmelgdknaaGreatDoor.spa
namespace Go.Proofs.YtdhachmelgdknaaGreatDoor.spa
open Go.ChangeShapes Go.WideShapes Go.ChangeAt Go.RowKit
open Go.Proofs.YtdhachmelgdknaaGreatDoor.bas Go.Proofs.YtdhachmelgdknaaGreatDoor.rdr
set_option linter.unusedVariables false
def cms : List Cm := [cmG, cmH, cmD]
def plc (i : Nat) : Nat := if i = 0 then 0 else if i = 1 then 4 else if i = 2 then 6 else 9
/-- Behind i commands. -/
structure Ps (base : Nat) (w0 : World) (d : Nat) (i : Nat) (wr : World) : Prop where
  ex : ∃ out, PB wr d ⟨tA, plc i, false, out⟩ ∧ wr.ownsRow base 60 26 out i ((cms.take i).flatMap fun c => c.cells.toList)
  bel : Below base w0 wr
  bd : base ≤ d
  bz : base ≤ wr.heap.size
theorem Ps.drew {base : Nat} {w0 : World} {d i : Nat} {wr : World} (h : Ps base w0 d i wr) (n : Nat) : Ps base w0 d i (wr.drewN n) := by
  obtain ⟨out, r, o⟩ := h.ex
  exact ⟨⟨out, r, o⟩, below_drewN h.bel n, h.bd, h.bz⟩
theorem Ps.next {base : Nat} {w0 : World} {d i : Nat} {wr : World} (h : Ps base w0 d i wr) (c : Nat) (hc : ByteAt tA (plc i) c) :
    Calls Tryz.prog 21 #[.pointer (some ⟨d, 0, none⟩)] wr fun e w' => e = .returned (.int .u8 (c : Nat)) ∧ Ps base w0 d i w' := by
  obtain ⟨out, r, o⟩ := h.ex
  refine (next_any r (by show tA.size ≤ 100000; decide) c hc).mono ?_
  rintro e w' ⟨rfl, n, rfl⟩
  exact ⟨rfl, h.drew n⟩
set_option maxHeartbeats 1600000 in
theorem Ps.cmd {base : Nat} {w0 : World} {d i : Nat} {wr : World} (h : Ps base w0 d i wr) (hi : i < 3) :
    Calls Tryz.prog 23 #[.pointer (some ⟨d, 0, none⟩)] wr fun e w' => e = .returned (.tuple #[]) ∧ Ps base w0 d (i + 1) w' := by
  obtain ⟨out, r, o⟩ := h.ex
  have key : ∀ (cm : Cm) (w' : World), cms[i]? = some cm → NamE base wr d ⟨tA, plc (i + 1), false, out⟩ i (((cms.take i).flatMap fun c => c.cells.toList) ++ cm.cells.toList) w' → Ps base w0 d (i + 1) w' := by
    rintro cm w' hcm ⟨g, cap, o2, r2, t2⟩
    have e : (cms.take (i + 1)).flatMap (fun c => c.cells.toList) = ((cms.take i).flatMap fun c => c.cells.toList) ++ cm.cells.toList := by
      rw [List.take_add_one, hcm, List.flatMap_append]
      simp only [Option.toList, List.flatMap_cons, List.flatMap_nil, List.append_nil]
    refine ⟨⟨_, r2, by rw [e]; exact o2⟩, ?_, h.bd, Nat.le_trans h.bz t2.size⟩
    have bb := h.bel
    have hbs := h.bz
    have hbd := h.bd
    exact ⟨t2.os.trans bb.os, t2.tape.trans bb.tape, t2.output.trans bb.output, Nat.le_trans bb.size t2.size, fun k hk => (t2.block k (by omega) (by omega) (fun e => by have := (World.ownsRow.lt o k e.symm).1; omega)).trans (bb.block k hk)⟩
  have hh : i = 0 ∨ i = 1 ∨ i = 2 := by omega
  rcases hh with rfl | rfl | rfl
  · refine (cmd0 base r 0 (by decide) _ o h.bz).mono ?_
    rintro e w' ⟨rfl, hN⟩
    exact ⟨rfl, key cmG w' rfl hN⟩
  · refine (cmd1 base r 1 (by decide) _ o h.bz).mono ?_
    rintro e w' ⟨rfl, hN⟩
    exact ⟨rfl, key cmH w' rfl hN⟩
  · refine (cmd2 base r 2 (by decide) _ o h.bz).mono ?_
    rintro e w' ⟨rfl, hN⟩
    exact ⟨rfl, key cmD w' rfl hN⟩
/-- The byte that a command begins with. -/
def byt (i : Nat) : Nat := if i = 0 then 49 else if i = 1 then 104 else if i = 2 then 36 else 0
theorem byt_at (i : Nat) (hi : i ≤ 3) : ByteAt tA (plc i) (byt i) := by
  have hh : i = 0 ∨ i = 1 ∨ i = 2 ∨ i = 3 := by omega
  rcases hh with rfl | rfl | rfl | rfl
  · exact .inl ⟨by decide, by decide +kernel⟩
  · exact .inl ⟨by decide, by decide +kernel⟩
  · exact .inl ⟨by decide, by decide +kernel⟩
  · exact .inr ⟨by decide, by decide⟩
theorem byt_no (i : Nat) (hi : i ≤ 3) : byt i ≠ 32 ∧ byt i ≠ 9 ∧ byt i ≠ 10 ∧ byt i ≠ 59 ∧ byt i ≠ 35 := by
  have hh : i = 0 ∨ i = 1 ∨ i = 2 ∨ i = 3 := by omega
  rcases hh with rfl | rfl | rfl | rfl <;> decide
theorem plc_lt (i : Nat) (hi : i ≤ 3) : plc i ≤ 9 ∧ (9 ≤ plc i ↔ i = 3) := by
  have hh : i = 0 ∨ i = 1 ∨ i = 2 ∨ i = 3 := by omega
  rcases hh with rfl | rfl | rfl | rfl <;> decide
theorem one_cms : ∀ u ∈ (cms.flatMap fun c => c.cells.toList), u.oneCell' = true := by
  intro u hu
  simp only [cms, List.flatMap_cons, List.flatMap_nil, List.append_nil, List.mem_append] at hu
  rcases hu with h | h | h
  · exact one_sedL _ _ _ _ u h
  · exact one_sedL _ _ _ _ u h
  · exact one_sedL _ _ _ _ u h
set_option maxRecDepth 20000 in
set_option maxHeartbeats 6400000 in
theorem sparse_any (w : World) :
    Calls Tryz.prog 14 #[.string tA, .bool false] w fun e w' => ∃ g cap, e = .returned (.tuple #[.slice (some ⟨g, 0, none⟩) 3 cap, .int .i64 0, .int .i64 0]) ∧ w'.ownsRow w.heap.size 60 26 (.slice (some ⟨g, 0, none⟩) 3 cap) 3 (cms.flatMap fun c => c.cells.toList) ∧ Below w.heap.size w w' := by
  obtain ⟨i0, hi, hz0, hz1, hz2⟩ := info_parts info60
  have HI : Hid (Tryz.prog.info? 60 = some i0 ∧ i0.zero = some (.agg (sedA 0 0 false ⟨#[]⟩)) ∧ i0.size = 26 ∧ i0.bytes = 288) := ⟨hi, hz0, hz1, hz2⟩
  clear hi hz0 hz1 hz2
  obtain ⟨T, hTT⟩ : ∃ T : ByteArray, T = tA := ⟨_, rfl⟩
  have hsz : T.size = 9 := by rw [hTT]; rfl
  have h1 : decide (65536 < (T.size : Int)) = false := by rw [hsz]; rfl
  have h2 : decide (2000 < (T.size : Int)) = false := by rw [hsz]; rfl
  rw [← hTT]
  have HTT := hide hTT
  clear hTT
  obtain ⟨W0, hW0⟩ : ∃ W0, w.alloc (.cells #[] 60) = W0 := ⟨_, rfl⟩
  have b0 : Below w.heap.size w W0 := by rw [← hW0]; exact more (Below.refl _ _) _
  have s0 : W0.heap.size = w.heap.size + 1 := by rw [← hW0]; exact World.size_alloc ..
  have x0 : W0.heap[w.heap.size]? = some (.cells #[] 60 (0, 0)) := by rw [← hW0]; exact heap_alloc_new w _
  have HP0 : Hid (Ps W0.heap.size W0 W0.heap.size 0 (W0.alloc (.cells #[.string T, .int .i64 0, .bool false, .int .i64 0, .int .i64 0, .slice none 0 0, .slice none 0 0, .slice none 0 0, .slice none 0 0, .slice none 0 0, .slice none 0 0, .slice none 0 0] 49))) := by
    refine ⟨⟨.slice none 0 0, ?_, by simp [World.ownsRow]⟩, more (Below.refl _ _) _, Nat.le_refl _, by rw [World.size_alloc]; omega⟩
    show _ = _
    rw [HTT.out]
    exact heap_alloc_new W0 _
  have HX0 := hide (And.intro b0 (And.intro s0 x0))
  have HNx : Hid (∀ i W, i ≤ 3 → Ps W0.heap.size W0 W0.heap.size i W → Calls Tryz.prog 21 #[.pointer (some ⟨W0.heap.size, 0, none⟩)] W fun e w' => e = .returned (.int .u8 (byt i : Nat)) ∧ Hid (Ps W0.heap.size W0 W0.heap.size i w')) := fun i W hi hW => hW.next (byt i) (byt_at i hi)
  have HCm : Hid (∀ i W, i < 3 → Ps W0.heap.size W0 W0.heap.size i W → Calls Tryz.prog 23 #[.pointer (some ⟨W0.heap.size, 0, none⟩)] W fun e w' => e = .returned (.tuple #[]) ∧ Hid (Ps W0.heap.size W0 W0.heap.size (i + 1) w')) := fun i W hi hW => hW.cmd hi
  have HC : Hid (∀ i W, Ps W0.heap.size W0 W0.heap.size i W → W.cell? ⟨W0.heap.size, 3, none⟩ = some (.int .i64 0) ∧ W.cell? ⟨W0.heap.size, 1, none⟩ = some (.int .i64 (plc i : Nat)) ∧ W.cell? ⟨W0.heap.size, 6, none⟩ = some (.slice none 0 0) ∧ W.cell? ⟨W0.heap.size, 9, none⟩ = some (.slice none 0 0)) := fun i W hW => by
    obtain ⟨out, r, _⟩ := hW.ex
    exact ⟨r.c3, r.c1, r.c6, r.c9⟩
  clear b0 s0 x0
  go_enter Tryz.func14, Tryz.ntmps14
  go_wp2
  (try rw [hW0])
  clear hW0
  go_loopg [24] 4 (fun gk s wx => ∃ i : Nat, gk = 4 - i ∧ i ≤ 3 ∧ Hid (Ps W0.heap.size W0 W0.heap.size i wx))
  case atStart => exact ⟨0, by omega, by omega, HP0⟩
  case round =>
    obtain ⟨i, hgk, hi, HP⟩ := hrel
    clear HP0
    obtain ⟨n1, n2, n3, n4, n5⟩ := byt_no i hi
    obtain ⟨p1, p2⟩ := plc_lt i hi
    have HN : Hid (∀ W, Ps W0.heap.size W0 W0.heap.size i W → Calls Tryz.prog 21 #[.pointer (some ⟨W0.heap.size, 0, none⟩)] W fun e w' => e = .returned (.int .u8 (byt i : Nat)) ∧ Hid (Ps W0.heap.size W0 W0.heap.size i w')) := fun W hW => HNx.out i W hi hW
    obtain ⟨v, hv⟩ : ∃ v : Int, ((byt i : Nat) : Int) = v := ⟨_, rfl⟩
    have q1 : (v == 32) = false := by rw [beq_eq_false_iff_ne]; omega
    have q2 : (v == 9) = false := by rw [beq_eq_false_iff_ne]; omega
    have q3 : (v == 10) = false := by rw [beq_eq_false_iff_ne]; omega
    have q4 : (v == 59) = false := by rw [beq_eq_false_iff_ne]; omega
    have q5 : (v == 35) = false := by rw [beq_eq_false_iff_ne]; omega
    rw [hv] at HN
    obtain ⟨x3, _, _, _⟩ := HC.out i _ HP.out
    clear n1 n2 n3 n4 n5 hv HNx
    go_wp2
    go_loopg [29] 0 (fun gk2 s wx => Hid (Ps W0.heap.size W0 W0.heap.size i wx))
    case atStart => exact HP
    case round =>
      have HQ := hrel
      clear hrel HP x3
      go_wp2_with fail
      refine (HN.out _ HQ.out).mono ?_
      rintro e w1 ⟨rfl, HQ1⟩
      clear HQ
      go_wp2_with fail
      refine (HN.out _ HQ1.out).mono ?_
      rintro e w2 ⟨rfl, HQ2⟩
      clear HQ1
      go_wp2_with fail
      refine (HN.out _ HQ2.out).mono ?_
      rintro e w3 ⟨rfl, HQ3⟩
      clear HQ2
      go_wp2_with fail
      refine (HN.out _ HQ3.out).mono ?_
      rintro e w4 ⟨rfl, HQ4⟩
      clear HQ3
      obtain ⟨x3, x1, x6, x9⟩ := HC.out i _ HQ4.out
      by_cases h3 : i = 3
      · have pe : plc i = 9 := by rw [h3]; rfl
        rw [pe] at x1
        subst h3
        clear p1 p2 pe HN HCm HC
        go_wp2
        go_loopg [9] 0 (fun gk3 s wx => s = .int .i64 0 ∧ wx = w4)
        case atStart => exact ⟨rfl, rfl⟩
        case round =>
          obtain ⟨rfl, rfl⟩ := hrel
          obtain ⟨out, r, o⟩ := HQ4.out.ex
          have bel := HQ4.out.bel
          obtain ⟨b0, s0, x0⟩ := HX0.out
          obtain ⟨g, cap, rfl⟩ : ∃ g cap, out = .slice (some ⟨g, 0, none⟩) 3 cap := by
            obtain ⟨h1, ⟨e, hx⟩ | ⟨g, cap, cur, e, _⟩⟩ := o
            · cases hx
            · exact ⟨_, _, e⟩
          have x5 := r.c5
          dsimp only at x5
          have hxN : wr.heap[w.heap.size]? = some (.cells #[] 60 (0, 0)) := (bel.block _ (by omega)).trans x0
          have HO : Hid (wr.ownsRow w.heap.size 60 26 (.slice (some ⟨w.heap.size, 0, none⟩) 0 0) 0 []) := ⟨rfl, .inr ⟨w.heap.size, 0, #[], rfl, Nat.le_refl _, hxN, Nat.le_refl _, by decide, rfl, rfl⟩⟩
          have HS : Hid (∀ j u, (cms.flatMap fun c => c.cells.toList)[j]? = some u → wr.cell? ((⟨g, 0, none⟩ : Addr).add j) = some u) := fun j u hj => by
            have hlen : (cms.flatMap fun c => c.cells.toList).length = 78 := rfl
            have hlt : j < 78 := by have := (List.getElem?_eq_some_iff.1 hj).1; omega
            have e : (⟨g, 0, none⟩ : Addr).add j = ⟨g, j, none⟩ := by
              unfold Addr.add
              split
              · rename_i h; subst h; rfl
              · simp
            rw [e, o.cellAt j (by omega)]
            exact hj
          have hsz4 : wr.heap.size = wr.heap.size := rfl
          have HB : Hid (Below w.heap.size w wr) := b0.trans (bel.mono (by omega))
          clear r o bel b0 s0 x0 hxN HX0 HQ4 x1 hsz4
          go_wp2_with (at_builtin; refine wpList_append_lies wr rfl _ _ 31 rfl w.heap.size 60 i0 (.agg (sedA 0 0 false ⟨#[]⟩)) 26 288 Tryz.underlying31 HI.out.1 HI.out.2.1 HI.out.2.2.1 HI.out.2.2.2 zc60 (by decide) (.slice (some ⟨w.heap.size, 0, none⟩) 0 0) 0 [] rfl HO.out ⟨g, 0, none⟩ 3 cap (cms.flatMap fun c => c.cells.toList) rfl rfl HS.out one_cms (by decide) (by unfold maxLen; omega) (by omega) HB.out.size wr.heap.size rfl ?_; intro g2 cap2 w9 O9 G9 L9 _; have HO9 := hide O9; have HG9 := hide (And.intro G9 L9); clear O9 G9 L9)
          go_ret3
          refine ⟨g2, cap2, rfl, ?_, ?_⟩
          · have := HO9.out
            rw [List.nil_append] at this
            exact this
          · have hG := HG9.out.1
            have hb := HB.out
            exact ⟨hG.os.trans hb.os, hG.tape.trans hb.tape, hG.output.trans hb.output, Nat.le_trans hb.size hG.size, fun k hk => (hG.block k (Nat.lt_of_lt_of_le hk hb.size) (by simp [Value.ownBlock]; omega)).trans (hb.block k hk)⟩
      · have pl : decide ((9 : Int) ≤ ((plc i : Nat) : Int)) = false := by simp; omega
        have plN : decide (9 ≤ plc i) = false := by simp; omega
        have hi3 : i < 3 := by omega
        have HCm2 := hide (fun W hW => HCm.out i W hi3 hW)
        obtain ⟨k, hk⟩ : ∃ k, plc i = k := ⟨_, rfl⟩
        rw [hk] at x1 pl plN
        clear p1 p2 HC HCm hk h3
        go_wp2_with fail
        refine (HN.out _ HQ4.out).mono ?_
        rintro e w5 ⟨rfl, HQ5⟩
        clear HQ4 x1 x3 x6 x9
        go_wp2_with fail
        refine (HCm2.out _ HQ5.out).mono ?_
        rintro e w6 ⟨rfl, HQ6⟩
        clear HQ5 HCm2 HN
        go_wp2
        go_roundg (4 - (i + 1))
        case rel => exact ⟨i + 1, rfl, by omega, HQ6⟩
        case measure => omega
end Go.Proofs.YtdhachmelgdknaaGreatDoor.spa

/- Proved: laws.FnGrows returns true at every input and leaves its arguments as they were: what was chosen behind the first events is the beginning of what is chosen behind all, and the specification chooses the same, whatever events are drawn. No condition. -/
import Derived.Test.YtklkglbimjajnaaQ27
import Derived.Test.YtklkglbimjajnaaQ19
import Derived.Test.YtklkglbimjajnaaQ18
import Derived.Test.YtklkglbimjajnaaQ24
import Derived.WalkMore
import Derived.Deep.Cut
import Derived.Deep.CutRange
import Derived.Deep.DeepCutAuto
import Derived.Deep.QuietTactic
import Derived.BigQuiet
import Derived.Deep.RegionLaw
import Derived.Deep.RegionHeldLaw
import Derived.Deep.AppendLies
import Derived.Test.YtklkglbimjajnaaQ11
import Derived.Test.YtklkglbimjajnaaQ13
import Derived.Test.YtklkglbimjajnaaQ01
import Derived.OpenShut
import Derived.ShutString
import Derived.ChangeOld
import Derived.Test.YtklkglbimjajnaaRows
import Derived.WalkKit
import Derived.ProofKit
import Derived.Conc.Holds
import Derived.Leaving
set_option linter.unusedVariables false
open Go.ChangeShapes Go.WideShapes Go.ChangeAt Go.RowKit
namespace Go.Proofs.Ytklkglbimjajnaa.sow
open Raft mem srun ssend sdown ssmall scopy srecs sapp ssame schos schosen scom sgrow sin sel stk slog sap0 sow0 slg sow1
variable {F : Nat → Option Obj}
def LM (w : World) (M : Fz) (c : Cl) (ic : Array Value) (bx : Nat) (pv : Value) (o : Option Addr) (cc : Nat) (M1 : Fz) (k : Nat) (v : Value) (wr : World) : Prop := ∃ (M' : Fz) (us : List MV), OI w M M1 98 9 bx #[pv, v, .slice o c.chosen.length cc, .bool c.conflict] ic k v (us.flatMap msgCells) M' wr ∧ us.map (·.m) = c.net.take k ∧ ∀ x ∈ us, RecsM M' x.lv x.m.log
def LP (w : World) (M : Fz) (c : Cl) (ic : Array Value) (bx : Nat) (o : Option Addr) (cc : Nat) (M1 : Fz) (k : Nat) (v : Value) (wr : World) : Prop := ∃ (M' : Fz) (us : List gtold.PV), OI w M M1 36 9 bx #[v, .slice none 0 0, .slice o c.chosen.length cc, .bool c.conflict] ic k v (us.flatMap gtold.peerCells) M' wr ∧ us.map (·.p) = c.peers.take k ∧ ∀ x ∈ us, ntold.PeerM M' x.p x.lv x.vv x.nv x.mv
theorem take_snocP {l : List Peer} {i : Nat} {r : Peer} (h : l[i]? = some r) : l.take (i + 1) = l.take i ++ [r] := by
  rw [List.take_add_one, h]; rfl
theorem bools_one (xs : List Bool) : ∀ y ∈ xs.map Value.bool, y.oneCell' = true := by
  intro y hy
  obtain ⟨z, _, rfl⟩ := List.mem_map.1 hy
  rfl
theorem nats_one (xs : List Nat) : ∀ y ∈ xs.map (fun (n : Nat) => Value.int .i64 (n : Int)), y.oneCell' = true := by
  intro y hy
  obtain ⟨z, _, rfl⟩ := List.mem_map.1 hy
  rfl
def Beg (w : World) (M : Fz) (c : Cl) (ic : Array Value) (bx : Nat) (o : Option Addr) (cc : Nat) (wr : World) : Prop := ∃ M1, OI w M M1 36 9 bx #[.slice none 0 0, .slice none 0 0, .slice o c.chosen.length cc, .bool c.conflict] ic 0 (.slice none 0 0) [] M1 wr ∧ RecsM M1 (.slice o c.chosen.length cc) c.chosen
theorem Beg.mk {w W wx w2 w3 : World} {M M2 : Fz} {c : Cl} {ic : Array Value} {bx : Nat} {o : Option Addr} {cc : Nat} (hI : In M w) (bW : Below w.heap.size w W) (h0 : W.heap[w.heap.size]? = some (.cells ic 30 (0, 0))) (h1 : W.heap[w.heap.size + 1]? = some (.cells #[.slice none 0 0, .slice none 0 0, .slice none 0 0, .bool false] 30 (0, 0))) (hx : Below W.heap.size W wx) (f : ntold.FP wx M w2 M2) (hr : RecsM M2 (.slice o c.chosen.length cc) c.chosen)
    (h3 : ∀ b, b < w2.heap.size → b ≠ bx → w3.heap[b]? = w2.heap[b]?) (hos : w3.os = w2.os ∧ w3.tape = w2.tape ∧ w3.output = w2.output ∧ w2.heap.size ≤ w3.heap.size) (hb : w3.heap[bx]? = some (.cells #[.slice none 0 0, .slice none 0 0, .slice o c.chosen.length cc, .bool c.conflict] 30 (0, 0))) (hbx : W.heap.size ≤ bx) (hM : M2 bx = none) : Beg w M c ic bx o cc w3 := by
  have l0 := (Array.getElem?_eq_some_iff.1 h0).1
  have l1 := (Array.getElem?_eq_some_iff.1 h1).1
  have sx := hx.size
  have s2 := f.below.size
  have hold : ∀ b, b < W.heap.size → w3.heap[b]? = W.heap[b]? := fun b hb' => by
    rw [h3 b (by omega) (by omega), f.below.block b (by omega), hx.block b hb']
  have hfz : ∀ b, w.heap.size ≤ b → b < W.heap.size → M2 b = none := fun b g1 g2 => by
    cases e : M2 b with
    | none => rfl
    | some q =>
      rcases f.new b (by rw [e]; simp) with g | g
      · exact absurd (hI.fresh g1) g
      · omega
  refine ⟨M2, ⟨⟨f.le, fun b q hq => ?_, ⟨hos.1.trans (f.below.os.trans (hx.os.trans bW.os)), hos.2.1.trans (f.below.tape.trans (hx.tape.trans bW.tape)), hos.2.2.1.trans (f.below.output.trans (hx.output.trans bW.output)), by have := bW.size; have := hos.2.2.2; omega, fun b hb' => by rw [hold b (by have := bW.size; omega), bW.block b hb']⟩, fun b hb' => (f.new b hb').imp id (fun g => by have := bW.size; omega)⟩, World.ownsRow_nil _ _ _ _, by simp [Value.ownBlock], Le.refl _, ⟨hM, by omega⟩, hb, (hold _ l0).trans h0, (hold _ l1).trans h1, hfz _ (Nat.le_refl _) l0, hfz _ (by omega) l1⟩, hr⟩
  have hq2 := f.inn b q hq
  rw [h3 b (Array.getElem?_eq_some_iff.1 hq2).1 (fun e => by rw [e, hM] at hq; cases hq)]
  exact hq2
set_option maxRecDepth 20000 in
set_option maxHeartbeats 4000000 in
theorem own_any (w : World) (M : Fz) (hI : In M w) (c : Cl) (po : Option Addr) (pn px : Nat) (no : Option Addr) (nn nx : Nat) (co : Option Addr) (cn cx : Nat) (h : gt8.CluV M c (.slice po pn px) (.slice no nn nx) (.slice co cn cx))
    (hp7 : c.peers.length ≤ 7) (hn200 : c.net.length ≤ 200) (hcl : c.chosen.length ≤ 1000) (hpl : ∀ p ∈ c.peers, p.log.length ≤ 1000 ∧ p.votes.length ≤ 1000 ∧ p.next.length ≤ 1000 ∧ p.mat.length ≤ 1000) (hml : ∀ m ∈ c.net, m.log.length ≤ 1000) :
    Calls Try.prog 24 #[.agg #[.slice po pn px, .slice no nn nx, .slice co cn cx, .bool c.conflict]] w fun r w' => gt8.CluE w M c r w' := by
  obtain ⟨ps, ms, eps, hpv, ems, hmv, hch⟩ := h
  obtain ⟨W, hW⟩ : ∃ W, (w.alloc (.cells #[.slice po pn px, .slice no nn nx, .slice co cn cx, .bool c.conflict] 30)).alloc (.cells #[.slice none 0 0, .slice none 0 0, .slice none 0 0, .bool false] 30) = W := ⟨_, rfl⟩
  have bW : Below w.heap.size w W := by rw [← hW]; exact more (more (Below.refl _ _) _) _
  have sW : W.heap.size = w.heap.size + 2 := by rw [← hW]; simp [World.size_alloc]
  have hb0 : W.heap[w.heap.size]? = some (.cells #[.slice po pn px, .slice no nn nx, .slice co cn cx, .bool c.conflict] 30 (0, 0)) := by
    rw [← hW]
    exact kept (more (Below.refl _ _) _) (heap_alloc_new w _) (Nat.le_refl _)
  have hb1 : W.heap[w.heap.size + 1]? = some (.cells #[.slice none 0 0, .slice none 0 0, .slice none 0 0, .bool false] 30 (0, 0)) := by
    rw [← hW]
    exact new_at (by simp [World.size_alloc])
  have HS : Hid (∀ wx, Below W.heap.size W wx → wx.cell? ⟨w.heap.size, 3, none⟩ = some (.bool c.conflict) ∧ wx.cell? ⟨w.heap.size, 2, none⟩ = some (.slice co cn cx)) := fun wx hx => ⟨cell_of (kept hx hb0 (Nat.le_refl _)) rfl, cell_of (kept hx hb0 (Nat.le_refl _)) rfl⟩
  have HLg : Hid (∀ wx, Below W.heap.size W wx → Calls Try.prog 54 #[.slice co cn cx] wx fun r w' => LogE wx M c.chosen r w') := fun wx hx => log_any wx M ((hI.below bW).below hx) c.chosen co cn cx hch hcl
  have HBg : Hid (∀ wx w2 M2 o cc w3 bx, Below W.heap.size W wx → ntold.FP wx M w2 M2 → RecsM M2 (.slice o c.chosen.length cc) c.chosen → (∀ b, b < w2.heap.size → b ≠ bx → w3.heap[b]? = w2.heap[b]?) → (w3.os = w2.os ∧ w3.tape = w2.tape ∧ w3.output = w2.output ∧ w2.heap.size ≤ w3.heap.size) → w3.heap[bx]? = some (.cells #[.slice none 0 0, .slice none 0 0, .slice o c.chosen.length cc, .bool c.conflict] 30 (0, 0)) → W.heap.size ≤ bx → M2 bx = none → Beg w M c #[.slice po pn px, .slice no nn nx, .slice co cn cx, .bool c.conflict] bx o cc w3) := fun wx w2 M2 o cc w3 bx hx f hr h3 hos hb hbx hM => Beg.mk hI bW hb0 hb1 hx f hr h3 hos hb hbx hM
  have hB0 := hide (Below.refl W.heap.size W)
  have HsW := hide sW
  clear sW
  have HInW : Hid (In M W) := hI.below bW
  obtain ⟨CL, eCL⟩ : ∃ n, c.chosen.length = n := ⟨_, rfl⟩
  go_enter Try.func24, Try.ntmps24
  go_wp2
  (try rw [hW])
  go_cut [3] from 8 to 13 (fun v wx => ∃ bx o cc, v = .pointer (some ⟨bx, 0, none⟩) ∧ Hid (Beg w M c #[.slice po pn px, .slice no nn nx, .slice co cn cx, .bool c.conflict] bx o cc wx))
  case first =>
    clear hpv hmv hch hW hb0 hb1 bW
    go_region_held_law (fun wx => wx.cell? ⟨w.heap.size, 3, none⟩ = some (.bool c.conflict) ∧ wx.cell? ⟨w.heap.size, 2, none⟩ = some (.slice co cn cx)) ((refine HS.out _ ?_; first | exact hB0.out | exact hB0.out.drew | exact (more hB0.out _).drew | exact hBx.out | exact more hBx.out _ | exact (((hBx.out.setCell (Nat.le_refl _) _).setCell (Nat.le_refl _) _).setCell (Nat.le_refl _) _).setCell (Nat.le_refl _) _)) (first | (go_at_call 54; refine (HLg.out _ (by first | exact hB0.out.drew | exact (more hB0.out _).drew)).mono ?_; rintro rr w2 ⟨o, cc, M2, rfl, fp2, hr2⟩; have HF2 := hide fp2; have HR2 := hide hr2; first | (have hBx : Hid (Below W.heap.size W w2) := hB0.out.drew.trans (fp2.below.mono (by first | exact Nat.le_refl _ | simp))) | (have hBx : Hid (Below W.heap.size W w2) := (more hB0.out _).drew.trans (fp2.below.mono (by simp [World.size_alloc]))); first | (have hz2 : w2.heap[W.heap.size]? = some (.cells #[.slice none 0 0, .slice none 0 0, .slice none 0 0, .bool false] 30 (0, 0)) := kept fp2.below (show ((W.alloc (.cells #[.slice none 0 0, .slice none 0 0, .slice none 0 0, .bool false] 30)).drew).heap[W.heap.size]? = some (.cells #[.slice none 0 0, .slice none 0 0, .slice none 0 0, .bool false] 30 (0, 0)) from heap_alloc_new W _) (Nat.le_refl _); have zz0 := cell_of (i := 0) hz2 (v := .slice none 0 0) rfl; have zf0 := frozen_of hz2 0; have zz1 := cell_of (i := 1) hz2 (v := .slice none 0 0) rfl; have zf1 := frozen_of hz2 1; have zz2 := cell_of (i := 2) hz2 (v := .slice none 0 0) rfl; have zf2 := frozen_of hz2 2; have zz3 := cell_of (i := 3) hz2 (v := .bool false) rfl; have zf3 := frozen_of hz2 3) | skip; clear fp2 hr2))
    all_goals (go_wp2_with fail)
    · go_meet
      exact ⟨w2.heap.size, o, cc, rfl, HBg.out _ w2 M2 o cc _ w2.heap.size hB0.out.drew HF2.out HR2.out (fun b hb _ => Below.heap_alloc _ _ _ hb) ⟨rfl, rfl, rfl, by simp [World.size_alloc]⟩ (by rw [eCL]; exact heap_alloc_new w2 _) hBx.out.size (HF2.out.inn.fresh (Nat.le_refl _))⟩
    · have hMb : M2 W.heap.size = none := by
        cases em : M2 W.heap.size with
        | none => rfl
        | some q =>
          rcases HF2.out.new _ (by rw [em]; simp) with g | g
          · exact absurd (HInW.out.fresh (Nat.le_refl _)) g
          · exfalso
            have g : (W.alloc (.cells #[.slice none 0 0, .slice none 0 0, .slice none 0 0, .bool false] 30)).heap.size ≤ W.heap.size := g
            rw [World.size_alloc] at g
            omega
      go_meet
      refine ⟨W.heap.size, o, cc, rfl, HBg.out _ w2 M2 o cc _ W.heap.size (more hB0.out _).drew HF2.out HR2.out (fun b hb hne => ?_) ⟨rfl, rfl, rfl, by simp⟩ ?_ (Nat.le_refl _) hMb⟩
      · rw [Below.heap_setCell _ ⟨W.heap.size, 3, none⟩ _ b hne, Below.heap_setCell _ ⟨W.heap.size, 2, none⟩ _ b hne, Below.heap_setCell _ ⟨W.heap.size, 1, none⟩ _ b hne, Below.heap_setCell _ ⟨W.heap.size, 0, none⟩ _ b hne]
      · rw [eCL]
        have g1 := heap_setCell_same w2 W.heap.size 0 _ 30 (.slice none 0 0) hz2
        have g2 := heap_setCell_same _ W.heap.size 1 _ 30 (.slice none 0 0) g1
        have g3 := heap_setCell_same _ W.heap.size 2 _ 30 (.slice o CL cc) g2
        have g4 := heap_setCell_same _ W.heap.size 3 _ 30 (.bool c.conflict) g3
        simpa using g4
  case rest =>
    obtain ⟨bx, o, cc, rfl, HBeg⟩ := hcut
    obtain ⟨M1, hoi0, hrc⟩ := HBeg.out
    have HRC := hide hrc
    have H0 : Hid (LP w M c #[.slice po pn px, .slice no nn nx, .slice co cn cx, .bool c.conflict] bx o cc M1 0 (.slice none 0 0) wc) := ⟨M1, [], hoi0, by simp, by simp⟩
    have HPn : Hid (pn = ps.length ∧ px ≤ maxLen ∧ pn ≤ px) := by
      obtain ⟨⟨ao, cap, e1, e2, e3, _⟩, _⟩ := hpv
      simp only [Value.slice.injEq] at e1
      obtain ⟨_, rfl, rfl⟩ := e1
      exact ⟨rfl, e3, e2⟩
    have hpn7 : pn ≤ 7 := by rw [HPn.out.1, ← List.length_map (f := (·.p)), eps]; exact hp7
    have hpx := HPn.out.2.1
    have hpx2 := HPn.out.2.2
    unfold maxLen at hpx
    have HPc : Hid (∀ k, k < pn → ∃ x pb off lo L lc ao VL ac eo NL ec fo ML fc, ps[k]? = some x ∧ po = some ⟨pb, off, none⟩ ∧ x.lv = .slice lo L lc ∧ x.vv = .slice ao VL ac ∧ x.nv = .slice eo NL ec ∧ x.mv = .slice fo ML fc ∧ (L = x.p.log.length ∧ VL = x.p.votes.length ∧ NL = x.p.next.length ∧ ML = x.p.mat.length) ∧ (L ≤ 1000 ∧ VL ≤ 1000 ∧ NL ≤ 1000 ∧ ML ≤ 1000) ∧ (∀ M' wx, Le M M' → In M' wx → ∀ j v, ([.bool x.p.up, .int .i64 x.p.term, .int .i64 x.p.vote, .int .i64 x.p.commit, .int .i64 x.p.role, .slice lo L lc, .slice ao VL ac, .slice eo NL ec, .slice fo ML fc] : List Value)[j]? = some v → wx.cell? ⟨pb, off + k * 9 + j, none⟩ = some v)) := fun k hk => by
      obtain ⟨x, hx⟩ : ∃ x, ps[k]? = some x := ⟨_, List.getElem?_eq_getElem (by have := HPn.out.1; omega)⟩
      have hxm : x ∈ ps := List.mem_iff_getElem?.2 ⟨k, hx⟩
      obtain ⟨hp1, hp2⟩ := hpv
      obtain ⟨q1, q2, q3, q4⟩ := hp2 x hxm
      have hpx := hpl x.p (by rw [← eps]; exact List.mem_map.2 ⟨x, hxm, rfl⟩)
      obtain ⟨lo, lc, e1⟩ := recsM_slice q1
      obtain ⟨ao, ac, e2, _⟩ := slice_one q2
      obtain ⟨eo, ec, e3, _⟩ := slice_one q3
      obtain ⟨fo, fc, e4, _⟩ := slice_one q4
      obtain ⟨pao, cap, e5, g1, g2, g3, g4, g5⟩ := hp1
      obtain ⟨pb, off, e6, hc⟩ := g5 (by have := HPn.out.1; omega)
      simp only [Value.slice.injEq] at e5
      refine ⟨x, pb, off, lo, _, lc, ao, _, ac, eo, _, ec, fo, _, fc, hx, e5.1.trans e6, e1, e2, e3, e4, ⟨rfl, rfl, rfl, rfl⟩, hpx, fun M' wx hle hIn j v hj => ?_⟩
      have hj' : (gtold.peerCells x)[j]? = some v := by
        unfold gtold.peerCells
        rw [e1, e2, e3, e4]
        exact hj
      have hj9 : j < 9 := (List.getElem?_eq_some_iff.1 hj').1
      have e7 := flat_get gtold.peerCells 9 gtold.peerCells_len ps k j x hx hj9
      have := hc _ v (e7.trans hj')
      rw [← Nat.add_assoc] at this
      exact hIn.cell (hle.cell this)
    have HSrc : Hid (∀ (k : Nat) (x : gtold.PV), ps[k]? = some x → ntold.PeerM M x.p x.lv x.vv x.nv x.mv ∧ c.peers[k]? = some x.p) := fun k x hx => ⟨hpv.2 x (List.mem_iff_getElem?.2 ⟨k, hx⟩), by rw [← eps, List.getElem?_map, hx]; rfl⟩
    obtain ⟨i36, g1, g2, g3, g4⟩ := info_parts scl.info36
    have HI36 : Hid (Try.prog.info? 36 = some i36 ∧ i36.zero = some (.agg #[.bool false, .int .i64 0, .int .i64 0, .int .i64 0, .int .i64 0, .slice none 0 0, .slice none 0 0, .slice none 0 0, .slice none 0 0]) ∧ i36.size = 9 ∧ i36.bytes = 136) := ⟨g1, g2, g3, g4⟩
    clear g1 g2 g3 g4 hoi0 hrc HBeg HS HLg HBg hB0 hW hb0 hb1 bW hpv
    go_wp2
    go_loopw [4] (fun a wr => ∃ (k : Nat) (vo : Option Addr) (vc : Nat), k ≤ pn ∧ a = .int .i64 k ∧ Hid (LP w M c #[.slice po pn px, .slice no nn nx, .slice co cn cx, .bool c.conflict] bx o cc M1 k (.slice vo k vc) wr)) (fun a _ => pn - (intOf a).toNat)
    case atStart => exact ⟨0, none, 0, Nat.zero_le _, rfl, H0⟩
    case round =>
      clear H0
      obtain ⟨k, vo, vc, hk, rfl, HQ⟩ := hrel
      obtain ⟨M', us, hoi, hus, hok⟩ := HQ.out
      have b00 : wr.cell? ⟨w.heap.size, 0, none⟩ = some (.slice po pn px) := cell_of hoi.b0 rfl
      by_cases hkn : k < pn
      · have hknI : (k : Int) < pn := by omega
        obtain ⟨x, pb, off, lo, L, lc, ao, VL, ac, eo, NL, ec, fo, ML, fc, hx, rfl, elv, evv, env, emv, ⟨eL, eV, eN, eM⟩, ⟨bL, bV, bN, bM⟩, hcs⟩ := HPc.out k hkn
        obtain ⟨⟨s1, s2, s3, s4⟩, hcp⟩ := HSrc.out k x hx
        rw [elv] at s1
        rw [evv, ← eV] at s2
        rw [env, ← eN] at s3
        rw [emv, ← eM] at s4
        have hM' := hoi.fp.le
        have y0 := hcs M' wr hM' hoi.fp.inn 0 _ rfl
        have y1 := hcs M' wr hM' hoi.fp.inn 1 _ rfl
        have y2 := hcs M' wr hM' hoi.fp.inn 2 _ rfl
        have y3 := hcs M' wr hM' hoi.fp.inn 3 _ rfl
        have y4 := hcs M' wr hM' hoi.fp.inn 4 _ rfl
        have y5 := hcs M' wr hM' hoi.fp.inn 5 _ rfl
        have y6 := hcs M' wr hM' hoi.fp.inn 6 _ rfl
        have y7 := hcs M' wr hM' hoi.fp.inn 7 _ rfl
        have y8 := hcs M' wr hM' hoi.fp.inn 8 _ rfl
        rw [Nat.add_zero] at y0
        obtain ⟨W1, hW1⟩ : ∃ X, wr.alloc (.cells #[.bool x.p.up, .int .i64 x.p.term, .int .i64 x.p.vote, .int .i64 x.p.commit, .int .i64 x.p.role, .slice lo L lc, .slice ao VL ac, .slice eo NL ec, .slice fo ML fc] 36) = X := ⟨_, rfl⟩
        have rd1 := RD.begin hoi hW1
        obtain ⟨b5, eb5⟩ : ∃ b, wr.heap.size = b := ⟨_, rfl⟩
        rw [eb5] at rd1
        have HA := hide (rd1.log x.p.log lo L lc (s1.le hM') (by omega))
        rw [← eL] at HA
        have t5 := (rd1.cell (j := 5) (u := .slice lo L lc) rfl).1
        have HOk : Hid ((∀ y ∈ us, ntold.PeerM M' y.p y.lv y.vv y.nv y.mv) ∧ us.map (·.p) = c.peers.take k ∧ c.peers[k]? = some x.p ∧ Le M M' ∧ L = x.p.log.length ∧ VL = x.p.votes.length ∧ NL = x.p.next.length ∧ ML = x.p.mat.length) := ⟨hok, hus, hcp, hM', eL, eV, eN, eM⟩
        have HS2 := hide s2
        have HS3 := hide s3
        have HS4 := hide s4
        clear hoi hus hok HQ hcs hx hcp s1 s2 s3 s4 hM' rd1 eL eV eN eM elv evv env emv HPc HSrc
        go_wp2_with fail
        refine HA.out.mono ?_
        rintro rr w2 ⟨o5, c5, M2, rfl, hr5, le2, rd2⟩
        obtain ⟨q5, f5⟩ := rd2.cell (j := 5) (u := .slice lo L lc) rfl
        obtain ⟨W3, hW3⟩ : ∃ X, w2.setCell ⟨b5, 5, none⟩ (.slice o5 L c5) = X := ⟨_, rfl⟩
        have rd3 : RD w M M1 36 9 bx #[.slice vo k vc, .slice none 0 0, .slice o c.chosen.length cc, .bool c.conflict] #[.slice (some ⟨pb, off, none⟩) pn px, .slice no nn nx, .slice co cn cx, .bool c.conflict] k (.slice vo k vc) (us.flatMap gtold.peerCells) b5 #[.bool x.p.up, .int .i64 x.p.term, .int .i64 x.p.vote, .int .i64 x.p.commit, .int .i64 x.p.role, .slice o5 L c5, .slice ao VL ac, .slice eo NL ec, .slice fo ML fc] M2 W3 := (by have := rd2.set 5 (.slice o5 L c5); rw [hW3] at this; exact this)
        obtain ⟨Wa, hWa⟩ : ∃ X, W3.alloc (.cells #[] 4) = X := ⟨_, rfl⟩
        obtain ⟨a1, a2, a3, a4, a5⟩ := rd3.row 4 (.slice ao VL ac) VL (x.p.votes.map Value.bool) (HS2.out.le (HOk.out.2.2.2.1.trans le2)) hWa
        have HA1 := hide a1
        have HA2 := hide a2
        have HA5 := hide a5
        have q6 := (a4.cell (j := 6) (u := .slice ao VL ac) rfl).1
        have HR5 := hide hr5
        have HL2 := hide le2
        clear a1 a2 a4 a5 rd2 rd3 hr5 le2
        go_wp2_with (first | (at_builtin; have _h := HZ4; refine wpList_append_lies _ rfl _ _ _ rfl w.heap.size 36 i36 (.agg #[.bool false, .int .i64 0, .int .i64 0, .int .i64 0, .int .i64 0, .slice none 0 0, .slice none 0 0, .slice none 0 0, .slice none 0 0]) 9 136 Try.underlying26 HI36.out.1 HI36.out.2.1 HI36.out.2.2.1 HI36.out.2.2.2 rfl (by omega) _ k (us.flatMap gtold.peerCells) rfl HZ1.out ⟨W9.heap.size, 0, none⟩ 1 1 [.bool x.p.up, .int .i64 x.p.term, .int .i64 x.p.vote, .int .i64 x.p.commit, .int .i64 x.p.role, .slice o5 L c5, .slice o6 VL c6, .slice o7 NL c7, .slice o8 ML c8] rfl rfl HZ2.out (by intro u hu; simp only [List.mem_cons, List.not_mem_nil, or_false] at hu; rcases hu with rfl | rfl | rfl | rfl | rfl | rfl | rfl | rfl | rfl <;> rfl) (by omega) (by unfold maxLen; omega) (by omega) z3 Y.heap.size rfl ?_; intro g cp w10 p1 p2 p3 p4; obtain ⟨n1, n2⟩ := HZ4.out g cp w10 p1 p2 p3; have n3 := cell_of (i := 0) n1 (v := .slice vo k vc) rfl; have n4 := frozen_of n1 0; have HN := hide (n2 0); clear _h p1 p2 p3 p4 n1 n2 HZ1 HZ2 HZ4 hY q0 u0 u1 u2 u3 u4 u5 u6 u7 u8) | (at_builtin; have _h := HM5; refine wpList_append_row _ rfl _ _ 31 rfl 3 1 8 _ Try.underlying31 sel.info3 rfl (by decide) W7.heap.size _ 0 [] rfl HM1.out _ ML (x.p.mat.map fun (n : Nat) => Value.int .i64 (n : Int)) rfl HM2.out (nats_one _) (by omega) (by decide) m3 ?_; intro v8 w8 O8 G8; obtain ⟨o8, c8, M8, e8, hr8, le8, rd8⟩ := HM5.out v8 w8 O8 G8; subst e8; obtain ⟨q8', f8⟩ := rd8.cell (j := 8) (u := .slice fo ML fc) rfl; obtain ⟨W9, hW9⟩ : ∃ X, w8.setCell ⟨b5, 8, none⟩ (.slice o8 ML c8) = X := ⟨_, rfl⟩; have rd9 : RD w M M1 36 9 bx #[.slice vo k vc, .slice none 0 0, .slice o c.chosen.length cc, .bool c.conflict] #[.slice (some ⟨pb, off, none⟩) pn px, .slice no nn nx, .slice co cn cx, .bool c.conflict] k (.slice vo k vc) (us.flatMap gtold.peerCells) b5 #[.bool x.p.up, .int .i64 x.p.term, .int .i64 x.p.vote, .int .i64 x.p.commit, .int .i64 x.p.role, .slice o5 L c5, .slice o6 VL c6, .slice o7 NL c7, .slice o8 ML c8] M8 W9 := (by have := rd8.set 8 (.slice o8 ML c8); rw [hW9] at this; exact this); have q0 := cell_of (i := 0) rd9.oi.blk (v := .slice vo k vc) rfl; have u0 := (rd9.cell (j := 0) (u := .bool x.p.up) rfl).1; have u1 := (rd9.cell (j := 1) (u := .int .i64 x.p.term) rfl).1; have u2 := (rd9.cell (j := 2) (u := .int .i64 x.p.vote) rfl).1; have u3 := (rd9.cell (j := 3) (u := .int .i64 x.p.commit) rfl).1; have u4 := (rd9.cell (j := 4) (u := .int .i64 x.p.role) rfl).1; have u5 := (rd9.cell (j := 5) (u := .slice o5 L c5) rfl).1; have u6 := (rd9.cell (j := 6) (u := .slice o6 VL c6) rfl).1; have u7 := (rd9.cell (j := 7) (u := .slice o7 NL c7) rfl).1; have u8 := (rd9.cell (j := 8) (u := .slice o8 ML c8) rfl).1; obtain ⟨Y, hY⟩ : ∃ X, W9.alloc (.cells #[.bool x.p.up, .int .i64 x.p.term, .int .i64 x.p.vote, .int .i64 x.p.commit, .int .i64 x.p.role, .slice o5 L c5, .slice o6 VL c6, .slice o7 NL c7, .slice o8 ML c8] 36) = X := ⟨_, rfl⟩; obtain ⟨z1, z2, z3, z4⟩ := rd9.push (by decide) (pc := [.bool x.p.up, .int .i64 x.p.term, .int .i64 x.p.vote, .int .i64 x.p.commit, .int .i64 x.p.role, .slice o5 L c5, .slice o6 VL c6, .slice o7 NL c7, .slice o8 ML c8]) hY; have HZ1 := hide z1; have HZ2 := hide z2; have HZ4 := hide z4; have HR8 := hide hr8; have HL8 := hide le8; have HOI := hide rd9.oi; clear _h z1 z2 z4 rd8 rd9 hr8 le8 O8 G8 HM1 HM2 HM5 hWc q7' f7 q8) | (at_builtin; have _h := HD5; refine wpList_append_row _ rfl _ _ 31 rfl 3 1 8 _ Try.underlying31 sel.info3 rfl (by decide) W5.heap.size _ 0 [] rfl HD1.out _ NL (x.p.next.map fun (n : Nat) => Value.int .i64 (n : Int)) rfl HD2.out (nats_one _) (by omega) (by decide) d3 ?_; intro v7 w6 O6 G6; obtain ⟨o7, c7, M6, e7, hr7, le6, rd6⟩ := HD5.out v7 w6 O6 G6; subst e7; obtain ⟨q7', f7⟩ := rd6.cell (j := 7) (u := .slice eo NL ec) rfl; obtain ⟨W7, hW7⟩ : ∃ X, w6.setCell ⟨b5, 7, none⟩ (.slice o7 NL c7) = X := ⟨_, rfl⟩; have rd7 : RD w M M1 36 9 bx #[.slice vo k vc, .slice none 0 0, .slice o c.chosen.length cc, .bool c.conflict] #[.slice (some ⟨pb, off, none⟩) pn px, .slice no nn nx, .slice co cn cx, .bool c.conflict] k (.slice vo k vc) (us.flatMap gtold.peerCells) b5 #[.bool x.p.up, .int .i64 x.p.term, .int .i64 x.p.vote, .int .i64 x.p.commit, .int .i64 x.p.role, .slice o5 L c5, .slice o6 VL c6, .slice o7 NL c7, .slice fo ML fc] M6 W7 := (by have := rd6.set 7 (.slice o7 NL c7); rw [hW7] at this; exact this); obtain ⟨Wc, hWc⟩ : ∃ X, W7.alloc (.cells #[] 3) = X := ⟨_, rfl⟩; obtain ⟨m1, m2, m3, m4, m5⟩ := rd7.row 3 (.slice fo ML fc) ML (x.p.mat.map fun (n : Nat) => Value.int .i64 (n : Int)) (HS4.out.le (HOk.out.2.2.2.1.trans (HL2.out.trans (HL4.out.trans le6)))) hWc; have HM1 := hide m1; have HM2 := hide m2; have HM5 := hide m5; have q8 := (m4.cell (j := 8) (u := .slice fo ML fc) rfl).1; have HR7 := hide hr7; have HL6 := hide le6; clear _h m1 m2 m4 m5 rd6 rd7 hr7 le6 O6 G6 HD1 HD2 HD5 hWb q6' f6 q7) | (at_builtin; have _h := HA5; refine wpList_append_row _ rfl _ _ 34 rfl 4 1 1 _ Try.underlying34 stk2.info4 rfl (by decide) W3.heap.size _ 0 [] rfl HA1.out _ VL (x.p.votes.map Value.bool) rfl HA2.out (bools_one _) (by omega) (by decide) a3 ?_; intro v6 w4 O4 G4; obtain ⟨o6, c6, M4, e6, hr6, le4, rd4⟩ := HA5.out v6 w4 O4 G4; subst e6; obtain ⟨q6', f6⟩ := rd4.cell (j := 6) (u := .slice ao VL ac) rfl; obtain ⟨W5, hW5⟩ : ∃ X, w4.setCell ⟨b5, 6, none⟩ (.slice o6 VL c6) = X := ⟨_, rfl⟩; have rd5 : RD w M M1 36 9 bx #[.slice vo k vc, .slice none 0 0, .slice o c.chosen.length cc, .bool c.conflict] #[.slice (some ⟨pb, off, none⟩) pn px, .slice no nn nx, .slice co cn cx, .bool c.conflict] k (.slice vo k vc) (us.flatMap gtold.peerCells) b5 #[.bool x.p.up, .int .i64 x.p.term, .int .i64 x.p.vote, .int .i64 x.p.commit, .int .i64 x.p.role, .slice o5 L c5, .slice o6 VL c6, .slice eo NL ec, .slice fo ML fc] M4 W5 := (by have := rd4.set 6 (.slice o6 VL c6); rw [hW5] at this; exact this); obtain ⟨Wb, hWb⟩ : ∃ X, W5.alloc (.cells #[] 3) = X := ⟨_, rfl⟩; obtain ⟨d1, d2, d3, d4, d5⟩ := rd5.row 3 (.slice eo NL ec) NL (x.p.next.map fun (n : Nat) => Value.int .i64 (n : Int)) (HS3.out.le (HOk.out.2.2.2.1.trans (HL2.out.trans le4))) hWb; have HD1 := hide d1; have HD2 := hide d2; have HD5 := hide d5; have q7 := (d4.cell (j := 7) (u := .slice eo NL ec) rfl).1; have HR6 := hide hr6; have HL4 := hide le4; clear _h d1 d2 d4 d5 rd4 rd5 hr6 le4 O4 G4 HA1 HA2 HA5 HA hWa q5 f5 t5 q6))
        have HF : Hid (LP w M c #[.slice (some ⟨pb, off, none⟩) pn px, .slice no nn nx, .slice co cn cx, .bool c.conflict] bx o cc M1 (k + 1) (.slice (some ⟨g, 0, none⟩) (k + 1) cp) (w10.setCell ⟨bx, 0, none⟩ (.slice (some ⟨g, 0, none⟩) (k + 1) cp))) := by
          obtain ⟨k1, k2, k3, k4, k5, k6, k7, k8⟩ := HOk.out
          have l48 := HL4.out.trans (HL6.out.trans HL8.out)
          refine ⟨M8, us ++ [⟨x.p, .slice o5 L c5, .slice o6 VL c6, .slice o7 NL c7, .slice o8 ML c8⟩], ?_, ?_, ?_⟩
          · have e9 : (us ++ [(⟨x.p, .slice o5 L c5, .slice o6 VL c6, .slice o7 NL c7, .slice o8 ML c8⟩ : gtold.PV)]).flatMap gtold.peerCells = us.flatMap gtold.peerCells ++ [.bool x.p.up, .int .i64 x.p.term, .int .i64 x.p.vote, .int .i64 x.p.commit, .int .i64 x.p.role, .slice o5 L c5, .slice o6 VL c6, .slice o7 NL c7, .slice o8 ML c8] := by rw [List.flatMap_append]; rfl
            rw [e9]
            exact HN.out
          · rw [List.map_append, k2, take_snocP k3]
            rfl
          · intro y hy
            rcases List.mem_append.1 hy with hy | hy
            · exact gtold.PeerM.le (k1 y hy) (HL2.out.trans l48)
            · simp only [List.mem_singleton] at hy
              subst hy
              refine ⟨?_, ?_, ?_, ?_⟩
              · exact HR5.out.le l48
              · show RowM M8 _ x.p.votes.length 1 _
                rw [← k6]
                exact HR6.out.le (HL6.out.trans HL8.out)
              · show RowM M8 _ x.p.next.length 1 _
                rw [← k7]
                exact HR7.out.le HL8.out
              · show RowM M8 _ x.p.mat.length 1 _
                rw [← k8]
                exact HR8.out
        clear HN HR5 HR6 HR7 HR8 HL2 HL4 HL6 HL8 HOI HOk
        go_roundw
        case rel => exact ⟨k + 1, _, cp, by omega, by go_num, HF⟩
        case measure => simp [intOf]; omega
      · have hknI : ¬ (k : Int) < pn := by omega
        obtain rfl : k = pn := by omega
        have H1 : Hid (∃ M2, OI w M M2 98 9 bx #[.slice vo k vc, .slice none 0 0, .slice o c.chosen.length cc, .bool c.conflict] #[.slice po k px, .slice no nn nx, .slice co cn cx, .bool c.conflict] 0 (.slice none 0 0) [] M2 wr ∧ Le M1 M2 ∧ ∃ us2 : List gtold.PV, us2.map (·.p) = c.peers ∧ gtold.PeersV M2 (.slice vo k vc) us2) := by
          obtain ⟨M2, q1, q2, q3, q4⟩ := RowM.freeze hoi.row hoi.fp.inn (fun g hg => hoi.free g hg)
          have hlk : us.length = k := by
            have := congrArg List.length hus
            rw [List.length_map, List.length_take, ← eps, List.length_map, ← HPn.out.1] at this
            omega
          have hfz : ∀ b, M' b = none → (.slice vo k vc : Value).ownBlock ≠ some b → M2 b = none := fun b hb hn => by
            cases e2 : M2 b with
            | none => rfl
            | some q =>
              rcases q4 b (by rw [e2]; simp) with g | g
              · exact absurd hb g
              · exact absurd g hn
          have hne : ∀ b (cur : Array Value), wr.heap[b]? = some (.cells cur 30 (0, 0)) → (.slice vo k vc : Value).ownBlock ≠ some b := fun b cur hb e => by
            obtain ⟨_, ⟨e1, _⟩ | ⟨g', cap, cur', e1, _, hh, _⟩⟩ := hoi.row
            · rw [e1] at e; simp [Value.ownBlock] at e
            · rw [e1] at e
              simp only [Value.ownBlock, Option.some.injEq] at e
              subst e
              rw [hb] at hh
              simp at hh
          refine ⟨M2, ⟨⟨hoi.fp.le.trans q1, q2, hoi.fp.below, fun b hb => (q4 b hb).elim (hoi.fp.new b) (fun g => .inr (row_lt hoi.row g).1)⟩, World.ownsRow_nil _ _ _ _, by simp [Value.ownBlock], Le.refl _, ⟨hfz _ hoi.box.1 (hne _ _ hoi.blk), hoi.box.2⟩, hoi.blk, hoi.b0, hoi.b1, hfz _ hoi.fz.1 (hne _ _ hoi.b0), hfz _ hoi.fz.2 (hne _ _ hoi.b1)⟩, hoi.le.trans q1, us, ?_, ?_, fun y hy => gtold.PeerM.le (hok y hy) q1⟩
          · rw [hus, HPn.out.1, ← List.length_map (f := (·.p)), eps, List.take_length]
          · rw [hlk]; exact q3
        clear hoi hus hok HQ HPc HSrc HI36
        obtain ⟨M2, hoi2, hle12, us2, hus2, hpv2⟩ := H1.out
        have HP2 : Hid (Le M1 M2 ∧ us2.map (·.p) = c.peers ∧ gtold.PeersV M2 (.slice vo k vc) us2) := ⟨hle12, hus2, hpv2⟩
        have H20 : Hid (LM w M c #[.slice po k px, .slice no nn nx, .slice co cn cx, .bool c.conflict] bx (.slice vo k vc) o cc M2 0 (.slice none 0 0) wr) := ⟨M2, [], hoi2, by simp, by simp⟩
        have HNn : Hid (nn = ms.length ∧ nx ≤ maxLen ∧ nn ≤ nx) := by
          obtain ⟨⟨ao, cap, e1, e2, e3, _⟩, _⟩ := hmv
          simp only [Value.slice.injEq] at e1
          obtain ⟨_, rfl, rfl⟩ := e1
          exact ⟨rfl, e3, e2⟩
        have hnn2 : nn ≤ 200 := by rw [HNn.out.1, ← List.length_map (f := (·.m)), ems]; exact hn200
        have hnx := HNn.out.2.1
        have hnx2 := HNn.out.2.2
        unfold maxLen at hnx
        have HMc : Hid (∀ q, q < nn → ∃ (x : MV) (pb off : Nat) (lo : Option Addr) (L lc : Nat), ms[q]? = some x ∧ no = some ⟨pb, off, none⟩ ∧ x.lv = .slice lo L lc ∧ L = x.m.log.length ∧ L ≤ 1000 ∧ RecsM M (.slice lo L lc) x.m.log ∧ c.net[q]? = some x.m ∧ (∀ M' wx, Le M M' → In M' wx → ∀ j v, ([.int .i64 x.m.kind, .int .i64 x.m.frm, .int .i64 x.m.to, .int .i64 x.m.term, .int .i64 x.m.a, .int .i64 x.m.b, .int .i64 x.m.c, .bool x.m.ok, .slice lo L lc] : List Value)[j]? = some v → wx.cell? ⟨pb, off + q * 9 + j, none⟩ = some v)) := fun q hq => by
          obtain ⟨x, hx⟩ : ∃ x, ms[q]? = some x := ⟨_, List.getElem?_eq_getElem (by have := HNn.out.1; omega)⟩
          have hxm : x ∈ ms := List.mem_iff_getElem?.2 ⟨q, hx⟩
          obtain ⟨hp1, hp2⟩ := hmv
          have q1 := hp2 x hxm
          have hlx := hml x.m (by rw [← ems]; exact List.mem_map.2 ⟨x, hxm, rfl⟩)
          obtain ⟨lo, lc, e1⟩ := recsM_slice q1
          obtain ⟨pao, cap, e5, g1, g2, g3, g4, g5⟩ := hp1
          obtain ⟨pb, off, e6, hc⟩ := g5 (by have := HNn.out.1; omega)
          simp only [Value.slice.injEq] at e5
          refine ⟨x, pb, off, lo, _, lc, hx, e5.1.trans e6, e1, rfl, hlx, by rw [← e1]; exact q1, by rw [← ems, List.getElem?_map, hx]; rfl, fun M' wx hle hIn j v hj => ?_⟩
          have hj' : (msgCells x)[j]? = some v := by
            unfold msgCells
            rw [e1]
            exact hj
          have hj9 : j < 9 := (List.getElem?_eq_some_iff.1 hj').1
          have e7 := flat_get msgCells 9 msgCells_len ms q j x hx hj9
          have := hc _ v (e7.trans hj')
          rw [← Nat.add_assoc] at this
          exact hIn.cell (hle.cell this)
        obtain ⟨i98, g1, g2, g3, g4⟩ := info_parts info70
        have HI98 : Hid (Try.prog.info? 98 = some i98 ∧ i98.zero = some (.agg #[.int .i64 0, .int .i64 0, .int .i64 0, .int .i64 0, .int .i64 0, .int .i64 0, .int .i64 0, .bool false, .slice none 0 0]) ∧ i98.size = 9 ∧ i98.bytes = 88) := ⟨g1, g2, g3, g4⟩
        clear g1 g2 g3 g4 hoi2 hle12 hus2 hpv2 H1 hmv
        go_wp2
        go_loopw [6] (fun a wr => ∃ (q : Nat) (uo : Option Addr) (uc : Nat), q ≤ nn ∧ a = .int .i64 q ∧ Hid (LM w M c #[.slice po k px, .slice no nn nx, .slice co cn cx, .bool c.conflict] bx (.slice vo k vc) o cc M2 q (.slice uo q uc) wr)) (fun a _ => nn - (intOf a).toNat)
        case atStart => exact ⟨0, none, 0, Nat.zero_le _, rfl, H20⟩
        case round =>
          clear H20
          obtain ⟨q, uo, uc, hq, rfl, HQ⟩ := hrel
          obtain ⟨M', us, hoi, hus, hok⟩ := HQ.out
          have b01 : wr.cell? ⟨w.heap.size, 1, none⟩ = some (.slice no nn nx) := cell_of hoi.b0 rfl
          by_cases hqn : q < nn
          · have hqnI : (q : Int) < nn := by omega
            obtain ⟨x, pb, off, lo, L, lc, hx, rfl, elv, eL, bL, s1, hcp, hcs⟩ := HMc.out q hqn
            have hM' := hoi.fp.le
            have y0 := hcs M' wr hM' hoi.fp.inn 0 _ rfl
            have y1 := hcs M' wr hM' hoi.fp.inn 1 _ rfl
            have y2 := hcs M' wr hM' hoi.fp.inn 2 _ rfl
            have y3 := hcs M' wr hM' hoi.fp.inn 3 _ rfl
            have y4 := hcs M' wr hM' hoi.fp.inn 4 _ rfl
            have y5 := hcs M' wr hM' hoi.fp.inn 5 _ rfl
            have y6 := hcs M' wr hM' hoi.fp.inn 6 _ rfl
            have y7 := hcs M' wr hM' hoi.fp.inn 7 _ rfl
            have y8 := hcs M' wr hM' hoi.fp.inn 8 _ rfl
            rw [Nat.add_zero] at y0
            obtain ⟨W1, hW1⟩ : ∃ X, wr.alloc (.cells #[.int .i64 x.m.kind, .int .i64 x.m.frm, .int .i64 x.m.to, .int .i64 x.m.term, .int .i64 x.m.a, .int .i64 x.m.b, .int .i64 x.m.c, .bool x.m.ok, .slice lo L lc] 98) = X := ⟨_, rfl⟩
            have rd1 := RD.begin hoi hW1
            obtain ⟨b5, eb5⟩ : ∃ b, wr.heap.size = b := ⟨_, rfl⟩
            rw [eb5] at rd1
            have HA := hide (rd1.log x.m.log lo L lc (s1.le hM') (by omega))
            rw [← eL] at HA
            have t5 := (rd1.cell (j := 8) (u := .slice lo L lc) rfl).1
            have HOk : Hid ((∀ y ∈ us, RecsM M' y.lv y.m.log) ∧ us.map (·.m) = c.net.take q ∧ c.net[q]? = some x.m) := ⟨hok, hus, hcp⟩
            clear hoi hus hok HQ hcs hx hcp s1 hM' rd1 eL elv HMc
            go_wp2_with fail
            refine HA.out.mono ?_
            rintro rr w2 ⟨o5, c5, M4, rfl, hr5, le2, rd2⟩
            obtain ⟨q5, f5⟩ := rd2.cell (j := 8) (u := .slice lo L lc) rfl
            obtain ⟨W3, hW3⟩ : ∃ X, w2.setCell ⟨b5, 8, none⟩ (.slice o5 L c5) = X := ⟨_, rfl⟩
            have rd3 : RD w M M2 98 9 bx #[.slice vo k vc, .slice uo q uc, .slice o c.chosen.length cc, .bool c.conflict] #[.slice po k px, .slice (some ⟨pb, off, none⟩) nn nx, .slice co cn cx, .bool c.conflict] q (.slice uo q uc) (us.flatMap msgCells) b5 #[.int .i64 x.m.kind, .int .i64 x.m.frm, .int .i64 x.m.to, .int .i64 x.m.term, .int .i64 x.m.a, .int .i64 x.m.b, .int .i64 x.m.c, .bool x.m.ok, .slice o5 L c5] M4 W3 := (by have := rd2.set 8 (.slice o5 L c5); rw [hW3] at this; exact this)
            have qb1 := cell_of (i := 1) rd3.oi.blk (v := .slice uo q uc) rfl
            have u0 := (rd3.cell (j := 0) (u := .int .i64 x.m.kind) rfl).1; have u1 := (rd3.cell (j := 1) (u := .int .i64 x.m.frm) rfl).1; have u2 := (rd3.cell (j := 2) (u := .int .i64 x.m.to) rfl).1; have u3 := (rd3.cell (j := 3) (u := .int .i64 x.m.term) rfl).1; have u4 := (rd3.cell (j := 4) (u := .int .i64 x.m.a) rfl).1; have u5 := (rd3.cell (j := 5) (u := .int .i64 x.m.b) rfl).1; have u6 := (rd3.cell (j := 6) (u := .int .i64 x.m.c) rfl).1; have u7 := (rd3.cell (j := 7) (u := .bool x.m.ok) rfl).1; have u8 := (rd3.cell (j := 8) (u := .slice o5 L c5) rfl).1
            obtain ⟨Y, hY⟩ : ∃ X, W3.alloc (.cells #[.int .i64 x.m.kind, .int .i64 x.m.frm, .int .i64 x.m.to, .int .i64 x.m.term, .int .i64 x.m.a, .int .i64 x.m.b, .int .i64 x.m.c, .bool x.m.ok, .slice o5 L c5] 98) = X := ⟨_, rfl⟩
            obtain ⟨z1, z2, z3, z4⟩ := rd3.push (by decide) (pc := [.int .i64 x.m.kind, .int .i64 x.m.frm, .int .i64 x.m.to, .int .i64 x.m.term, .int .i64 x.m.a, .int .i64 x.m.b, .int .i64 x.m.c, .bool x.m.ok, .slice o5 L c5]) hY
            have HZ1 := hide z1
            have HZ2 := hide z2
            have HZ4 := hide z4
            have HR5 := hide hr5
            have HL2 := hide le2
            clear z1 z2 z4 rd2 rd3 hr5 le2
            go_wp2_with (at_builtin; have _h := HZ4; refine wpList_append_lies _ rfl _ _ _ rfl w.heap.size 98 i98 (.agg #[.int .i64 0, .int .i64 0, .int .i64 0, .int .i64 0, .int .i64 0, .int .i64 0, .int .i64 0, .bool false, .slice none 0 0]) 9 88 Try.underlying27 HI98.out.1 HI98.out.2.1 HI98.out.2.2.1 HI98.out.2.2.2 rfl (by omega) _ q (us.flatMap msgCells) rfl HZ1.out ⟨W3.heap.size, 0, none⟩ 1 1 [.int .i64 x.m.kind, .int .i64 x.m.frm, .int .i64 x.m.to, .int .i64 x.m.term, .int .i64 x.m.a, .int .i64 x.m.b, .int .i64 x.m.c, .bool x.m.ok, .slice o5 L c5] rfl rfl HZ2.out (by intro u hu; simp only [List.mem_cons, List.not_mem_nil, or_false] at hu; rcases hu with rfl | rfl | rfl | rfl | rfl | rfl | rfl | rfl | rfl <;> rfl) (by omega) (by unfold maxLen; omega) (by omega) z3 Y.heap.size rfl ?_; intro g cp w10 p1 p2 p3 p4; obtain ⟨n1, n2⟩ := HZ4.out g cp w10 p1 p2 p3; have n3 := cell_of (i := 1) n1 (v := .slice uo q uc) rfl; have n4 := frozen_of n1 1; have HN := hide (n2 1); clear _h p1 p2 p3 p4 n1 n2 HZ1 HZ2 HZ4 hY qb1 u0 u1 u2 u3 u4 u5 u6 u7 u8)
            have HF : Hid (LM w M c #[.slice po k px, .slice (some ⟨pb, off, none⟩) nn nx, .slice co cn cx, .bool c.conflict] bx (.slice vo k vc) o cc M2 (q + 1) (.slice (some ⟨g, 0, none⟩) (q + 1) cp) (w10.setCell ⟨bx, 1, none⟩ (.slice (some ⟨g, 0, none⟩) (q + 1) cp))) := by
              obtain ⟨k1, k2, k3⟩ := HOk.out
              refine ⟨M4, us ++ [⟨x.m, .slice o5 L c5⟩], ?_, ?_, ?_⟩
              · have e9 : (us ++ [(⟨x.m, .slice o5 L c5⟩ : MV)]).flatMap msgCells = us.flatMap msgCells ++ [.int .i64 x.m.kind, .int .i64 x.m.frm, .int .i64 x.m.to, .int .i64 x.m.term, .int .i64 x.m.a, .int .i64 x.m.b, .int .i64 x.m.c, .bool x.m.ok, .slice o5 L c5] := by rw [List.flatMap_append]; rfl
                rw [e9]
                exact HN.out
              · rw [List.map_append, k2, List.take_add_one, k3]
                rfl
              · intro y hy
                rcases List.mem_append.1 hy with hy | hy
                · exact (k1 y hy).le HL2.out
                · simp only [List.mem_singleton] at hy
                  subst hy
                  exact HR5.out
            clear HN HR5 HL2 HOk
            go_roundw
            case rel => exact ⟨q + 1, _, cp, by omega, by go_num, HF⟩
            case measure => simp [intOf]; omega
          · have hqnI : ¬ (q : Int) < nn := by omega
            obtain rfl : q = nn := by omega
            have HFin : Hid (∀ wf, Chg (fun b => b = w.heap.size + 1) wr wf → gt8.CluE w M c (.returned (.agg #[.slice vo k vc, .slice uo q uc, .slice o c.chosen.length cc, .bool c.conflict])) wf) := fun wf hch2 => by
              obtain ⟨M3, q1, q2, q3, q4⟩ := RowM.freeze hoi.row hoi.fp.inn (fun g hg => hoi.free g hg)
              have hlk : us.length = q := by
                have := congrArg List.length hus
                rw [List.length_map, List.length_take, ← ems, List.length_map, ← HNn.out.1] at this
                omega
              have hb1M : M3 (w.heap.size + 1) = none := by
                cases e2 : M3 (w.heap.size + 1) with
                | none => rfl
                | some z =>
                  rcases q4 _ (by rw [e2]; simp) with g | g
                  · exact absurd hoi.fz.2 g
                  · exfalso
                    obtain ⟨_, ⟨e1, _⟩ | ⟨g', cap, cur', e1, _, hh, _⟩⟩ := hoi.row
                    · rw [e1] at g; simp [Value.ownBlock] at g
                    · rw [e1] at g
                      simp only [Value.ownBlock, Option.some.injEq] at g
                      subst g
                      rw [hoi.b1] at hh
                      simp at hh
              refine ⟨_, _, _, _, _, _, _, _, _, rfl, M3, ⟨hoi.fp.le.trans q1, fun b z hz => ?_, hoi.fp.below.trans ⟨hch2.os, hch2.tape, hch2.output, hch2.size, fun b hb => hch2.block b (by have := hoi.fp.below.size; omega) (by omega)⟩, fun b hb => (q4 b hb).elim (hoi.fp.new b) (fun g => .inr (row_lt hoi.row g).1)⟩, us2, us, HP2.out.2.1, ⟨HP2.out.2.2.1.le (hoi.le.trans q1), fun y hy => gtold.PeerM.le (HP2.out.2.2.2 y hy) (hoi.le.trans q1)⟩, ?_, ⟨by rw [hlk]; exact q3, fun y hy => (hok y hy).le q1⟩, HRC.out.le (HP2.out.1.trans (hoi.le.trans q1))⟩
              · have hz2 := q2 b z hz
                rw [hch2.block b (Array.getElem?_eq_some_iff.1 hz2).1 (fun e => by rw [e, hb1M] at hz; cases hz)]
                exact hz2
              · rw [hus, HNn.out.1, ← List.length_map (f := (·.m)), ems, List.take_length]
            have x0 := cell_of (i := 0) hoi.blk (v := .slice vo k vc) rfl
            have x1 := cell_of (i := 1) hoi.blk (v := .slice uo q uc) rfl
            have x2 := cell_of (i := 2) hoi.blk (v := .slice o c.chosen.length cc) rfl
            have x3 := cell_of (i := 3) hoi.blk (v := .bool c.conflict) rfl
            have z0 := cell_of (i := 0) hoi.b1 (v := .slice none 0 0) rfl
            have z1 := cell_of (i := 1) hoi.b1 (v := .slice none 0 0) rfl
            have z2 := cell_of (i := 2) hoi.b1 (v := .slice none 0 0) rfl
            have z3 := cell_of (i := 3) hoi.b1 (v := .bool false) rfl
            have y0 := frozen_of hoi.b1 0
            have y1 := frozen_of hoi.b1 1
            have y2 := frozen_of hoi.b1 2
            have y3 := frozen_of hoi.b1 3
            clear hoi hus hok HQ HMc HI98 HP2
            go_wp2
            refine bodyPost_ret (v := .agg #[.slice vo k vc, .slice uo q uc, .slice o c.chosen.length cc, .bool c.conflict]) (by simp [results, Try.results24, go_sem, z0, z1, z2, z3, eCL]) rfl (HFin.out _ ?_)
            exact (((stake.chgS _).trans (stake.chgS _)).trans (stake.chgS _)).trans (stake.chgS _)
end Go.Proofs.Ytklkglbimjajnaa.sow
namespace Go.Proofs.Ytklkglbimjajnaa.scr
open Raft mem srun ssend sdown ssmall scopy srecs sapp ssame schos schosen scom sgrow sin sel stk slog sap0 sdl0
variable {F : Nat → Option Obj}
theorem Run.refar {F F' : Nat → Option Obj} {w : World} {M : Fz} {base d P pc : Nat} {c : Cl} {us : List PV} {ns : List MV} {nv : Value} {cs : List RV} {cv : Value} (h : Run (TS F) w M base d P pc c us ns nv cs cv) (hf : ∀ b o, F' b = some o → w.heap[b]? = some o ∧ M b = none ∧ ¬ Mine d P us cv b) : Run (TS F') w M base d P pc c us ns nv cs cv :=
  ⟨h.inn, h.blk, h.row, h.cap, h.peers, h.logs, h.votes, h.next, h.mat, h.lone, h.free, h.net, h.nets, h.chos, h.chosen, h.data, h.low, h.apart, hf⟩
def noF : Nat → Option Obj := fun _ => none
def SI (W : World) (M : Fz) (d P pc : Nat) (c : Cl) (ks : List Int) (k : Nat) (v : Value) (wr : World) : Prop := ∃ (M' : Fz) (us : List PV) (ns : List MV) (nv : Value) (cs : List RV) (cv : Value), Le M M' ∧ Below W.heap.size W wr ∧ Run (TS noF) wr M' W.heap.size d P pc c us ns nv cs cv ∧ (∀ b, M' b ≠ none → M b ≠ none ∨ W.heap.size ≤ b) ∧ wr.ownsRow W.heap.size 3 1 v k (crun.ints ks) ∧ ∀ g, v.ownBlock = some g → M' g = none ∧ ¬ Mine d P us cv g
theorem SI.below {W : World} {M : Fz} {d P pc : Nat} {c : Cl} {ks : List Int} {k : Nat} {v : Value} {wr : World} (h : SI W M d P pc c ks k v wr) : Below W.heap.size W wr := by
  obtain ⟨M', us, ns, nv, cs, cv, a1, a2, a3⟩ := h
  exact a2
theorem SI.step {W : World} {M : Fz} {d P pc : Nat} {c : Cl} {ks : List Int} {k : Nat} {so : Option Addr} {sn sc : Nat} {wr : World} (h : SI W M d P pc c ks k (.slice so sn sc) wr) {n : Nat} (h1 : 1 ≤ n) (h7 : n ≤ 7) (hg : Raft.Good n c) (e : Ev) (eo : Option Addr) (el ec : Nat) (hd : BytesM M (.slice eo el ec) e.data) :
    Calls Try.prog 23 #[.pointer (some ⟨d, 0, none⟩), .agg #[.int .i64 e.kind, .int .i64 e.n, .slice eo el ec]] wr fun r w5 => ∃ Y, r = .returned (.int .i64 (c.event e).2) ∧ w5.alloc (.cells #[.int .i64 (c.event e).2] 3) = Y ∧
      Hid (∃ ys, Y.ownsRow W.heap.size 3 1 (.slice so sn sc) k ys ∧ (∀ j u, ([.int .i64 (c.event e).2] : List Value)[j]? = some u → Y.cell? ((⟨w5.heap.size, 0, none⟩ : Addr).add j) = some u) ∧ W.heap.size ≤ Y.heap.size ∧
        ∀ g cap w', w'.ownsRow W.heap.size 3 1 (.slice (some ⟨g, 0, none⟩) (k + 1) cap) (k + 1) (ys ++ [.int .i64 (c.event e).2]) → Y.grownBy w' (Value.slice so sn sc).ownBlock → ((Value.slice so sn sc).ownBlock = some g ∨ g = Y.heap.size) → SI W M d P pc (c.event e).1 (ks ++ [(c.event e).2]) (k + 1) (.slice (some ⟨g, 0, none⟩) (k + 1) cap) w') := by
  obtain ⟨M', us, ns, nv, cs, cv, a1, a2, a3, a4, a5, a6⟩ := h
  have hF := Run.refar (F' := fun b => if (Value.slice so sn sc).ownBlock = some b then wr.heap[b]? else none) a3 (fun b o hb => by
    have hb : (if (Value.slice so sn sc).ownBlock = some b then wr.heap[b]? else none) = some o := hb
    split at hb
    · next q => exact ⟨hb, (a6 b q).1, (a6 b q).2⟩
    · cases hb)
  refine (sev7.event_any wr M' W.heap.size d P pc c us ns nv cs cv hF e eo el ec n h1 h7 hg (hd.le a1)).mono ?_
  rintro r w5 ⟨rfl, M2, us2, ns2, nv2, cs2, cv2, b1, b2, b3, b4⟩
  obtain ⟨Y, hY⟩ : ∃ Y, w5.alloc (.cells #[.int .i64 (c.event e).2] 3) = Y := ⟨_, rfl⟩
  have bY : Below w5.heap.size w5 Y := by rw [← hY]; exact more (Below.refl _ _) _
  have hBY : Y.heap[w5.heap.size]? = some (.cells #[.int .i64 (c.event e).2] 3 (0, 0)) := by rw [← hY]; exact heap_alloc_new w5 _
  have old : ∀ g, (Value.slice so sn sc).ownBlock = some g → g < w5.heap.size ∧ M2 g = none ∧ ¬ Mine d P us2 cv2 g ∧ Y.heap[g]? = wr.heap[g]? := fun g hg' => by
    obtain ⟨o, ho⟩ : ∃ o, wr.heap[g]? = some o := ⟨_, Array.getElem?_eq_getElem (row_lt a5 hg').2⟩
    have q := b3.far g o (by show (if (Value.slice so sn sc).ownBlock = some g then wr.heap[g]? else none) = some o; rw [if_pos hg']; exact ho)
    have hl := (Array.getElem?_eq_some_iff.1 q.1).1
    exact ⟨hl, q.2.1, q.2.2, (bY.block g hl).trans (q.1.trans ho.symm)⟩
  have hdom : ∀ b, M2 b ≠ none → M b ≠ none ∨ W.heap.size ≤ b := fun b hb => (b4 b hb).elim (a4 b) .inr
  have a2s := a2.size
  refine ⟨Y, rfl, hY, crun.ints ks, row_kept a5 (fun g hg' => (old g hg').2.2.2), ?_, ?_, ?_⟩
  · intro j u hu
    rw [addr_add, Nat.zero_add]
    exact cell_of hBY (by simpa using hu)
  · have := b2.size; have := bY.size; have := (scom.Run.base_le b3); omega
  · intro g cap w' p1 p2 p3
    have hR5 : Run (TS noF) Y M2 W.heap.size d P pc (c.event e).1 us2 ns2 nv2 cs2 cv2 := (Run.refar b3 (F' := noF) (fun b o hb => by cases hb)).below bY
    have hrun : Run (TS noF) w' M2 W.heap.size d P pc (c.event e).1 us2 ns2 nv2 cs2 cv2 := hR5.keep (Le.refl _) (hR5.inn.grown p2 (fun q hq => (old q hq).2.1)) (fun b hm => p2.block b (hR5.mine hm) (fun q => (old b q.symm).2.2.1 hm)) hR5.free (fun b o hb => by cases hb)
    have hbl : Below W.heap.size W w' := ((a2.trans b2).trans (bY.mono (scom.Run.base_le b3))).grown p2 (by have := bY.size; have := (scom.Run.base_le b3); omega) (fun q hq => (row_lt a5 hq).1)
    refine ⟨M2, us2, ns2, nv2, cs2, cv2, a1.trans b1, hbl, hrun, hdom, by simpa [crun.ints] using p1, fun g' hg' => ?_⟩
    have e2 : g = g' := by simpa [Value.ownBlock] using hg'
    subst e2
    rcases p3 with p3 | p3
    · exact ⟨(old g p3).2.1, (old g p3).2.2.1⟩
    · exact ⟨hR5.inn.fresh (by omega), fun hm => by have := hR5.mine hm; omega⟩
set_option maxRecDepth 20000 in
set_option maxHeartbeats 2000000 in
theorem scrun_good (w : World) (M : Fz) (hI : In M w) (n : Nat) (h1 : 1 ≤ n) (h7 : n ≤ 7) (vo : Option Addr) (vn vc : Nat) (us : List crun.EV) (hv : crun.EvsV M (.slice vo vn vc) us) (hl : us.length ≤ 300) :
    Calls Try.prog 11 #[.int .i64 n, .slice vo vn vc] w fun r w' => crun.RunE w M ((Cl.begin n).run (us.map (·.e))).1 ((Cl.begin n).run (us.map (·.e))).2 r w' := by
  obtain ⟨W, hW⟩ : ∃ W, w.alloc (.cells #[.slice none 0 0, .slice none 0 0, .slice none 0 0, .bool false] 30) = W := ⟨_, rfl⟩
  have bW : Below w.heap.size w W := by rw [← hW]; exact more (Below.refl _ _) _
  have sW : W.heap.size = w.heap.size + 1 := by rw [← hW]; exact World.size_alloc ..
  have hbx : W.heap[w.heap.size]? = some (.cells #[.slice none 0 0, .slice none 0 0, .slice none 0 0, .bool false] 30 (0, 0)) := by rw [← hW]; exact heap_alloc_new w _
  have hIW : In M W := hI.below bW
  obtain ⟨⟨vo', vc', ev, hvc1, hvc2, hvl, hvn, hve⟩, hvb⟩ := hv
  obtain ⟨rfl, rfl, rfl⟩ : vo' = vo ∧ us.length = vn ∧ vc' = vc := by simp only [Value.slice.injEq] at ev; exact ⟨ev.1.symm, ev.2.1.symm, ev.2.2.symm⟩
  obtain ⟨L, eL⟩ : ∃ L, us.length = L := ⟨_, rfl⟩
  obtain ⟨es, ees⟩ : ∃ es, us.map (·.e) = es := ⟨_, rfl⟩
  have eLs : es.length = L := by rw [← ees, List.length_map, eL]
  rw [eL, ees]
  have HNew : Hid (Calls Try.prog 22 #[.int .i64 n] W fun r w1 => ∃ d P pc X, r = .returned (.pointer (some ⟨d, 0, none⟩)) ∧ w1.alloc (.cells #[] 3) = X ∧ Hid (SI W M d P pc (Cl.begin n) [] 0 (.slice (some ⟨w1.heap.size, 0, none⟩) 0 0) X)) := by
    refine (scl.cluster_any (F := noF) W M hIW n h1 h7 (fun b o hb => by cases hb)).mono ?_
    rintro r w1 ⟨d, P, pc, us1, rfl, hr, hb⟩
    obtain ⟨X, hX⟩ : ∃ X, w1.alloc (.cells #[] 3) = X := ⟨_, rfl⟩
    have bX : Below w1.heap.size w1 X := by rw [← hX]; exact more (Below.refl _ _) _
    refine ⟨d, P, pc, X, rfl, hX, M, us1, [], _, [], _, Le.refl _, hb.trans (bX.mono hb.size), hr.below bX, fun b hb' => .inl hb', ⟨rfl, .inr ⟨w1.heap.size, 0, #[], rfl, hb.size, by rw [← hX]; exact heap_alloc_new w1 _, Nat.le_refl _, by simp [maxLen], by simp, by simp [crun.ints]⟩⟩, fun g hg => ?_⟩
    have e2 : w1.heap.size = g := by simpa [Value.ownBlock] using hg
    subst e2
    exact ⟨hr.inn.fresh (Nat.le_refl _), fun hm => by have := hr.mine hm; omega⟩
  have HCell : Hid (∀ k, k < L → ∃ eb off x eo el ec, vo' = some ⟨eb, off, none⟩ ∧ us[k]? = some x ∧ x.dv = .slice eo el ec ∧ BytesM M (.slice eo el ec) x.e.data ∧ es[k]? = some x.e ∧ ∀ wr, Below W.heap.size W wr → (wr.cell? ⟨eb, off + k * 3, none⟩ = some (.int .i64 x.e.kind) ∧ wr.cell? ⟨eb, off + k * 3 + 1, none⟩ = some (.int .i64 x.e.n) ∧ wr.cell? ⟨eb, off + k * 3 + 2, none⟩ = some (.slice eo el ec))) := fun k hk => by
    obtain ⟨x, hx⟩ : ∃ x, us[k]? = some x := ⟨_, List.getElem?_eq_getElem (by omega)⟩
    have hbx := hvb x (List.mem_of_getElem? hx)
    obtain ⟨eb, off, rfl, hc⟩ := hve (by omega)
    obtain ⟨⟨eo, ec, edv, _⟩, _⟩ := id hbx
    have hf := fun i hi => flat_get crun.evCells 3 (fun _ => rfl) us k i x hx hi
    have z0 := hc (k * 3 + 0) (.int .i64 x.e.kind) (by rw [hf 0 (by decide)]; rfl)
    have z1 := hc (k * 3 + 1) (.int .i64 x.e.n) (by rw [hf 1 (by decide)]; rfl)
    have z2 := hc (k * 3 + 2) x.dv (by rw [hf 2 (by decide)]; rfl)
    rw [edv] at z2
    exact ⟨eb, off, x, eo, _, ec, rfl, hx, edv, edv ▸ hbx, by rw [← ees, List.getElem?_map, hx]; rfl, fun wr hb => ⟨(hIW.below hb).cell z0, (hIW.below hb).cell z1, (hIW.below hb).cell z2⟩⟩
  have HG : Hid (∀ k, Raft.Good n ((Cl.begin n).run (es.take k)).1) := fun k => crun.good_run _ _ (Raft.Good.begin n)
  have HTk : Hid (∀ k e, es[k]? = some e → (Cl.begin n).run (es.take (k + 1)) = ((((Cl.begin n).run (es.take k)).1.event e).1, ((Cl.begin n).run (es.take k)).2 ++ [(((Cl.begin n).run (es.take k)).1.event e).2])) := fun k e h => crun.run_take es k e h _
  have HB : Hid (Bd ((Cl.begin n).run es).1 ∧ Raft.LB n ((Cl.begin n).run es).1) := ⟨(crun.good_run _ _ (Raft.Good.begin n)).1, crun.lb_run _ _ (Raft.LB.begin n)⟩
  obtain ⟨C, eC⟩ : ∃ C, ((Cl.begin n).run es).1 = C := ⟨_, rfl⟩
  obtain ⟨K, eK⟩ : ∃ K, ((Cl.begin n).run es).2 = K := ⟨_, rfl⟩
  have hKL : K.length = L := by rw [← eK, crun.run_len, eLs]
  have HEnd : Hid (∀ d P pc v wr, SI W M d P pc ((Cl.begin n).run (es.take L)).1 ((Cl.begin n).run (es.take L)).2 L v wr → SI W M d P pc C K L v wr) := fun d P pc v wr h => by rw [← eLs, List.take_length, eC, eK, eLs] at h; exact h
  rw [eC] at HB
  rw [eC, eK]
  have HOwn : Hid (∀ d P pc so sc wr, SI W M d P pc C K L (.slice so L sc) wr → ∃ (po : Option Addr) (pn px : Nat) (no : Option Addr) (nn nx : Nat) (co : Option Addr) (cn cx : Nat), wr.heap[d]? = some (.cells #[.slice po pn px, .slice no nn nx, .slice co cn cx, .bool C.conflict] 65 (0, 0)) ∧
      Hid (Calls Try.prog 24 #[.agg #[.slice po pn px, .slice no nn nx, .slice co cn cx, .bool C.conflict]] wr fun r w5 => ∃ (p1 : Option Addr) (p2 p3 : Nat) (n1 : Option Addr) (n2 n3 : Nat) (c1 : Option Addr) (c2 c3 : Nat), r = .returned (.agg #[.slice p1 p2 p3, .slice n1 n2 n3, .slice c1 c2 c3, .bool C.conflict]) ∧ w5.heap[w.heap.size]? = some (.cells #[.slice none 0 0, .slice none 0 0, .slice none 0 0, .bool false] 30 (0, 0)) ∧ Hid (crun.RunE w M C K (.returned (.tuple #[.agg #[.slice p1 p2 p3, .slice n1 n2 n3, .slice c1 c2 c3, .bool C.conflict], .slice so L sc, .int .i64 0])) (ndw.sets w5 w.heap.size [(0, .slice p1 p2 p3), (1, .slice n1 n2 n3), (2, .slice c1 c2 c3), (3, .bool C.conflict)])))) := fun d P pc so sc wr h => by
    obtain ⟨M', us1, ns, nv, cs, cv, a1, a2, a3, a4, a5, a6⟩ := h
    obtain ⟨M3, f1, f2, f3, f4, f5⟩ := sow0.Run.frozen a3
    obtain ⟨M4, q1, q2, q3, q4⟩ := RowM.freeze a5 f2 (fun g hg => f5 g (a6 g hg).1 (fun hm => (a6 g hg).2 (.inr hm)))
    obtain ⟨ps, ms, e1, e2, e3, e4, e5⟩ := f3
    obtain ⟨no, nx, rfl, _⟩ := id e4.1
    obtain ⟨_, _, ⟨co, cx, rfl, _⟩, _⟩ := id e5
    refine ⟨_, _, _, no, _, nx, co, _, cx, a3.blk, ?_⟩
    have hmem : ∀ p ∈ C.peers, ∃ k, C.at k = p := fun p hp => by
      obtain ⟨k, hk⟩ := List.getElem?_of_mem hp
      exact ⟨k, by unfold Cl.at; rw [List.getD_eq_getElem?_getD, hk]; rfl⟩
    refine (sow.own_any wr M4 q2 C _ _ _ no _ nx co _ cx ⟨ps, ms, e1, ⟨e2.1.le q1, fun x hx => gtold.PeerM.le (e2.2 x hx) q1⟩, e3, e4.le q1, e5.le q1⟩ (by rw [HB.out.2.len]; exact h7) HB.out.1.size (Nat.le_trans HB.out.1.chosen (by decide)) (fun p hp => ?_) (fun m hm => ?_)).mono ?_
    · obtain ⟨k, rfl⟩ := hmem p hp
      have g1 := (HB.out.1.peers k).log
      have g2 := HB.out.2.peers k
      have g3 := g2.votes
      have g4 := g2.next
      have g5 := g2.mat
      exact ⟨by omega, by omega, by omega, by omega⟩
    · have := (HB.out.1.net m hm).a
      omega
    rintro r w5 ⟨p1, p2, p3, n1, n2, n3, c1, c2, c3, rfl, M5, g5, hC⟩
    have b5 : Below W.heap.size W w5 := a2.trans (g5.below.mono a2.size)
    have hw9 : w5.heap[w.heap.size]? = some (.cells #[.slice none 0 0, .slice none 0 0, .slice none 0 0, .bool false] 30 (0, 0)) := (b5.block _ (by omega)).trans hbx
    have hnew : ∀ b, M5 b ≠ none → M b ≠ none ∨ W.heap.size ≤ b := fun b hb => by
      rcases g5.new b hb with g | g
      · rcases q4 b g with g' | g'
        · rcases f4 b g' with g'' | g''
          · exact a4 b g''
          · exact .inr g''
        · exact .inr (row_lt a5 g').1
      · exact .inr (Nat.le_trans a2.size g)
    refine ⟨p1, p2, p3, n1, n2, n3, c1, c2, c3, rfl, hw9, p1, p2, p3, n1, n2, n3, c1, c2, c3, so, sc, by rw [hKL], M5, ⟨((a1.trans f1).trans q1).trans g5.le, ?_, gt8.sets_belowB (Nat.le_refl _) _ _ (bW.trans (b5.mono bW.size)), fun b hb => (hnew b hb).imp id (fun h => by omega)⟩, hC, by rw [hKL]; exact q3.le g5.le⟩
    intro x o hx
    refine (ndw.sets_ne _ w5 ?_).trans (g5.inn x o hx)
    rintro rfl
    rcases hnew _ (by rw [hx]; simp) with g' | g'
    · exact g' (hI.fresh (Nat.le_refl _))
    · omega
  obtain ⟨i0, hii, hz0, hz1, hz2⟩ := info_parts crun.info3
  have HI3 : Hid (Try.prog.info? 3 = some i0 ∧ i0.zero = some (.int .i64 0) ∧ i0.size = 1 ∧ i0.bytes = 8) := ⟨hii, hz0, hz1, hz2⟩
  have hL1 : ¬ ((4096 : Int) < L) := by omega
  have hL2 : ¬ ((300 : Int) < L) := by omega
  have hn1 : ¬ ((n : Int) < 1) := by omega
  have hn2 : ¬ ((7 : Int) < n) := by omega
  clear hii hz0 hz1 hz2 hve hvb hvn hvl hvc1 hIW hI ees eLs eC eK hKL HB hl ev eL bW sW hbx
  go_enter Try.func11, Try.ntmps11
  go_wp2_with (go_at_call 22; refine HNew.out.mono ?_; rintro rr w1 ⟨d, P, pc, X, rfl, hX, HC1⟩)
  go_loopw [8, 9] (fun v i wr => ∃ (k : Nat) (so : Option Addr) (sc : Nat), k ≤ L ∧ v = .slice so k sc ∧ i = .int .i64 k ∧ Hid (SI W M d P pc ((Cl.begin n).run (es.take k)).1 ((Cl.begin n).run (es.take k)).2 k v wr)) (fun _ i _ => L - (intOf i).toNat)
  case atStart => exact ⟨0, _, _, Nat.zero_le _, rfl, rfl, HC1⟩
  case round =>
    obtain ⟨k, so, sc, hk, rfl, rfl, HR⟩ := hrel
    by_cases hlt : k < L
    · have hltI : (k : Int) < L := by omega
      obtain ⟨eb, off, x, eo, el, ec, rfl, hx, edv, hbt, hxe, hfar⟩ := HCell.out k hlt
      obtain ⟨q0, q1, q2⟩ := hfar wr HR.out.below
      have HJ := hide (SI.step HR.out h1 h7 (HG.out k) x.e eo el ec hbt)
      have HK1 := hide (HTk.out k x.e hxe)
      obtain ⟨CD, eCD⟩ : ∃ CD, (((Cl.begin n).run (es.take k)).1.event x.e).2 = CD := ⟨_, rfl⟩
      rw [eCD] at HJ HK1
      clear hx edv hbt hxe hfar HCell HNew HG HTk HEnd HOwn eCD
      go_wp2_with (first
        | (go_at_call 23; refine HJ.out.mono ?_; rintro rr w5 ⟨Y, rfl, hY, HE⟩)
        | (at_builtin; obtain ⟨ys, y1, y2, y3, y4⟩ := HE.out; refine wpList_append_lies _ rfl _ _ 31 rfl W.heap.size 3 i0 (.int .i64 0) 1 8 Try.underlying31 HI3.out.1 HI3.out.2.1 HI3.out.2.2.1 HI3.out.2.2.2 rfl (by decide) _ k ys rfl y1 ⟨w5.heap.size, 0, none⟩ 1 1 [.int .i64 CD] rfl rfl y2 (fun u' hu' => by simp only [List.mem_cons, List.not_mem_nil, or_false] at hu'; rcases hu' with rfl; rfl) (by decide) (by unfold maxLen; omega) (by omega) y3 _ rfl ?_; intro g2 cap2 w2 z1 z2 z3 z4; have HN := hide (y4 g2 cap2 w2 z1 z2 z3); clear z1 z2 z3 z4 y1 y2 y3 y4))
      go_roundw
      case rel => exact ⟨k + 1, _, _, by omega, rfl, by go_num, by rw [HK1.out]; exact HN⟩
      case measure => simp [intOf]; omega
    · have hlt2 : ¬ (k : Int) < L := by omega
      obtain rfl : k = L := by omega
      obtain ⟨po, pn, px, no, nn, nx, co, cn, cx, hbd, HE0⟩ := HOwn.out d P pc so sc wr (HEnd.out _ _ _ _ _ HR.out)
      have u0 := cell_of (i := 0) hbd (v := .slice po pn px) rfl
      have u1 := cell_of (i := 1) hbd (v := .slice no nn nx) rfl
      have u2 := cell_of (i := 2) hbd (v := .slice co cn cx) rfl
      have u3 := cell_of (i := 3) hbd (v := .bool C.conflict) rfl
      clear HCell HNew HG HTk HEnd HOwn hbd
      go_wp2_with (go_at_call 24; refine HE0.out.mono ?_; rintro rr w5 ⟨p1, p2, p3, n1, n2, n3, c1, c2, c3, rfl, hw9, HE⟩; have z0 := cell_of (i := 0) hw9 (v := .slice none 0 0) rfl; have z1 := cell_of (i := 1) hw9 (v := .slice none 0 0) rfl; have z2 := cell_of (i := 2) hw9 (v := .slice none 0 0) rfl; have z3 := cell_of (i := 3) hw9 (v := .bool false) rfl; have f0 := frozen_of hw9 0; have f1 := frozen_of hw9 1; have f2 := frozen_of hw9 2; have f3 := frozen_of hw9 3; have HW9 := hide hw9; clear hw9)
      obtain ⟨WF, hWF⟩ : ∃ WF, ndw.sets w5 w.heap.size [(0, .slice p1 p2 p3), (1, .slice n1 n2 n3), (2, .slice c1 c2 c3), (3, .bool C.conflict)] = WF := ⟨_, rfl⟩
      have hblk : WF.heap[w.heap.size]? = some (.cells #[.slice p1 p2 p3, .slice n1 n2 n3, .slice c1 c2 c3, .bool C.conflict] 30 (0, 0)) := by
        rw [← hWF]
        have q2 := ndw.sets_at [(0, .slice p1 p2 p3), (1, .slice n1 n2 n3), (2, .slice c1 c2 c3), (3, .bool C.conflict)] HW9.out
        have e : ndw.setsA #[.slice none 0 0, .slice none 0 0, .slice none 0 0, .bool false] [(0, .slice p1 p2 p3), (1, .slice n1 n2 n3), (2, .slice c1 c2 c3), (3, .bool C.conflict)] = #[.slice p1 p2 p3, .slice n1 n2 n3, .slice c1 c2 c3, .bool C.conflict] := by simp [ndw.setsA]
        rw [e] at q2
        exact q2
      have k0 := cell_of (i := 0) hblk (v := .slice p1 p2 p3) rfl
      have k1 := cell_of (i := 1) hblk (v := .slice n1 n2 n3) rfl
      have k2 := cell_of (i := 2) hblk (v := .slice c1 c2 c3) rfl
      have k3 := cell_of (i := 3) hblk (v := .bool C.conflict) rfl
      have HT2 := HE.out
      rw [hWF] at HT2
      simp only [ndw.sets] at hWF
      rw [hWF]
      refine bodyPost_ret (v := .tuple #[.agg #[.slice p1 p2 p3, .slice n1 n2 n3, .slice c1 c2 c3, .bool C.conflict], .slice so k sc, .int .i64 0]) ?_ rfl HT2
      simp [results, Try.results11, go_sem, k0, k1, k2, k3]
end Go.Proofs.Ytklkglbimjajnaa.scr
namespace Go.Proofs.Ytklkglbimjajnaa.gw
open Raft mem grp Ytklkglbimjajnaa.look ndw grant stand rows2 clone behind post copy msgs postb ntold gtold gt8 new happen crun evg lg1
theorem EvsV.take {M : Fz} {o : Option Addr} {n c : Nat} {us : List EV} (h : EvsV M (.slice o n c) us) (k : Nat) (hk : k ≤ us.length) : EvsV M (.slice o k c) (us.take k) := by
  obtain ⟨⟨ao, cap, e, h1, h2, h3, h4, h5⟩, hb⟩ := h
  simp only [Value.slice.injEq] at e
  obtain ⟨rfl, rfl, rfl⟩ := e
  have ek : (us.take k).length = k := by simp; omega
  refine ⟨⟨o, c, by rw [ek], by rw [ek]; omega, h2, ?_, fun ho => by have := h4 ho; rw [ek]; omega, fun hp => ?_⟩, fun x hx => hb x (List.mem_of_mem_take hx)⟩
  · have : ∀ l : List EV, (l.flatMap evCells).length = l.length * 3 := fun l => by
      induction l with
      | nil => rfl
      | cons a l ih => simp [ih, evCells]; omega
    rw [this]
  · obtain ⟨b, off, e1, e2⟩ := h5 (by rw [ek] at hp; omega)
    refine ⟨b, off, e1, fun i v hi => e2 i v ?_⟩
    conv => lhs; rw [← List.take_append_drop k us, List.flatMap_append]
    rw [List.getElem?_append_left (List.getElem?_eq_some_iff.1 hi |>.1)]
    exact hi
def RunC (wx : World) (M : Fz) (l : List Rc) (r : Ending) (w' : World) : Prop :=
  ∃ (p1 : Option Addr) (p2 p3 : Nat) (n1 : Option Addr) (n2 n3 : Nat) (c1 : Option Addr) (c3 : Nat) (k1 : Option Addr) (k2 k3 : Nat) (cf : Bool), r = .returned (.tuple #[.agg #[.slice p1 p2 p3, .slice n1 n2 n3, .slice c1 l.length c3, .bool cf], .slice k1 k2 k3, .int .i64 0]) ∧ (l.length ≤ c3 ∧ c3 ≤ 9223372036854775807) ∧ Hid (∃ M', FP wx M w' M' ∧ RecsM M' (.slice c1 l.length c3) l)
theorem RunC.of {wx : World} {M : Fz} {c : Cl} {ks : List Int} {r : Ending} {w' : World} (h : RunE wx M c ks r w') : RunC wx M c.chosen r w' := by
  obtain ⟨p1, p2, p3, n1, n2, n3, c1, c2, c3, k1, k3, rfl, M', f, ⟨ps, us, e1, e2, e3, e4, e5⟩, _⟩ := h
  obtain ⟨rfl, q1, q2⟩ := RecsM.len e5
  exact ⟨p1, p2, p3, n1, n2, n3, c1, c3, k1, _, k3, _, rfl, ⟨q1, q2⟩, M', f, e5⟩
theorem EvsV.le {M M' : Fz} {v : Value} {us : List EV} (h : EvsV M v us) (hl : Le M M') : EvsV M' v us := ⟨h.1.le hl, fun x hx => (h.2 x hx).le hl⟩
def Third (w : World) (l1 l2 : List Rc) (b1 b2 : Nat) (r : Ending) (w5 : World) : Prop :=
  ∃ (p1 : Option Addr) (p2 p3 : Nat) (n1 : Option Addr) (n2 n3 : Nat) (c1 : Option Addr) (c3 : Nat) (k1 : Option Addr) (k2 k3 : Nat) (cf : Bool), r = .returned (.tuple #[.agg #[.slice p1 p2 p3, .slice n1 n2 n3, .slice c1 l2.length c3, .bool cf], .slice k1 k2 k3, .int .i64 0]) ∧
  ∃ W, w5.alloc (.cells #[.slice p1 p2 p3, .slice n1 n2 n3, .slice c1 l2.length c3, .bool cf] 30) = W ∧ ∃ (a1 : Option Addr) (a3 : Nat) (d1 : Option Addr) (d3 : Nat), l2.length ≤ d3 ∧ d3 ≤ 9223372036854775807 ∧
  Hid (∀ wr, Below W.heap.size W wr → wr.cell? ⟨b1, 2, none⟩ = some (.slice a1 l1.length a3) ∧ wr.cell? ⟨b2, 2, none⟩ = some (.slice d1 l2.length d3) ∧ wr.cell? ⟨w5.heap.size, 2, none⟩ = some (.slice c1 l2.length c3) ∧ Below w.heap.size w wr ∧
    Hid (Calls Try.prog 9 #[.slice a1 l1.length a3, .slice d1 l1.length d3] wr fun e w' => e = .returned (.bool true) ∧ ∃ n, w' = wr.drewN n) ∧ Hid (Calls Try.prog 9 #[.slice d1 l2.length d3, .slice c1 l2.length c3] wr fun e w' => e = .returned (.bool true) ∧ ∃ n, w' = wr.drewN n))
def Second (w : World) (l1 l2 : List Rc) (n : Nat) (o : Option Addr) (m c : Nat) (b1 : Nat) (r : Ending) (w4 : World) : Prop :=
  ∃ (p1 : Option Addr) (p2 p3 : Nat) (n1 : Option Addr) (n2 n3 : Nat) (c1 : Option Addr) (c3 : Nat) (k1 : Option Addr) (k2 k3 : Nat) (cf : Bool), r = .returned (.tuple #[.agg #[.slice p1 p2 p3, .slice n1 n2 n3, .slice c1 l2.length c3, .bool cf], .slice k1 k2 k3, .int .i64 0]) ∧
  ∃ W, w4.alloc (.cells #[.slice p1 p2 p3, .slice n1 n2 n3, .slice c1 l2.length c3, .bool cf] 30) = W ∧ Hid (Calls Try.prog 11 #[.int .i64 n, .slice o m c] W fun r w5 => Third w l1 l2 b1 w4.heap.size r w5)
def First (w : World) (l1 l2 : List Rc) (n : Nat) (o : Option Addr) (m c : Nat) (r : Ending) (w3 : World) : Prop :=
  ∃ (p1 : Option Addr) (p2 p3 : Nat) (n1 : Option Addr) (n2 n3 : Nat) (c1 : Option Addr) (c3 : Nat) (k1 : Option Addr) (k2 k3 : Nat) (cf : Bool), r = .returned (.tuple #[.agg #[.slice p1 p2 p3, .slice n1 n2 n3, .slice c1 l1.length c3, .bool cf], .slice k1 k2 k3, .int .i64 0]) ∧
  ∃ W, w3.alloc (.cells #[.slice p1 p2 p3, .slice n1 n2 n3, .slice c1 l1.length c3, .bool cf] 30) = W ∧ Hid (Calls Try.prog 8 #[.int .i64 n, .slice o m c] W fun r w4 => Second w l1 l2 n o m c w3.heap.size r w4)
theorem runs (w wx : World) (hb : Below w.heap.size w wx) (M : Fz) (hI : In M wx) (n : Nat) (h1 : 1 ≤ n) (h7 : n ≤ 7) (o : Option Addr) (m c : Nat) (us : List EV) (hu : us.length = m) (hv : EvsV M (.slice o m c) us) (hl : m ≤ 300) (k : Nat) (hk : k ≤ m) :
    ∃ l1 l2 : List Rc, l1.length ≤ l2.length ∧ Calls Try.prog 8 #[.int .i64 n, .slice o k c] wx fun r w3 => First w l1 l2 n o m c r w3 := by
  obtain ⟨es, ees⟩ : ∃ es, us.map (·.e) = es := ⟨_, rfl⟩
  obtain ⟨t, ht⟩ := grows (Cl.begin n) es k
  obtain ⟨l2, el2⟩ : ∃ l, ((Cl.begin n).run es).1.chosen = l := ⟨_, rfl⟩
  obtain ⟨l1, el1⟩ : ∃ l, ((Cl.begin n).run (es.take k)).1.chosen = l := ⟨_, rfl⟩
  rw [el1, el2] at ht
  have ekt : (us.take k).map (·.e) = es.take k := by rw [← ees, List.map_take]
  refine ⟨l1, l2, by rw [ht]; simp, ?_⟩
  refine (crun_good wx M hI n h1 h7 o k c (us.take k) (EvsV.take hv k (by omega)) (by simp; omega)).mono fun r w3 hr => ?_
  have hr := RunC.of hr
  rw [ekt, el1] at hr
  obtain ⟨p1, p2, p3, n1, n2, n3, a1, a3, k1, k2, k3, cf, rfl, _, ⟨M1, f1, hc1⟩⟩ := hr
  obtain ⟨W1, hW1⟩ : ∃ W, w3.alloc (.cells #[.slice p1 p2 p3, .slice n1 n2 n3, .slice a1 l1.length a3, .bool cf] 30) = W := ⟨_, rfl⟩
  have bW1 : Below w3.heap.size w3 W1 := by rw [← hW1]; exact more (Below.refl _ _) _
  have sW1 : W1.heap.size = w3.heap.size + 1 := by rw [← hW1]; exact World.size_alloc ..
  have x1 : W1.heap[w3.heap.size]? = some (.cells #[.slice p1 p2 p3, .slice n1 n2 n3, .slice a1 l1.length a3, .bool cf] 30 (0, 0)) := by rw [← hW1]; exact heap_alloc_new w3 _
  refine ⟨p1, p2, p3, n1, n2, n3, a1, a3, k1, k2, k3, cf, rfl, W1, hW1, ?_⟩
  have g1 := f1.more bW1
  refine (crun_good W1 M1 g1.inn n h1 h7 o m c us (EvsV.le hv g1.le) (by omega)).mono fun r w4 hr => ?_
  have hr := RunC.of hr
  rw [ees, el2] at hr
  clear hW1
  obtain ⟨p1, p2, p3, n1, n2, n3, d1, d3, k1, k2, k3, cf, rfl, ⟨hd1, hd3⟩, ⟨M2, f2, hc2⟩⟩ := hr
  obtain ⟨W2, hW2⟩ : ∃ W, w4.alloc (.cells #[.slice p1 p2 p3, .slice n1 n2 n3, .slice d1 l2.length d3, .bool cf] 30) = W := ⟨_, rfl⟩
  have bW2 : Below w4.heap.size w4 W2 := by rw [← hW2]; exact more (Below.refl _ _) _
  have sW2 : W2.heap.size = w4.heap.size + 1 := by rw [← hW2]; exact World.size_alloc ..
  have x2 : W2.heap[w4.heap.size]? = some (.cells #[.slice p1 p2 p3, .slice n1 n2 n3, .slice d1 l2.length d3, .bool cf] 30 (0, 0)) := by rw [← hW2]; exact heap_alloc_new w4 _
  refine ⟨p1, p2, p3, n1, n2, n3, d1, d3, k1, k2, k3, cf, rfl, W2, hW2, ?_⟩
  have g2 := f2.more bW2
  refine (scr.scrun_good W2 M2 g2.inn n h1 h7 o m c us (EvsV.le hv (g1.le.trans g2.le)) (by omega)).mono fun r w5 hr => ?_
  have hr := RunC.of hr
  rw [ees, el2] at hr
  clear hW2
  obtain ⟨p1, p2, p3, n1, n2, n3, c1, c3, k1, k2, k3, cf, rfl, _, ⟨M3, f3, hc3⟩⟩ := hr
  obtain ⟨W3, hW3⟩ : ∃ W, w5.alloc (.cells #[.slice p1 p2 p3, .slice n1 n2 n3, .slice c1 l2.length c3, .bool cf] 30) = W := ⟨_, rfl⟩
  have bW3 : Below w5.heap.size w5 W3 := by rw [← hW3]; exact more (Below.refl _ _) _
  have sW3 : W3.heap.size = w5.heap.size + 1 := by rw [← hW3]; exact World.size_alloc ..
  have x3 : W3.heap[w5.heap.size]? = some (.cells #[.slice p1 p2 p3, .slice n1 n2 n3, .slice c1 l2.length c3, .bool cf] 30 (0, 0)) := by rw [← hW3]; exact heap_alloc_new w5 _
  refine ⟨p1, p2, p3, n1, n2, n3, c1, c3, k1, k2, k3, cf, rfl, W3, hW3, a1, a3, d1, d3, hd1, hd3, fun wr hwr => ?_⟩
  have g3 := f3.more bW3
  have b2 : Below W2.heap.size W2 wr := g3.below.trans (hwr.mono g3.below.size)
  have b1' : Below W1.heap.size W1 wr := g2.below.trans (b2.mono g2.below.size)
  have b0 : Below wx.heap.size wx wr := g1.below.trans (b1'.mono g1.below.size)
  have hI3 : In M3 wr := g3.inn.below hwr
  refine ⟨cell_of ((b1'.block _ (by omega)).trans x1) rfl, cell_of ((b2.block _ (by omega)).trans x2) rfl, cell_of ((hwr.block _ (by omega)).trans x3) rfl, hb.trans (b0.mono hb.size), ?_, ?_⟩
  · refine sameRecs_any wr M3 hI3 a1 _ a3 d1 _ d3 l1 (hc1.le (g2.le.trans g3.le)) ?_
    have := RecsM.take (hc2.le g3.le) l1.length (by rw [ht]; simp)
    rwa [show l2.take l1.length = l1 by rw [ht]; simp] at this
  · exact sameRecs_any wr M3 hI3 d1 _ d3 c1 _ c3 l2 (hc2.le g3.le) hc3
set_option maxRecDepth 20000 in
set_option maxHeartbeats 8000000 in
theorem walk (w : World) (u v : Value) (xs ys : List Int) (hU : pile.RdA w u xs) (hV : pile.RdA w v ys) :
    Calls Try.prog 4 #[u, v] w fun r w' => r = .returned (.bool true) ∧ Below w.heap.size w w' := by
  have hM := rdM hU
  have hMr := hV.1
  obtain ⟨⟨a0, c0, rfl, h1, h2, _, _⟩, _⟩ := hU
  obtain ⟨⟨b0, d0, rfl, g1, g2, _, _⟩, _⟩ := hV
  by_cases hl : 1048576 < xs.length
  · have hli : (1048576 : Int) < xs.length := by omega
    go_enter Try.func4, Try.ntmps4
    go_wp2
    go_ret
    exact ⟨rfl, Below.refl _ _⟩
  have hli : ¬ (1048576 : Int) < xs.length := by omega
  by_cases hk : 1048576 < ys.length
  · have hki : (1048576 : Int) < ys.length := by omega
    go_enter Try.func4, Try.ntmps4
    go_wp2
    go_ret
    exact ⟨rfl, Below.refl _ _⟩
  have hki : ¬ (1048576 : Int) < ys.length := by omega
  have HP := hide (peers_any w _ ys hMr)
  have HE : Hid (∀ wx n, Below w.heap.size w wx → 1 ≤ n → n ≤ 7 → Calls Try.prog 7 #[.slice a0 xs.length c0, .int .i64 ((n : Nat) : Int)] wx fun e w2 => ∃ (o : Option Addr) (m c : Nat), e = .returned (.slice o m c) ∧ m ≤ 300 ∧ m ≤ c ∧ c ≤ 9223372036854775807 ∧ (o = none → m = 0) ∧ Hid (Calls Try.prog 10 #[.slice b0 ys.length d0, .int .i64 1, .int .i64 (m + 1)] w2 fun r w3 => ∃ k : Nat, r = .returned (.int .i64 k) ∧ k ≤ m ∧ ∃ l1 l2 : List Rc, l1.length ≤ l2.length ∧ Hid (Calls Try.prog 8 #[.int .i64 n, .slice o k c] w3 fun r w3 => First w l1 l2 n o m c r w3))) := fun wx n hx h1n h7n => by
    refine (eventsOf_any wx (whole w) ((whole_in w).below hx) a0 c0 xs hM (by omega) n h1n h7n).mono ?_
    rintro e w2 ⟨o, m, c, rfl, hm, M', us, hu, hv, q1, q2, q3, q4⟩
    have hb2 : Below w.heap.size w w2 := hx.trans (q3.mono hx.size)
    obtain ⟨⟨ao, cap, e1, e2, e3, e4, e5, e6⟩, _⟩ := id hv
    simp only [Value.slice.injEq] at e1
    obtain ⟨rfl, e1, rfl⟩ := e1
    refine ⟨o, m, c, rfl, hm, by omega, by unfold maxLen at e3; omega, fun h => by have := (e5 h).1; omega, ?_⟩
    refine (at_any w2 _ ys 1 (m + 1) (by omega) (by omega) (hMr.below hb2 (Nat.le_refl _))).mono ?_
    rintro r w3 ⟨r, rfl, hr0, hr1, q, rfl⟩
    obtain ⟨k, rfl⟩ : ∃ k : Nat, r = k := ⟨r.toNat, by omega⟩
    have hkm : k ≤ m := by omega
    obtain ⟨l1, l2, hle, hc⟩ := runs w (w2.drewN q) (below_drewN hb2 q) M' (q2.below (below_drewN (Below.refl w2.heap.size w2) q)) n h1n h7n o m c us hu hv hm k hkm
    exact ⟨k, rfl, hkm, l1, l2, hle, hc⟩
  clear hM hMr h1 h2 g1 g2 hl hk
  go_enter Try.func4, Try.ntmps4
  go_wp2_with fail
  refine HP.out.mono ?_
  rintro e w1 ⟨n, rfl, ⟨h1n, h7n⟩, b1⟩
  have HE1 := hide (HE.out w1 n b1 h1n h7n)
  clear HP HE b1
  go_wp2_with fail
  refine HE1.out.mono ?_
  rintro e w2 ⟨o, m, c, rfl, hm, hmc, hc, hon, HR⟩
  clear HE1
  go_wp2_with fail
  refine HR.out.mono ?_
  rintro e w3 ⟨k, rfl, hkm, l1, l2, hle, HF⟩
  clear HR
  go_wp2_with fail
  refine HF.out.mono ?_
  rintro e w4 ⟨p1, p2, p3, n1, n2, n3, c1, c3, k1, k2, k3, cf, rfl, W1, hW1, HS⟩
  clear HF
  go_wp2_with fail
  refine HS.out.mono ?_
  rintro e w5 ⟨q1, q2, q3, m1, m2, m3, d1, d3, j1, j2, j3, cg, rfl, W2, hW2, HT⟩
  clear HS
  go_wp2_with fail
  refine HT.out.mono ?_
  rintro e w6 ⟨r1, r2, r3, o1, o2, o3, e1, e3, i1, i2, i3, ch, rfl, W3, hW3, s1, s3, t1, t3, ht1, ht3, HC⟩
  clear HT
  obtain ⟨z1, z2, z3, _, _, _⟩ := HC.out W3 (Below.refl _ _)
  have H1 : Hid (∀ q, Calls Try.prog 9 #[.slice s1 l1.length s3, .slice t1 l1.length t3] (W3.drewN q) fun e w' => e = .returned (.bool true) ∧ ∃ n, w' = (W3.drewN q).drewN n) := fun q => (HC.out _ (below_drewN (Below.refl _ _) q)).2.2.2.2.1.out
  have H2 : Hid (∀ q, Calls Try.prog 9 #[.slice t1 l2.length t3, .slice e1 l2.length e3] (W3.drewN q) fun e w' => e = .returned (.bool true) ∧ ∃ n, w' = (W3.drewN q).drewN n) := fun q => (HC.out _ (below_drewN (Below.refl _ _) q)).2.2.2.2.2.out
  have HB : Hid (∀ q, Below w.heap.size w (W3.drewN q)) := fun q => (HC.out _ (below_drewN (Below.refl _ _) q)).2.2.2.1
  have hleI : (l1.length : Int) ≤ l2.length := by omega
  clear HC
  go_upto_region 9 with fail
  try rw [hW3]
  clear hW1 hW2 hW3
  go_quiet (first | (go_at_call_of 9 (Value.slice s1 l1.length s3); exact Calls.quiet_of (H1.out _)) | (go_at_call 9; exact Calls.quiet_of (H2.out _)))
  go_wp2
  go_ret
  exact ⟨rfl, HB.out _⟩
end Go.Proofs.Ytklkglbimjajnaa.gw
namespace Go.Proofs.Ytklkglbimjajnaa.given
open bytes pile
theorem spot_none {w : World} {x : Addr} {v : Value} (h : w.cell? (x.add 0) = some v) : x.spot = none := by
  obtain ⟨b, off, spot⟩ := x
  simpa [Addr.add] using World.cell?_spot h
theorem rdA_row {w : World} {a : Option Addr} {len cap : Nat} {zs : List Int} (h : (a = none ∧ len = 0 ∧ cap = 0) ∨ ∃ x, a = some x ∧ len ≤ cap ∧ cap ≤ maxLen ∧ zs.length = cap ∧ (∀ i, i < zs.length → w.cell? (x.add i) = some (.int .u8 (zs.getD i 0))) ∧ ∀ n ∈ zs, (Lit.int .u8 n).wf = true) :
    ∃ xs : List Int, RdA w (.slice a len cap) xs ∧ xs.length = len := by
  rcases h with ⟨rfl, rfl, rfl⟩ | ⟨x, rfl, hl, hm, hz, hcell, hwz⟩
  · exact ⟨[], ⟨⟨none, 0, rfl, by simp, by simp [maxLen], by simp, by simp⟩, fun _ _ _ => rfl⟩, rfl⟩
  · have hlen : (zs.take len).length = len := by simp; omega
    refine ⟨zs.take len, ⟨⟨some x, cap, by rw [hlen], by omega, hm, ?_, fun hp => ?_⟩, fun n c e => by simp at e⟩, hlen⟩
    · intro y hy
      have := hwz y (List.mem_of_mem_take hy)
      simpa [Lit.wf, IntKind.min, IntKind.max, IntKind.signed, IntKind.bits] using this
    · have hs := spot_none (hcell 0 (by omega))
      obtain ⟨b, off, spot⟩ := x
      simp only at hs
      subst hs
      refine ⟨b, off, rfl, fun i hi => ?_⟩
      have := hcell i (by omega)
      rw [add_at] at this
      rw [this]
      have hi' : i < len := by omega
      simp [List.getD_eq_getElem?_getD, hi']
section
variable {H : Type} {enc : TypeId × Value → H} {w : World} {base : Nat} {held : Bool}
theorem open_bytes {fuel : Nat} {cs : List Value} {x : DataW H × List MemPlace} (hf : DataW.trod enc Try.prog w base (fun _ => true) held fuel 22 cs = some x) : ∃ v xs, cs = [v] ∧ RdA w v xs := by
  rcases open_ints Try.underlying22 Try.underlying5 (by kernel_rfl) hf with ⟨hcs, _⟩ | ⟨x, l, c, zs, hcs, _, hl, hm, hz, _, hcell, hwz⟩
  · obtain ⟨xs, h1, _⟩ := rdA_row (w := w) (a := none) (len := 0) (cap := 0) (zs := []) (.inl ⟨rfl, rfl, rfl⟩)
    exact ⟨_, xs, hcs, h1⟩
  · obtain ⟨xs, h1, _⟩ := rdA_row (w := w) (a := some x) (len := l) (cap := c) (zs := zs) (.inr ⟨_, rfl, hl, hm, by simpa using hz, hcell, hwz⟩)
    exact ⟨_, xs, hcs, h1⟩
end
end Go.Proofs.Ytklkglbimjajnaa.given
namespace Go.Proofs.Ytklkglbimjajnaa.fnGrows
theorem own : ownKnob Try.prog.godebug = none := by kernel_rfl
theorem laidOut : laidOutB Try.prog = true := by kernel_rfl
theorem leaves {a : Assume} {C : Checked} {os : Os} {f : FuncId} {r : Reach} {Pre : World → Array Value → Prop} {Post : World → Array Value → Value → World → Prop} (h : ReturnsInHanded a C os f r Pre Post) : ReturnsInLeavingWide a C os f r Pre Post := fun enter => by
  obtain ⟨h1, h2, h3, h4, h5⟩ := h enter
  refine ⟨h1, h2, h3, h4, fun w tape i hf => ?_⟩
  obtain ⟨n, v, w', a1, a2, a3, a4, ⟨j, last, b1, b2, b3⟩, a5⟩ := h5 w tape i hf
  exact ⟨n, v, w', a1, a2, a3, a4, ⟨j, last, b1, b2, b3.2.1, onlyLeaving_of_quiet b3.1, b3.2.2⟩, a5⟩
set_option maxRecDepth 100000 in
theorem lifted (os : Os) (started : os.Started) (H : Type) (enc : TypeId × Value → H) :
    ReturnsInHanded {} Try.checked os 4 .any (Rows.fnGrowsSpec.pre6 enc Try.prog Try.f4 Rows.fnGrowsRow.domain false) (Rows.fnGrowsSpec.post enc Try.prog Try.f4 false true false false) := by
  refine returnsInHanded_of_change (C := Try.checked) own started (by kernel_rfl) Try.func4
    (ChangeSpec.witness6 (enc := enc) (C := Try.checked) false ⟨#[], #[.slice none 0 0, .slice none 0 0], []⟩ 8 (by kernel_rfl) (by kernel_rfl) (by kernel_rfl) (by kernel_rfl)) ?_
  intro W base args ds gs before hval0 hW hcnd _
  have hval : ∀ (j : Nat) t v, Try.f4.params[j]? = some t → args[j]? = some v → Value.okWide Try.prog W .any base t v := hval0
  have hW' := hW
  obtain ⟨p, q, hA0, hV, rfl, hfz, hnd⟩ := hW
  have hA : DataW.TrodAll enc Try.prog W 0 (fun _ => true) true Try.f4.params.toList args.toList ds p := hA0
  rw [Try.params4] at hA hval
  obtain ⟨v0, vs0, d0, ds0, p0, q0, hargs, rfl, rfl, h0, r0⟩ := trodAll_cons hA
  obtain ⟨v1, vs1, d1, ds1, p1, q1, hargs1, rfl, rfl, h1, r1⟩ := trodAll_cons r0
  obtain ⟨rfl, rfl, rfl⟩ := trodAll_nil r1
  obtain rfl : args = #[v0, v1] := by cases args; simp_all
  obtain ⟨rfl, rfl⟩ := trodVars_none hV
  have k0 := h0
  have k1 := h1
  have lt0 : ∀ x ∈ p0, x.block < W.heap.size := by obtain ⟨m, hm⟩ := k0; exact DataW.trod_lt m _ _ _ hm
  have lt1 : ∀ x ∈ p1, x.block < W.heap.size := by obtain ⟨m, hm⟩ := k1; exact DataW.trod_lt m _ _ _ hm
  obtain ⟨fuel, hf⟩ := h0
  obtain ⟨fuel1, hf1⟩ := h1
  obtain ⟨sa, sl, sc, rfl⟩ := okWide_slice Try.underlying22 (hval 0 22 v0 rfl rfl)
  obtain ⟨ta, tl, tc, rfl⟩ := okWide_slice Try.underlying22 (hval 1 22 v1 rfl rfl)
  obtain ⟨u, xs, hu, hr⟩ := Go.Proofs.Ytklkglbimjajnaa.given.open_bytes hf
  obtain ⟨u1, ys, hu1, hr1⟩ := Go.Proofs.Ytklkglbimjajnaa.given.open_bytes hf1
  simp only [Value.cells, List.cons.injEq, and_true] at hu hu1
  subst hu hu1
  clear hA0 hval0
  refine (gw.walk W _ _ xs ys hr hr1).mono fun e W' ⟨he, bel⟩ => ?_
  subst he
  exact ⟨_, rfl, _, _, _, [], _, [], hW', trodAll_mk1 (shut_bool Try.underlying4 _), (trodAll_cons_mk (Below.trod laidOut (by kernel_rfl) (of_decide_eq_true (by kernel_rfl)) k0 bel lt0) (trodAll_cons_mk (Below.trod laidOut (by kernel_rfl) (of_decide_eq_true (by kernel_rfl)) k1 bel lt1) trodAll_mk0)), rfl, bel.frame _, fun h => by cases h⟩
theorem over : Rows.fnGrowsRow.holds Try.pinned (OpenSpec.ofChange Rows.fnGrowsSpec) :=
  OpenClaim.holds_of_wide_leaving 4 Try.f4 rfl rfl rfl rfl rfl rfl rfl ⟨rfl, rfl, rfl, rfl, rfl⟩ rfl rfl rfl rfl rfl (by kernel_rfl) Try.func4 (by kernel_rfl)
    (of_decide_eq_true (by kernel_rfl)) (by unfold Func.isWrapper; first | (rw [if_pos (by decide +kernel)]; kernel_rfl) | (rw [if_neg (by decide +kernel)]; exact ⟨rfl, rfl⟩))
    (fun os started H enc _ => leaves (lifted os started H enc))
theorem proved : Rows.FnGrowsSaid := over
#print axioms proved
end Go.Proofs.Ytklkglbimjajnaa.fnGrows

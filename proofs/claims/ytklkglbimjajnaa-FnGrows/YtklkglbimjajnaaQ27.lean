import Derived.Test.YtklkglbimjajnaaQ24
import Derived.Test.YtklkglbimjajnaaQ20
import Derived.WalkMore
import Derived.Deep.Cut
import Derived.Deep.CutRange
import Derived.Deep.DeepCutAuto
import Derived.Deep.QuietTactic
import Derived.BigQuiet
import Derived.BigRegion
import Derived.Deep.RegionLaw
import Derived.Deep.RegionHeldLaw
import Derived.Test.YtklkglbimjajnaaQ26
import Derived.Test.YtklkglbimjajnaaQ18
import Derived.Maps.AppendAt
import Derived.Deep.AppendLies
import Derived.Test.YtklkglbimjajnaaQ03
import Derived.Test.YtklkglbimjajnaaQ05
set_option linter.unusedVariables false
open Go.ChangeShapes Go.WideShapes Go.ChangeAt Go.RowKit
namespace Go.Proofs.Ytklkglbimjajnaa.sev1
open Raft mem srun ssend sdown ssmall scopy srecs sapp ssame schos schosen scom sgrow sin sel stk slog sap0 sdl0 sdl3 sdl2
variable {F : Nat → Option Obj}
set_option maxRecDepth 20000 in
set_option maxHeartbeats 2000000 in
theorem event_2 (w : World) (M : Fz) (base d P pc : Nat) (c : Cl) (us : List PV) (ns : List MV) (nv : Value) (cs : List RV) (cv : Value) (h : Run (TS F) w M base d P pc c us ns nv cs cv) (e : Ev) (eo : Option Addr) (el ec : Nat) (hkd : e.kind = 2) (n : Nat) (h1 : 1 ≤ n) (h7 : n ≤ 7) (hg : Raft.Good n c) :
    Calls Try.prog 23 #[.pointer (some ⟨d, 0, none⟩), .agg #[.int .i64 e.kind, .int .i64 e.n, .slice eo el ec]] w fun r w' => r = .returned (.int .i64 (c.event e).2) ∧ SD F w M base d P pc (c.event e).1 w' := by
  obtain ⟨W, hW⟩ : ∃ W, w.alloc (.cells #[.int .i64 e.kind, .int .i64 e.n, .slice eo el ec] 58) = W := ⟨_, rfl⟩
  have h0 := St1.begin h hW
  have c0 : W.cell? ⟨w.heap.size, 0, none⟩ = some (.int .i64 e.kind) := cell_of h0.b0 rfl
  have c1 : W.cell? ⟨w.heap.size, 1, none⟩ = some (.int .i64 e.n) := cell_of h0.b0 rfl
  have H0 := hide h0
  obtain ⟨hB, hC, s, hR⟩ := hg
  obtain ⟨no, nc, hnve, hncm⟩ := slice_one h.net.1
  subst hnve
  have hnl : ns.length = c.net.length := by rw [← h.nets, List.length_map]
  have d1 : W.cell? ⟨d, 1, none⟩ = some (.slice no ns.length nc) := cell_of h0.run.blk rfl
  have hn200 : ns.length ≤ 200 := by have := hB.size; omega
  have k1 : (e.kind == 1) = false := by rw [hkd]; decide
  have k2 : (e.kind == 2) = true := by rw [hkd]; decide
  have k3 : (e.kind == 3) = false := by rw [hkd]; decide
  have k4 : (e.kind == 4) = false := by rw [hkd]; decide
  have k5 : (e.kind == 5) = false := by rw [hkd]; decide
  have k6 : (e.kind == 6) = false := by rw [hkd]; decide
  have k7 : (e.kind == 7) = false := by rw [hkd]; decide
  unfold maxLen at hncm
  by_cases hneg : e.n < 0
  · have HE : Hid ((c.event e).2 = 6 ∧ (c.event e).1 = c) := by
      unfold Cl.event
      rw [if_pos (by omega), if_pos (by exact .inl hneg)]
      exact ⟨rfl, rfl⟩
    rw [HE.out.1, HE.out.2]
    clear h h0 hkd HE
    go_enter Try.func23, Try.ntmps23
    go_wp2
    (try rw [hW])
    clear hW
    go_quiet (fail)
    obtain ⟨W1, hW1, bW1, sW1⟩ := fold_dn W nq
    (try rw [hW1])
    have H1 := hide (H0.out.below bW1)
    clear hW1 bW1 H0
    go_wp2
    go_ret
    exact ⟨rfl, H1.out.sd⟩
  · by_cases hbig : (ns.length : Int) ≤ e.n
    · have HE : Hid ((c.event e).2 = 6 ∧ (c.event e).1 = c) := by
        unfold Cl.event
        rw [if_pos (by omega), if_pos (by exact .inr (by omega))]
        exact ⟨rfl, rfl⟩
      rw [HE.out.1, HE.out.2]
      clear h h0 hkd HE
      go_enter Try.func23, Try.ntmps23
      go_wp2
      (try rw [hW])
      clear hW
      go_quiet (fail)
      obtain ⟨W1, hW1, bW1, sW1⟩ := fold_dn W nq
      (try rw [hW1])
      have H1 := hide (H0.out.below bW1)
      clear hW1 bW1 H0
      go_wp2
      go_ret
      exact ⟨rfl, H1.out.sd⟩
    · obtain ⟨i, hi⟩ : ∃ i : Nat, e.n = (i : Int) := ⟨e.n.toNat, by omega⟩
      have hil : i < ns.length := by omega
      obtain ⟨x, hx⟩ : ∃ x, ns[i]? = some x := ⟨_, List.getElem?_eq_getElem hil⟩
      have hxm : x ∈ ns := List.mem_iff_getElem?.2 ⟨i, hx⟩
      obtain ⟨lo, ln0, elv⟩ := recsM_slice (h.net.2 x hxm)
      obtain ⟨ln, eln⟩ : ∃ ln, x.m.log.length = ln := ⟨_, rfl⟩
      obtain ⟨lc, elc⟩ : ∃ lc, ln0 = lc := ⟨_, rfl⟩
      rw [eln, elc] at elv
      have hcx : c.net[i]? = some x.m := by rw [← h.nets, List.getElem?_map, hx]; rfl
      have hmem : x.m ∈ c.net := List.mem_of_getElem? hcx
      have hev : c.event e = (({ c with net := c.net.eraseIdx i } : Cl).deliver x.m, 0) := by
        unfold Cl.event
        rw [if_pos (by omega), if_neg (by rw [hi]; omega), hi, Int.toNat_natCast, hcx]
        dsimp only
        rw [if_pos hkd]
      rw [hev]
      rw [hi] at c1 hneg hbig
      have HTk : Hid (∀ wx, St1 F w M base d P pc 58 #[.int .i64 e.kind, .int .i64 e.n, .slice eo el ec] c us ns (.slice no ns.length nc) cs cv M wx → Calls Try.prog 50 #[.pointer (some ⟨d, 0, none⟩), .int .i64 i] wx fun r w' => r = .returned (.agg #[.int .i64 x.m.kind, .int .i64 x.m.frm, .int .i64 x.m.to, .int .i64 x.m.term, .int .i64 x.m.a, .int .i64 x.m.b, .int .i64 x.m.c, .bool x.m.ok, .slice lo ln lc]) ∧ Hid (Calls Try.prog 49 #[.pointer (some ⟨d, 0, none⟩), .agg #[.int .i64 x.m.kind, .int .i64 x.m.frm, .int .i64 x.m.to, .int .i64 x.m.term, .int .i64 x.m.a, .int .i64 x.m.b, .int .i64 x.m.c, .bool x.m.ok, .slice lo ln lc]] w' fun r w'' => r = .returned (.tuple #[]) ∧ SD F w M base d P pc (({ c with net := c.net.eraseIdx i } : Cl).deliver x.m) w'')) := fun wx hw => by
        refine (stake.take_any wx M base d P pc c us ns _ cs cv hw.run i x hx hn200 lo ln lc elv).mono ?_
        rintro r w' ⟨rfl, hs⟩
        have hsd := SD.sent hw.le hw.bel hw.run hw.dom hs
        refine ⟨rfl, ?_⟩
        obtain ⟨M', ns', nv', l1, r1, g1, d1⟩ := hs
        have hR2 : Rel n { c with net := c.net.eraseIdx i } s := hR.part (fun m hm => List.mem_of_mem_eraseIdx hm)
        have hB2 : Bd { c with net := c.net.eraseIdx i } := hB.part (fun m hm => List.mem_of_mem_eraseIdx hm) (List.length_eraseIdx_le _ _)
        have hl2 : RecsM M' (.slice lo ln lc) x.m.log := by rw [← elv]; exact (h.net.2 x hxm).le l1
        refine (sdlv.deliver_any w' M' base d P pc _ us ns' nv' cs cv r1 n h1 h7 s hR2 hC hB2 x.m (hR.msgs x.m hmem) (hB.net x.m hmem) lo ln lc hl2).mono ?_
        rintro r w'' ⟨rfl, M2, us2, ns2, nv2, cs2, cv2, b1, b2, b3, b4⟩
        have hbw : Below base wx w' := ⟨g1.os, g1.tape, g1.output, g1.size, fun q hq => g1.block q (by have := hw.low; omega) (fun e => by simp only [Option.some.injEq] at e; have := hw.run.low.1; omega)⟩
        refine ⟨rfl, M2, us2, ns2, nv2, cs2, cv2, hw.le.trans (l1.trans b1), hw.bel.trans (hbw.trans b2), b3, fun b hb => ?_⟩
        rcases b4 b hb with q | q
        · rcases d1 b q with q | q
          · exact hw.dom b q
          · exact .inr (by have := hw.low; omega)
        · exact .inr q
      have nb : ¬ (i : Int) < 0 := by omega
      have hilI : ¬ (ns.length : Int) ≤ i := by omega
      clear h h0 hkd hev hx hxm hmem hcx elv eln elc hnl hi hR hC hB
      go_enter Try.func23, Try.ntmps23
      go_wp2
      (try rw [hW])
      clear hW
      go_quiet (fail)
      obtain ⟨W1, hW1, bW1, sW1⟩ := fold_dn W nq
      (try rw [hW1])
      have HT := hide (HTk.out W1 (H0.out.below bW1))
      have c0 := kept_cell bW1 c0
      have c1 := kept_cell bW1 c1
      clear hW1 bW1 H0 HTk d1
      go_wp2_with (first | (go_at_call 50; refine HT.out.mono ?_; rintro rr w2 ⟨rfl, HD⟩) | (go_at_call 49; refine HD.out.mono ?_; rintro rr w3 ⟨rfl, hsd⟩))
      go_ret
      exact ⟨rfl, hsd⟩
set_option maxRecDepth 20000 in
set_option maxHeartbeats 2000000 in
theorem event_3 (w : World) (M : Fz) (base d P pc : Nat) (c : Cl) (us : List PV) (ns : List MV) (nv : Value) (cs : List RV) (cv : Value) (h : Run (TS F) w M base d P pc c us ns nv cs cv) (e : Ev) (eo : Option Addr) (el ec : Nat) (hkd : e.kind = 3) (n : Nat) (h1 : 1 ≤ n) (h7 : n ≤ 7) (hg : Raft.Good n c) :
    Calls Try.prog 23 #[.pointer (some ⟨d, 0, none⟩), .agg #[.int .i64 e.kind, .int .i64 e.n, .slice eo el ec]] w fun r w' => r = .returned (.int .i64 (c.event e).2) ∧ SD F w M base d P pc (c.event e).1 w' := by
  obtain ⟨W, hW⟩ : ∃ W, w.alloc (.cells #[.int .i64 e.kind, .int .i64 e.n, .slice eo el ec] 58) = W := ⟨_, rfl⟩
  have h0 := St1.begin h hW
  have c0 : W.cell? ⟨w.heap.size, 0, none⟩ = some (.int .i64 e.kind) := cell_of h0.b0 rfl
  have c1 : W.cell? ⟨w.heap.size, 1, none⟩ = some (.int .i64 e.n) := cell_of h0.b0 rfl
  have H0 := hide h0
  obtain ⟨hB, hC, s, hR⟩ := hg
  obtain ⟨no, nc, hnve, hncm⟩ := slice_one h.net.1
  subst hnve
  have hnl : ns.length = c.net.length := by rw [← h.nets, List.length_map]
  have d1 : W.cell? ⟨d, 1, none⟩ = some (.slice no ns.length nc) := cell_of h0.run.blk rfl
  have hn200 : ns.length ≤ 200 := by have := hB.size; omega
  have k1 : (e.kind == 1) = false := by rw [hkd]; decide
  have k2 : (e.kind == 2) = false := by rw [hkd]; decide
  have k3 : (e.kind == 3) = true := by rw [hkd]; decide
  have k4 : (e.kind == 4) = false := by rw [hkd]; decide
  have k5 : (e.kind == 5) = false := by rw [hkd]; decide
  have k6 : (e.kind == 6) = false := by rw [hkd]; decide
  have k7 : (e.kind == 7) = false := by rw [hkd]; decide
  unfold maxLen at hncm
  by_cases hneg : e.n < 0
  · have HE : Hid ((c.event e).2 = 6 ∧ (c.event e).1 = c) := by
      unfold Cl.event
      rw [if_pos (by omega), if_pos (by exact .inl hneg)]
      exact ⟨rfl, rfl⟩
    rw [HE.out.1, HE.out.2]
    clear h h0 hkd HE
    go_enter Try.func23, Try.ntmps23
    go_wp2
    (try rw [hW])
    clear hW
    go_quiet (fail)
    obtain ⟨W1, hW1, bW1, sW1⟩ := fold_dn W nq
    (try rw [hW1])
    have H1 := hide (H0.out.below bW1)
    clear hW1 bW1 H0
    go_wp2
    go_ret
    exact ⟨rfl, H1.out.sd⟩
  · by_cases hbig : (ns.length : Int) ≤ e.n
    · have HE : Hid ((c.event e).2 = 6 ∧ (c.event e).1 = c) := by
        unfold Cl.event
        rw [if_pos (by omega), if_pos (by exact .inr (by omega))]
        exact ⟨rfl, rfl⟩
      rw [HE.out.1, HE.out.2]
      clear h h0 hkd HE
      go_enter Try.func23, Try.ntmps23
      go_wp2
      (try rw [hW])
      clear hW
      go_quiet (fail)
      obtain ⟨W1, hW1, bW1, sW1⟩ := fold_dn W nq
      (try rw [hW1])
      have H1 := hide (H0.out.below bW1)
      clear hW1 bW1 H0
      go_wp2
      go_ret
      exact ⟨rfl, H1.out.sd⟩
    · obtain ⟨i, hi⟩ : ∃ i : Nat, e.n = (i : Int) := ⟨e.n.toNat, by omega⟩
      have hil : i < ns.length := by omega
      obtain ⟨x, hx⟩ : ∃ x, ns[i]? = some x := ⟨_, List.getElem?_eq_getElem hil⟩
      have hxm : x ∈ ns := List.mem_iff_getElem?.2 ⟨i, hx⟩
      obtain ⟨lo, ln0, elv⟩ := recsM_slice (h.net.2 x hxm)
      obtain ⟨ln, eln⟩ : ∃ ln, x.m.log.length = ln := ⟨_, rfl⟩
      obtain ⟨lc, elc⟩ : ∃ lc, ln0 = lc := ⟨_, rfl⟩
      rw [eln, elc] at elv
      have hcx : c.net[i]? = some x.m := by rw [← h.nets, List.getElem?_map, hx]; rfl
      have hmem : x.m ∈ c.net := List.mem_of_getElem? hcx
      have hev : c.event e = (({ c with net := c.net.eraseIdx i } : Cl), 0) := by
        unfold Cl.event
        rw [if_pos (by omega), if_neg (by rw [hi]; omega), hi, Int.toNat_natCast, hcx]
        dsimp only
        rw [if_neg (by omega), if_pos hkd]
      rw [hev]
      rw [hi] at c1 hneg hbig
      have HTk : Hid (∀ wx, St1 F w M base d P pc 58 #[.int .i64 e.kind, .int .i64 e.n, .slice eo el ec] c us ns (.slice no ns.length nc) cs cv M wx → Calls Try.prog 50 #[.pointer (some ⟨d, 0, none⟩), .int .i64 i] wx fun r w' => r = .returned (.agg #[.int .i64 x.m.kind, .int .i64 x.m.frm, .int .i64 x.m.to, .int .i64 x.m.term, .int .i64 x.m.a, .int .i64 x.m.b, .int .i64 x.m.c, .bool x.m.ok, .slice lo ln lc]) ∧ Hid (SD F w M base d P pc (({ c with net := c.net.eraseIdx i } : Cl)) w')) := fun wx hw => by
        refine (stake.take_any wx M base d P pc c us ns _ cs cv hw.run i x hx hn200 lo ln lc elv).mono ?_
        rintro r w' ⟨rfl, hs⟩
        have hsd := SD.sent hw.le hw.bel hw.run hw.dom hs
        exact ⟨rfl, hsd⟩
      have nb : ¬ (i : Int) < 0 := by omega
      have hilI : ¬ (ns.length : Int) ≤ i := by omega
      clear h h0 hkd hev hx hxm hmem hcx elv eln elc hnl hi hR hC hB
      go_enter Try.func23, Try.ntmps23
      go_wp2
      (try rw [hW])
      clear hW
      go_quiet (fail)
      obtain ⟨W1, hW1, bW1, sW1⟩ := fold_dn W nq
      (try rw [hW1])
      have HT := hide (HTk.out W1 (H0.out.below bW1))
      have c0 := kept_cell bW1 c0
      have c1 := kept_cell bW1 c1
      clear hW1 bW1 H0 HTk d1
      go_wp2_with (go_at_call 50; refine HT.out.mono ?_; rintro rr w2 ⟨rfl, HD⟩; have hsd := HD.out)
      go_ret
      exact ⟨rfl, hsd⟩
set_option maxRecDepth 20000 in
set_option maxHeartbeats 2000000 in
theorem event_4 (w : World) (M : Fz) (base d P pc : Nat) (c : Cl) (us : List PV) (ns : List MV) (nv : Value) (cs : List RV) (cv : Value) (h : Run (TS F) w M base d P pc c us ns nv cs cv) (e : Ev) (eo : Option Addr) (el ec : Nat) (hkd : e.kind = 4) (n : Nat) (h1 : 1 ≤ n) (h7 : n ≤ 7) (hg : Raft.Good n c) :
    Calls Try.prog 23 #[.pointer (some ⟨d, 0, none⟩), .agg #[.int .i64 e.kind, .int .i64 e.n, .slice eo el ec]] w fun r w' => r = .returned (.int .i64 (c.event e).2) ∧ SD F w M base d P pc (c.event e).1 w' := by
  obtain ⟨W, hW⟩ : ∃ W, w.alloc (.cells #[.int .i64 e.kind, .int .i64 e.n, .slice eo el ec] 58) = W := ⟨_, rfl⟩
  have h0 := St1.begin h hW
  have c0 : W.cell? ⟨w.heap.size, 0, none⟩ = some (.int .i64 e.kind) := cell_of h0.b0 rfl
  have c1 : W.cell? ⟨w.heap.size, 1, none⟩ = some (.int .i64 e.n) := cell_of h0.b0 rfl
  have H0 := hide h0
  obtain ⟨hB, hC, s, hR⟩ := hg
  obtain ⟨no, nc, hnve, hncm⟩ := slice_one h.net.1
  subst hnve
  have hnl : ns.length = c.net.length := by rw [← h.nets, List.length_map]
  have d1 : W.cell? ⟨d, 1, none⟩ = some (.slice no ns.length nc) := cell_of h0.run.blk rfl
  have hn200 : ns.length ≤ 200 := by have := hB.size; omega
  have k1 : (e.kind == 1) = false := by rw [hkd]; decide
  have k2 : (e.kind == 2) = false := by rw [hkd]; decide
  have k3 : (e.kind == 3) = false := by rw [hkd]; decide
  have k4 : (e.kind == 4) = true := by rw [hkd]; decide
  have k5 : (e.kind == 5) = false := by rw [hkd]; decide
  have k6 : (e.kind == 6) = false := by rw [hkd]; decide
  have k7 : (e.kind == 7) = false := by rw [hkd]; decide
  unfold maxLen at hncm
  by_cases hneg : e.n < 0
  · have HE : Hid ((c.event e).2 = 6 ∧ (c.event e).1 = c) := by
      unfold Cl.event
      rw [if_pos (by omega), if_pos (by exact .inl hneg)]
      exact ⟨rfl, rfl⟩
    rw [HE.out.1, HE.out.2]
    clear h h0 hkd HE
    go_enter Try.func23, Try.ntmps23
    go_wp2
    (try rw [hW])
    clear hW
    go_quiet (fail)
    obtain ⟨W1, hW1, bW1, sW1⟩ := fold_dn W nq
    (try rw [hW1])
    have H1 := hide (H0.out.below bW1)
    clear hW1 bW1 H0
    go_wp2
    go_ret
    exact ⟨rfl, H1.out.sd⟩
  · by_cases hbig : (ns.length : Int) ≤ e.n
    · have HE : Hid ((c.event e).2 = 6 ∧ (c.event e).1 = c) := by
        unfold Cl.event
        rw [if_pos (by omega), if_pos (by exact .inr (by omega))]
        exact ⟨rfl, rfl⟩
      rw [HE.out.1, HE.out.2]
      clear h h0 hkd HE
      go_enter Try.func23, Try.ntmps23
      go_wp2
      (try rw [hW])
      clear hW
      go_quiet (fail)
      obtain ⟨W1, hW1, bW1, sW1⟩ := fold_dn W nq
      (try rw [hW1])
      have H1 := hide (H0.out.below bW1)
      clear hW1 bW1 H0
      go_wp2
      go_ret
      exact ⟨rfl, H1.out.sd⟩
    · obtain ⟨i, hi⟩ : ∃ i : Nat, e.n = (i : Int) := ⟨e.n.toNat, by omega⟩
      have hil : i < ns.length := by omega
      obtain ⟨x, hx⟩ : ∃ x, ns[i]? = some x := ⟨_, List.getElem?_eq_getElem hil⟩
      have hxm : x ∈ ns := List.mem_iff_getElem?.2 ⟨i, hx⟩
      obtain ⟨lo, ln0, elv⟩ := recsM_slice (h.net.2 x hxm)
      obtain ⟨ln, eln⟩ : ∃ ln, x.m.log.length = ln := ⟨_, rfl⟩
      obtain ⟨lc, elc⟩ : ∃ lc, ln0 = lc := ⟨_, rfl⟩
      rw [eln, elc] at elv
      have hcx : c.net[i]? = some x.m := by rw [← h.nets, List.getElem?_map, hx]; rfl
      have hmem : x.m ∈ c.net := List.mem_of_getElem? hcx
      have hev : c.event e = (c.send x.m, 0) := by
        unfold Cl.event
        rw [if_pos (by omega), if_neg (by rw [hi]; omega), hi, Int.toNat_natCast, hcx]
        dsimp only
        rw [if_neg (by omega), if_neg (by omega)]
      rw [hev]
      rw [hi] at c1 hneg hbig
      obtain ⟨ao, cap, e', r1, r2, r3⟩ := RowM.world h0.run.net.1 h0.run.inn
      simp only [Value.slice.injEq, true_and] at e'
      obtain ⟨rfl, rfl⟩ := e'
      obtain ⟨b, off, rfl, hc⟩ := r3 (by omega)
      have HC : Hid (∀ wx, Below W.heap.size W wx → ∀ j v, (msgCells x)[j]? = some v → wx.cell? ⟨b, off + i * 9 + j, none⟩ = some v) := fun wx hb j v hj => by
        have hj9 : j < 9 := by have := (List.getElem?_eq_some_iff.1 hj).1; rw [msgCells_len] at this; exact this
        have e1 := flat_get msgCells 9 msgCells_len ns i j x hx hj9
        have := hc _ v (e1.trans hj)
        rw [← Nat.add_assoc] at this
        exact kept_cell hb this
      have HSn : Hid (∀ wx, St1 F w M base d P pc 58 #[.int .i64 e.kind, .int .i64 e.n, .slice eo el ec] c us ns (.slice (some ⟨b, off, none⟩) ns.length nc) cs cv M wx → Calls Try.prog 51 #[.pointer (some ⟨d, 0, none⟩), .agg #[.int .i64 x.m.kind, .int .i64 x.m.frm, .int .i64 x.m.to, .int .i64 x.m.term, .int .i64 x.m.a, .int .i64 x.m.b, .int .i64 x.m.c, .bool x.m.ok, .slice lo ln lc]] wx fun r w' => r = .returned (.tuple #[]) ∧ SD F w M base d P pc (c.send x.m) w') := fun wx hw => hw.send x.m lo ln lc (by rw [← elv]; exact h.net.2 x hxm)
      have HLv : Hid (x.lv = .slice lo ln lc) := elv
      have nb : ¬ (i : Int) < 0 := by omega
      have hilI : ¬ (ns.length : Int) ≤ i := by omega
      have hilJ : (i : Int) < ns.length := by omega
      have hr1 : ns.length ≤ nc := by
        obtain ⟨ao', cap', e2, h2, _⟩ := h.net.1
        simp only [Value.slice.injEq, true_and] at e2
        omega
      clear h h0 hkd hev hx hxm hmem hcx elv eln elc hnl hi hR hC hB hc r1 r2 r3
      go_enter Try.func23, Try.ntmps23
      go_wp2
      (try rw [hW])
      clear hW
      go_quiet (fail)
      obtain ⟨W1, hW1, bW1, sW1⟩ := fold_dn W nq
      (try rw [hW1])
      have H1 := hide (H0.out.below bW1)
      have c0 := kept_cell bW1 c0
      have c1 := kept_cell bW1 c1
      have d1 := kept_cell bW1 d1
      have m0 := HC.out W1 bW1 0 _ rfl
      have m1 := HC.out W1 bW1 1 _ rfl
      have m2 := HC.out W1 bW1 2 _ rfl
      have m3 := HC.out W1 bW1 3 _ rfl
      have m4 := HC.out W1 bW1 4 _ rfl
      have m5 := HC.out W1 bW1 5 _ rfl
      have m6 := HC.out W1 bW1 6 _ rfl
      have m7 := HC.out W1 bW1 7 _ rfl
      have m8 := HC.out W1 bW1 8 x.lv rfl
      rw [HLv.out] at m8
      rw [Nat.add_zero] at m0
      clear hW1 bW1 H0 HC HLv
      go_wp2
      go_region_law ((go_simp; go_at_call 51; refine (HSn.out _ (H1.out.below (Below.refl _ _).drew)).mono ?_; rintro rr w2 ⟨rfl, hsd⟩))
      all_goals
        go_wp2
        go_ret
        exact ⟨rfl, hsd⟩
end Go.Proofs.Ytklkglbimjajnaa.sev1
namespace Go.Proofs.Ytklkglbimjajnaa.sev7
open Raft mem srun ssend sdown ssmall scopy srecs sapp ssame schos schosen scom sgrow sin sel stk slog sap0 sdl0 sdl3 sdl2
variable {F : Nat → Option Obj}
set_option maxRecDepth 20000 in
set_option maxHeartbeats 2000000 in
theorem event_7 (w : World) (M : Fz) (base d P pc : Nat) (c : Cl) (us : List PV) (ns : List MV) (nv : Value) (cs : List RV) (cv : Value) (h : Run (TS F) w M base d P pc c us ns nv cs cv) (e : Ev) (eo : Option Addr) (el ec : Nat) (hkd : e.kind = 7) (n : Nat) (h1 : 1 ≤ n) (h7 : n ≤ 7) (hg : Raft.Good n c) (hd : BytesM M (.slice eo el ec) e.data) :
    Calls Try.prog 23 #[.pointer (some ⟨d, 0, none⟩), .agg #[.int .i64 e.kind, .int .i64 e.n, .slice eo el ec]] w fun r w' => r = .returned (.int .i64 (c.event e).2) ∧ SD F w M base d P pc (c.event e).1 w' := by
  obtain ⟨W, hW⟩ : ∃ W, w.alloc (.cells #[.int .i64 e.kind, .int .i64 e.n, .slice eo el ec] 58) = W := ⟨_, rfl⟩
  have h0 := St1.begin h hW
  have c0 : W.cell? ⟨w.heap.size, 0, none⟩ = some (.int .i64 e.kind) := cell_of h0.b0 rfl
  have c1 : W.cell? ⟨w.heap.size, 1, none⟩ = some (.int .i64 e.n) := cell_of h0.b0 rfl
  have H0 := hide h0
  obtain ⟨hB, hC, s, hR⟩ := hg
  have hul : us.length = c.peers.length := by rw [← h.peers, List.length_map]
  have hcap := h.cap
  unfold maxLen at hcap
  have d0 : W.cell? ⟨d, 0, none⟩ = some (.slice (some ⟨P, 0, none⟩) us.length pc) := cell_of h0.run.blk rfl
  have k1 : (e.kind == 1) = false := by rw [hkd]; decide
  have k2 : (e.kind == 2) = false := by rw [hkd]; decide
  have k3 : (e.kind == 3) = false := by rw [hkd]; decide
  have k4 : (e.kind == 4) = false := by rw [hkd]; decide
  have k5 : (e.kind == 5) = false := by rw [hkd]; decide
  have k6 : (e.kind == 6) = false := by rw [hkd]; decide
  have k7 : (e.kind == 7) = true := by rw [hkd]; decide
  have kt : (false == false) = true := rfl
  have kf : (true == false) = false := rfl
  have kg : (false == true) = false := rfl
  have kh : (true == true) = true := rfl
  by_cases hneg : e.n < 0
  · have HE : Hid ((c.event e).2 = 6 ∧ (c.event e).1 = c) := by
      unfold Cl.event
      rw [if_neg (by omega), if_pos (by omega), if_pos (by exact .inl hneg)]
      exact ⟨rfl, rfl⟩
    rw [HE.out.1, HE.out.2]
    clear h h0 hkd HE hul
    go_enter Try.func23, Try.ntmps23
    go_wp2
    (try rw [hW])
    clear hW
    go_quiet (fail)
    obtain ⟨W1, hW1, bW1, sW1⟩ := fold_dn W nq
    (try rw [hW1])
    have H1 := hide (H0.out.below bW1)
    clear hW1 bW1 H0
    go_wp2
    go_ret
    exact ⟨rfl, H1.out.sd⟩
  · by_cases hbig : (us.length : Int) ≤ e.n
    · have HE : Hid ((c.event e).2 = 6 ∧ (c.event e).1 = c) := by
        unfold Cl.event
        rw [if_neg (by omega), if_pos (by omega), if_pos (by exact .inr (by omega))]
        exact ⟨rfl, rfl⟩
      rw [HE.out.1, HE.out.2]
      clear h h0 hkd HE hul
      go_enter Try.func23, Try.ntmps23
      go_wp2
      (try rw [hW])
      clear hW
      go_quiet (fail)
      obtain ⟨W1, hW1, bW1, sW1⟩ := fold_dn W nq
      (try rw [hW1])
      have H1 := hide (H0.out.below bW1)
      clear hW1 bW1 H0
      go_wp2
      go_ret
      exact ⟨rfl, H1.out.sd⟩
    · obtain ⟨i, hi⟩ : ∃ i : Nat, e.n = (i : Int) := ⟨e.n.toNat, by omega⟩
      have hil : i < us.length := by omega
      obtain ⟨x, hk⟩ : ∃ x, us[i]? = some x := ⟨_, List.getElem?_eq_getElem hil⟩
      have hat := (sdown.Run.at h hk).1
      have hin : i < n := by rw [← hR.len, ← hul]; exact hil
      have p0 := (h0.run.peerCell hk (j := 0) (v := .bool x.p.up) rfl).1
      rw [Nat.add_zero] at p0
      have nb : ¬ (i : Int) < 0 := by omega
      have hilI : ¬ (us.length : Int) ≤ i := by omega
      have hilJ : (i : Int) < us.length := by omega
      rw [hi] at c1 hneg hbig
      cases hup : x.p.up with
      | false =>
        have hev : c.event e = (c, 15) := by
          unfold Cl.event
          rw [if_neg (by omega), if_pos (by omega), if_neg (by rw [hi]; omega), hi, Int.toNat_natCast]
          dsimp only
          rw [hat, hup, if_pos (by rw [hkd]; rfl)]
        rw [hev]
        rw [hup] at p0
        clear h h0 hkd hk hat hul hi hB hC hR hev hup
        go_enter Try.func23, Try.ntmps23
        go_wp2
        (try rw [hW])
        clear hW
        go_quiet (fail)
        obtain ⟨W1, hW1, bW1, sW1⟩ := fold_dn W nq
        (try rw [hW1])
        have H1 := hide (H0.out.below bW1)
        have c0 := kept_cell bW1 c0
        have c1 := kept_cell bW1 c1
        have d0 := kept_cell bW1 d0
        have p0 := kept_cell bW1 p0
        clear hW1 bW1 H0 sW1
        go_wp2
        go_quiet (fail)
        obtain ⟨W2, hW2, bW2, sW2⟩ := fold_dn W1 nq
        (try rw [hW2])
        have H2 := hide (H1.out.below bW2)
        have c0 := kept_cell bW2 c0
        have c1 := kept_cell bW2 c1
        have d0 := kept_cell bW2 d0
        have p0 := kept_cell bW2 p0
        clear hW2 bW2 H1 sW2
        go_wp2
        go_quiet (fail)
        obtain ⟨W3, hW3, bW3, sW3⟩ := fold_dn W2 nq
        (try rw [hW3])
        have H3 := hide (H2.out.below bW3)
        have c0 := kept_cell bW3 c0
        have c1 := kept_cell bW3 c1
        have d0 := kept_cell bW3 d0
        have p0 := kept_cell bW3 p0
        clear hW3 bW3 H2 sW3
        go_wp2
        go_ret
        exact ⟨rfl, H3.out.sd⟩
      | true =>
        rw [hup] at p0
        have hxm : x ∈ us := List.mem_iff_getElem?.2 ⟨i, hk⟩
        have hF := deliv.fine hR hB hin
        rw [hat] at hF
        by_cases hro : x.p.role = 2
        · have hrob : ((x.p.role : Int) != 2) = false := by rw [hro]; simp
          obtain ⟨lo, lc, elv⟩ := recsM_slice (h.logs x hxm)
          have hlog := h.logs x hxm
          rw [elv] at hlog
          have hlcm := (recs_len hlog).2.1
          obtain ⟨L, eL⟩ : ∃ L, x.p.log.length = L := ⟨_, rfl⟩
          rw [eL] at elv hlog
          obtain ⟨ho, hc, ehd⟩ : ∃ o c, (.slice eo el ec : Value) = .slice o e.data.length c := by
            obtain ⟨⟨ao, cap, e1, _⟩, _⟩ := hd
            exact ⟨ao, cap, e1⟩
          simp only [Value.slice.injEq] at ehd
          obtain ⟨rfl, rfl, rfl⟩ := ehd
          have hecm : ec ≤ maxLen := by
            obtain ⟨⟨ao, cap, e1, e2, e3, _⟩, _⟩ := hd
            simp only [Value.slice.injEq] at e1
            obtain ⟨_, _, rfl⟩ := e1
            exact e3
          by_cases hsz : 1000 < e.data.length ∨ x.p.log.length = 100
          · have hev : c.event e = (c, 14) := by
              unfold Cl.event
              rw [if_neg (by omega), if_pos (by omega), if_neg (by rw [hi]; omega), hi, Int.toNat_natCast]
              dsimp only
              rw [hat, hup, if_neg (by rw [hkd]; decide), if_neg (by omega), if_neg (by omega), if_neg (by omega), if_neg (fun q => q hro), if_pos hsz]
            rw [hev]
            obtain ⟨DL, eDL⟩ : ∃ DL, e.data.length = DL := ⟨_, rfl⟩
            rw [eDL] at hsz
            rw [eL] at hsz
            have HP : Hid (∀ wx, St1 F w M base d P pc 58 #[.int .i64 e.kind, .int .i64 e.n, .slice eo e.data.length ec] c us ns nv cs cv M wx → wx.cell? ⟨P, i * 9 + 4, none⟩ = some (.int .i64 x.p.role) ∧ wx.cell? ⟨P, i * 9 + 5, none⟩ = some (.slice lo L lc) ∧ wx.cell? ⟨w.heap.size, 2, none⟩ = some (.slice eo DL ec)) := fun wx hw => by
              have q5 := (hw.run.peerCell hk (j := 5) (v := x.lv) rfl).1
              rw [elv] at q5
              refine ⟨(hw.run.peerCell hk (j := 4) (v := .int .i64 x.p.role) rfl).1, q5, ?_⟩
              rw [← eDL]
              exact cell_of hw.b0 rfl
            unfold maxLen at hlcm hecm
            clear h h0 hkd hk hat hul hi hB hC hR hev hup hF hxm eL elv hlog hro eDL hd
            go_enter Try.func23, Try.ntmps23
            go_wp2
            (try rw [hW])
            clear hW
            go_quiet (fail)
            obtain ⟨W1, hW1, bW1, sW1⟩ := fold_dn W nq
            (try rw [hW1])
            have H1 := hide (H0.out.below bW1)
            have c0 := kept_cell bW1 c0
            have c1 := kept_cell bW1 c1
            have d0 := kept_cell bW1 d0
            have p0 := kept_cell bW1 p0
            clear hW1 bW1 H0 sW1
            go_wp2
            go_quiet (fail)
            obtain ⟨W2, hW2, bW2, sW2⟩ := fold_dn W1 nq
            (try rw [hW2])
            have H2 := hide (H1.out.below bW2)
            have c0 := kept_cell bW2 c0
            have c1 := kept_cell bW2 c1
            have d0 := kept_cell bW2 d0
            have p0 := kept_cell bW2 p0
            clear hW2 bW2 H1 sW2
            go_wp2
            go_quiet (fail)
            obtain ⟨W3, hW3, bW3, sW3⟩ := fold_dn W2 nq
            (try rw [hW3])
            have H3 := hide (H2.out.below bW3)
            have c0 := kept_cell bW3 c0
            have c1 := kept_cell bW3 c1
            have d0 := kept_cell bW3 d0
            have p0 := kept_cell bW3 p0
            clear hW3 bW3 H2 sW3
            obtain ⟨q4, q5, e2⟩ := HP.out W3 H3.out
            clear HP d0 p0
            by_cases hs1 : 1000 < DL
            · have hs1I : (1000 : Int) < DL := by omega
              go_wp2
              go_ret
              exact ⟨rfl, H3.out.sd⟩
            · have hs1I : ¬ (1000 : Int) < DL := by omega
              have hs2 : ((L : Int) == 100) = true := by have := hsz.resolve_left hs1; rw [this]; rfl
              go_wp2
              go_ret
              exact ⟨rfl, H3.out.sd⟩
          · exact sev8.propose w M base d P pc c us ns nv cs cv h e eo _ ec hkd n h1 h7 ⟨hB, hC, s, hR⟩ hd i hi x hk hup hro hsz
        · have hrob : ((x.p.role : Int) != 2) = true := by simp; omega
          have hev : c.event e = (c, 15) := by
            unfold Cl.event
            rw [if_neg (by omega), if_pos (by omega), if_neg (by rw [hi]; omega), hi, Int.toNat_natCast]
            dsimp only
            rw [hat, hup, if_neg (by rw [hkd]; decide), if_neg (by omega), if_neg (by omega), if_neg (by omega), if_pos hro]
          rw [hev]
          have HP : Hid (∀ wx, St1 F w M base d P pc 58 #[.int .i64 e.kind, .int .i64 e.n, .slice eo el ec] c us ns nv cs cv M wx → wx.cell? ⟨P, i * 9 + 4, none⟩ = some (.int .i64 x.p.role)) := fun wx hw => (hw.run.peerCell hk (j := 4) (v := .int .i64 x.p.role) rfl).1
          clear h h0 hkd hk hat hul hi hB hC hR hev hup hF hxm hro
          go_enter Try.func23, Try.ntmps23
          go_wp2
          (try rw [hW])
          clear hW
          go_quiet (fail)
          obtain ⟨W1, hW1, bW1, sW1⟩ := fold_dn W nq
          (try rw [hW1])
          have H1 := hide (H0.out.below bW1)
          have c0 := kept_cell bW1 c0
          have c1 := kept_cell bW1 c1
          have d0 := kept_cell bW1 d0
          have p0 := kept_cell bW1 p0
          clear hW1 bW1 H0 sW1
          go_wp2
          go_quiet (fail)
          obtain ⟨W2, hW2, bW2, sW2⟩ := fold_dn W1 nq
          (try rw [hW2])
          have H2 := hide (H1.out.below bW2)
          have c0 := kept_cell bW2 c0
          have c1 := kept_cell bW2 c1
          have d0 := kept_cell bW2 d0
          have p0 := kept_cell bW2 p0
          clear hW2 bW2 H1 sW2
          go_wp2
          go_quiet (fail)
          obtain ⟨W3, hW3, bW3, sW3⟩ := fold_dn W2 nq
          (try rw [hW3])
          have H3 := hide (H2.out.below bW3)
          have c0 := kept_cell bW3 c0
          have c1 := kept_cell bW3 c1
          have d0 := kept_cell bW3 d0
          have p0 := kept_cell bW3 p0
          clear hW3 bW3 H2 sW3
          have q4 := HP.out W3 H3.out
          clear HP d0 p0
          go_wp2
          go_ret
          exact ⟨rfl, H3.out.sd⟩
theorem event_any (w : World) (M : Fz) (base d P pc : Nat) (c : Cl) (us : List PV) (ns : List MV) (nv : Value) (cs : List RV) (cv : Value) (h : Run (TS F) w M base d P pc c us ns nv cs cv) (e : Ev) (eo : Option Addr) (el ec : Nat) (n : Nat) (h1 : 1 ≤ n) (h7 : n ≤ 7) (hg : Raft.Good n c) (hd : BytesM M (.slice eo el ec) e.data) :
    Calls Try.prog 23 #[.pointer (some ⟨d, 0, none⟩), .agg #[.int .i64 e.kind, .int .i64 e.n, .slice eo el ec]] w fun r w' => r = .returned (.int .i64 (c.event e).2) ∧ SD F w M base d P pc (c.event e).1 w' := by
  by_cases k : e.kind = 1 ∨ e.kind = 2 ∨ e.kind = 3 ∨ e.kind = 4 ∨ e.kind = 5 ∨ e.kind = 6 ∨ e.kind = 7
  · rcases k with k | k | k | k | k | k | k
    · exact sev2.event_1 w M base d P pc c us ns nv cs cv h e eo el ec k n h1 h7 hg
    · exact sev1.event_2 w M base d P pc c us ns nv cs cv h e eo el ec k n h1 h7 hg
    · exact sev1.event_3 w M base d P pc c us ns nv cs cv h e eo el ec k n h1 h7 hg
    · exact sev1.event_4 w M base d P pc c us ns nv cs cv h e eo el ec k n h1 h7 hg
    · exact sev2.event_5 w M base d P pc c us ns nv cs cv h e eo el ec k n h1 h7 hg
    · exact sev2.event_6 w M base d P pc c us ns nv cs cv h e eo el ec k n h1 h7 hg
    · exact event_7 w M base d P pc c us ns nv cs cv h e eo el ec k n h1 h7 hg hd
  · exact sev0.event_none w M base d P pc c us ns nv cs cv h e eo el ec k
end Go.Proofs.Ytklkglbimjajnaa.sev7
namespace Go.Proofs.Ytklkglbimjajnaa.scl
open Raft mem srun ssend sdown ssmall scopy srecs sapp ssame schos schosen scom sgrow sin sel stk slog sap0
variable {F : Nat → Option Obj}
theorem info36 : (Try.prog.info? 36).map (fun i => (i.zero, i.size, i.bytes)) = some (some (.agg #[.bool false, .int .i64 0, .int .i64 0, .int .i64 0, .int .i64 0, .slice none 0 0, .slice none 0 0, .slice none 0 0, .slice none 0 0]), 9, 136) := by kernel_rfl
def upP : Peer := { Peer.zero with up := true }
def upV : PV := ⟨upP, .slice none 0 0, .slice none 0 0, .slice none 0 0, .slice none 0 0⟩
def peersN (k : Nat) : List Value := (List.replicate k upV).flatMap peerCells
theorem peersN_succ (k : Nat) : peersN (k + 1) = peersN k ++ [.bool true, .int .i64 0, .int .i64 0, .int .i64 0, .int .i64 0, .slice none 0 0, .slice none 0 0, .slice none 0 0, .slice none 0 0] := by
  unfold peersN
  rw [List.replicate_succ', List.flatMap_append]
  rfl
theorem own_eq {g n c q z : Nat} (hq : (Value.slice (some ⟨g, 0, none⟩) n c).ownBlock = some q) (e : q = z) : g = z := by
  simp [Value.ownBlock] at hq
  omega
def Begun (F : Nat → Option Obj) (w : World) (M : Fz) (n : Nat) (r : Ending) (w' : World) : Prop := ∃ d P pc us, r = .returned (.pointer (some ⟨d, 0, none⟩)) ∧ Run (TS F) w' M w.heap.size d P pc (Cl.begin n) us [] (.slice none 0 0) [] (.slice none 0 0) ∧ Below w.heap.size w w'
def CL (w : World) (d k : Nat) (v : Value) (wr : World) : Prop := wr.heap[d]? = some (.cells #[v, .slice none 0 0, .slice none 0 0, .bool false] 65 (0, 0)) ∧ wr.ownsRow w.heap.size 36 9 v k (peersN k) ∧ Below w.heap.size w wr ∧ w.heap.size ≤ d ∧ (∀ g, v.ownBlock = some g → g ≠ d)
theorem CL.run {w wr : World} {M : Fz} {d k : Nat} {v : Value} (h : CL w d k v wr) (hI : In M w) (hk : 1 ≤ k) (hF : ∀ b o, F b = some o → (w.heap[b]? = some o ∧ M b = none) ∧ b < w.heap.size) : ∃ P pc us, Run (TS F) wr M w.heap.size d P pc (Cl.begin k) us [] (.slice none 0 0) [] (.slice none 0 0) := by
  obtain ⟨h1, h2, h3, h4, h5⟩ := h
  obtain ⟨q0, ⟨q1, q2⟩ | ⟨P, pc, cur, q1, q2, q3, q4, q5, q6, q7⟩⟩ := h2
  · omega
  · subst q1
    have hnr : ∀ b, ¬ IsRow (List.replicate k upV) b := fun b ⟨k1, y, j, u, e1, e2, e3⟩ => by
      have hy : y = upV := List.eq_of_mem_replicate (List.mem_of_getElem? e1)
      subst hy
      have : u = .slice none 0 0 := by
        rcases j with _ | _ | _ | j <;> simp [rows, upV] at e2 <;> exact e2.symm
      subst this
      simp [Value.ownBlock] at e3
    have hPd : P ≠ d := h5 P rfl
    have hmem : ∀ y ∈ List.replicate k upV, y = upV := fun y hy => List.eq_of_mem_replicate hy
    refine ⟨P, pc, List.replicate k upV, ?_⟩
    exact {
      inn := hI.below h3
      blk := by rw [List.length_replicate]; exact h1
      row := ⟨cur, q3, q6, by rw [List.length_replicate]; exact q7⟩
      cap := by rw [List.length_replicate]; exact ⟨q4, q5⟩
      peers := by rw [List.map_replicate]; rfl
      logs := fun y hy => by rw [hmem y hy]; exact RecsM.nil M
      votes := fun y hy => by rw [hmem y hy]; exact World.ownsRow_nil _ _ _ _
      next := fun y hy => by rw [hmem y hy]; exact World.ownsRow_nil _ _ _ _
      mat := fun y hy => by rw [hmem y hy]; exact World.ownsRow_nil _ _ _ _
      lone := fun k1 k2 y1 y2 i1 i2 u1 u2 b g1 g2 g3 g4 g5 g6 => absurd ⟨k1, y1, i1, u1, g1, g3, g5⟩ (hnr b)
      free := fun b hb => by
        rcases hb with rfl | rfl | hb | hb
        · exact hI.fresh h4
        · exact hI.fresh q2
        · exact absurd hb (hnr b)
        · simp [Value.ownBlock] at hb
      net := ⟨RowM.nil M 9, by simp⟩
      nets := rfl
      chos := World.ownsRow_nil _ _ _ _
      chosen := rfl
      data := by simp
      low := ⟨h4, q2⟩
      apart := ⟨Ne.symm hPd, hnr d, hnr P, by simp [Value.ownBlock], by simp [Value.ownBlock], fun b hb => absurd hb (hnr b)⟩
      far := fun b o e => ⟨(h3.block b (hF b o e).2).trans (hF b o e).1.1, (hF b o e).1.2, fun hm => by
        have hbl := (hF b o e).2
        rcases hm with hm | hm | hm | hm
        · omega
        · omega
        · exact absurd hm (hnr b)
        · simp [Value.ownBlock] at hm⟩ }
set_option maxRecDepth 20000 in
set_option maxHeartbeats 1000000 in
theorem cluster_any (w : World) (M : Fz) (hI : In M w) (n : Nat) (h1 : 1 ≤ n) (h7 : n ≤ 7) (hF : ∀ b o, F b = some o → (w.heap[b]? = some o ∧ M b = none) ∧ b < w.heap.size) :
    Calls Try.prog 22 #[.int .i64 n] w fun r w' => Begun F w M n r w' := by
  obtain ⟨W, hW⟩ : ∃ W, w.alloc (.cells #[.slice none 0 0, .slice none 0 0, .slice none 0 0, .bool false] 65) = W := ⟨_, rfl⟩
  have H0 : Hid (CL w w.heap.size 0 (.slice none 0 0) W) := by
    refine ⟨by rw [← hW]; exact heap_alloc_new w _, World.ownsRow_nil _ _ _ _, by rw [← hW]; exact more (Below.refl _ _) _, Nat.le_refl _, by simp [Value.ownBlock]⟩
  obtain ⟨i0, hii, hz0, hz1, hz2⟩ := info_parts info36
  have HI : Hid (Try.prog.info? 36 = some i0 ∧ i0.zero = some (.agg #[.bool false, .int .i64 0, .int .i64 0, .int .i64 0, .int .i64 0, .slice none 0 0, .slice none 0 0, .slice none 0 0, .slice none 0 0]) ∧ i0.size = 9 ∧ i0.bytes = 136) := ⟨hii, hz0, hz1, hz2⟩
  have HEnd : Hid (∀ v wr, CL w w.heap.size n v wr → Begun F w M n (.returned (.pointer (some ⟨w.heap.size, 0, none⟩))) wr) := fun v wr h => by
    obtain ⟨P, pc, us, hr⟩ := h.run hI h1 hF
    exact ⟨_, P, pc, us, rfl, hr, h.2.2.1⟩
  have HSt : Hid (∀ k o m c wr, CL w w.heap.size k (.slice o m c) wr → wr.cell? ⟨w.heap.size, 0, none⟩ = some (.slice o m c) ∧ wr.frozen? ⟨w.heap.size, 0, none⟩ = false) := fun k o m c wr h => ⟨cell_of h.1 rfl, frozen_of h.1 0⟩
  have HAp : Hid (∀ k o m c wr, CL w w.heap.size k (.slice o m c) wr → ∃ Y, wr.alloc (.cells #[.bool true, .int .i64 0, .int .i64 0, .int .i64 0, .int .i64 0, .slice none 0 0, .slice none 0 0, .slice none 0 0, .slice none 0 0] 36) = Y ∧ Y.ownsRow w.heap.size 36 9 (.slice o m c) k (peersN k) ∧ (∀ j u, ([.bool true, .int .i64 0, .int .i64 0, .int .i64 0, .int .i64 0, .slice none 0 0, .slice none 0 0, .slice none 0 0, .slice none 0 0] : List Value)[j]? = some u → Y.cell? ((⟨wr.heap.size, 0, none⟩ : Addr).add j) = some u) ∧ w.heap.size ≤ Y.heap.size ∧ ∀ g cp w', w'.ownsRow w.heap.size 36 9 (.slice (some ⟨g, 0, none⟩) (k + 1) cp) (k + 1) (peersN k ++ [.bool true, .int .i64 0, .int .i64 0, .int .i64 0, .int .i64 0, .slice none 0 0, .slice none 0 0, .slice none 0 0, .slice none 0 0]) → Y.grownBy w' (Value.slice o m c).ownBlock → ((Value.slice o m c).ownBlock = some g ∨ g = Y.heap.size) → (w'.cell? ⟨w.heap.size, 0, none⟩ = some (.slice o m c) ∧ w'.frozen? ⟨w.heap.size, 0, none⟩ = false) ∧ Hid (CL w w.heap.size (k + 1) (.slice (some ⟨g, 0, none⟩) (k + 1) cp) (w'.setCell ⟨w.heap.size, 0, none⟩ (.slice (some ⟨g, 0, none⟩) (k + 1) cp)))) := fun k o m c wr h => by
    obtain ⟨a1, a2, a3, a4, a5⟩ := h
    obtain ⟨Y, hY⟩ : ∃ Y, wr.alloc (.cells #[.bool true, .int .i64 0, .int .i64 0, .int .i64 0, .int .i64 0, .slice none 0 0, .slice none 0 0, .slice none 0 0, .slice none 0 0] 36) = Y := ⟨_, rfl⟩
    have bY : Below wr.heap.size wr Y := by rw [← hY]; exact more (Below.refl _ _) _
    have hbx : Y.heap[wr.heap.size]? = some (.cells #[.bool true, .int .i64 0, .int .i64 0, .int .i64 0, .int .i64 0, .slice none 0 0, .slice none 0 0, .slice none 0 0, .slice none 0 0] 36 (0, 0)) := by rw [← hY]; exact heap_alloc_new wr _
    have hlt : w.heap.size < wr.heap.size := (Array.getElem?_eq_some_iff.1 a1).1
    refine ⟨Y, hY, row_kept a2 (fun g hg => bY.block g (row_lt a2 hg).2), fun j u hu => ?_, by have := bY.size; omega, fun g cp w' p1 p2 p3 => ?_⟩
    · rw [addr_add, Nat.zero_add]
      exact cell_of hbx (by simpa using hu)
    · have hdY := kept bY a1 (Nat.le_refl _)
      have hd' : w'.heap[w.heap.size]? = some (.cells #[.slice o m c, .slice none 0 0, .slice none 0 0, .bool false] 65 (0, 0)) := (p2.block _ (by have := bY.size; omega) (fun e => a5 _ e.symm rfl)).trans hdY
      have hgd : g ≠ w.heap.size := by
        rcases p3 with p3 | p3
        · exact a5 g p3
        · have := bY.size; omega
      refine ⟨⟨cell_of hd' rfl, frozen_of hd' 0⟩, ?_⟩
      have hb' : Below w.heap.size w w' := (a3.trans (bY.mono a3.size)).grown p2 (by have := bY.size; omega) (fun q hq => (row_lt a2 hq).1)
      refine ⟨?_, ?_, hb'.setCell (Nat.le_refl _) _, Nat.le_refl _, fun q hq e => hgd (own_eq hq e)⟩
      · have := heap_setCell_same w' w.heap.size 0 _ 65 (.slice (some ⟨g, 0, none⟩) (k + 1) cp) hd'
        simpa using this
      · rw [peersN_succ]
        exact row_kept p1 (fun q hq => Below.heap_setCell w' ⟨w.heap.size, 0, none⟩ _ q (fun e => hgd (by
          have e2 : g = q := by simpa [Value.ownBlock] using hq
          have e3 : q = w.heap.size := e
          omega)))
  clear hii hz0 hz1 hz2 hF
  go_enter Try.func22, Try.ntmps22
  go_wp2
  (try rw [hW])
  clear hW
  go_loopw [4] (fun a wr => ∃ (k : Nat) (o : Option Addr) (m c : Nat), k ≤ n ∧ a = .int .i64 k ∧ Hid (CL w w.heap.size k (.slice o m c) wr)) (fun a _ => n - (intOf a).toNat)
  case atStart => exact ⟨0, none, 0, 0, Nat.zero_le _, rfl, H0⟩
  case round =>
    clear H0
    obtain ⟨k, o, m, c, hk, rfl, HQ⟩ := hrel
    by_cases hkn : k < n
    · have hknI : (k : Int) < n := by omega
      obtain ⟨s1, s2⟩ := HSt.out k o m c wr HQ.out
      obtain ⟨Y, hY, y1, y2, y3, y4⟩ := HAp.out k o m c wr HQ.out
      have HY1 := hide y1
      have HY2 := hide y2
      have HY4 := hide y4
      have hYz : Y.heap.size = wr.heap.size + 1 := by rw [← hY]; simp [World.size_alloc]
      clear y1 y2 y4 HQ HAp HSt
      go_wp2_with (at_builtin; (try rw [hY]); refine wpList_append_lies _ rfl _ _ _ rfl w.heap.size 36 i0 (.agg #[.bool false, .int .i64 0, .int .i64 0, .int .i64 0, .int .i64 0, .slice none 0 0, .slice none 0 0, .slice none 0 0, .slice none 0 0]) 9 136 Try.underlying26 HI.out.1 HI.out.2.1 HI.out.2.2.1 HI.out.2.2.2 rfl (by omega) _ k (peersN k) rfl HY1.out ⟨wr.heap.size, 0, none⟩ 1 1 [.bool true, .int .i64 0, .int .i64 0, .int .i64 0, .int .i64 0, .slice none 0 0, .slice none 0 0, .slice none 0 0, .slice none 0 0] rfl rfl HY2.out (by intro u hu; simp only [List.mem_cons, List.not_mem_nil, or_false] at hu; rcases hu with rfl | rfl | rfl | rfl | rfl | rfl | rfl | rfl | rfl <;> rfl) (by omega) (by unfold maxLen; omega) (by omega) y3 Y.heap.size rfl ?_; intro g cp w1 p1 p2 p3 p4; obtain ⟨⟨z1, z2⟩, HN⟩ := HY4.out g cp w1 p1 p2 p3; clear p1 p2 p3 p4)
      go_roundw
      case rel => exact ⟨k + 1, _, _, _, by omega, by go_num, HN⟩
      case measure => simp [intOf]; omega
    · have hknI : ¬ (k : Int) < n := by omega
      obtain rfl : k = n := by omega
      have HZ := hide (HEnd.out _ wr HQ.out)
      clear HQ HEnd HAp HSt
      go_wp2
      go_ret
      exact HZ.out
end Go.Proofs.Ytklkglbimjajnaa.scl
namespace Go.Proofs.Ytklkglbimjajnaa.slg
open Raft mem srun ssend sdown ssmall scopy srecs sapp ssame schos schosen scom sgrow sin sel stk slog sap0
variable {F : Nat → Option Obj}
def LogE (w : World) (M : Fz) (l : List Rc) (r : Ending) (w' : World) : Prop := ∃ o c M', r = .returned (.slice o l.length c) ∧ ntold.FP w M w' M' ∧ RecsM M' (.slice o l.length c) l
set_option maxRecDepth 20000 in
set_option maxHeartbeats 1000000 in
theorem log_any (w : World) (M : Fz) (hI : In M w) (l : List Rc) (lo : Option Addr) (L lc : Nat) (hl : RecsM M (.slice lo L lc) l) (hlen : l.length ≤ 1000) :
    Calls Try.prog 54 #[.slice lo L lc] w fun r w' => LogE w M l r w' := by
  obtain ⟨hLn, hlcm, hLc⟩ := recs_len hl
  have HR : Hid (In M w ∧ L = l.length) := ⟨hI, hLn⟩
  have hLI : L ≤ 1000 := by omega
  obtain ⟨W0, hW0⟩ : ∃ W0, w.alloc (.cells #[] 38) = W0 := ⟨_, rfl⟩
  have HLog0 : Hid (Log w W0 M (.slice (some ⟨w.heap.size, 0, none⟩) 0 0) (l.take 0) M []) := by
    rw [← hW0]
    exact ⟨Le.refl M, hI.below (more (Below.refl _ _) _), lit75 (heap_alloc_new w _) (Nat.le_refl _), by simp, by simp, more (Below.refl _ _) _, fun b ob hb => .inl hb⟩
  have HRec : Hid (∀ (M' : Fz) (wx : World) (j : Nat), Le M M' → In M' wx → j < L → ∃ b off r o n c, lo = some ⟨b, off, none⟩ ∧ l[j]? = some r ∧ wx.cell? ⟨b, off + j * 3, none⟩ = some (.int .i64 r.term) ∧ wx.cell? ⟨b, off + j * 3 + 1, none⟩ = some (.int .i64 r.index) ∧ wx.cell? ⟨b, off + j * 3 + 2, none⟩ = some (.slice o n c) ∧ BytesM M' (.slice o n c) r.data ∧ r.data.length ≤ 1000) := fun M' wx j hle hIn hj => by
    obtain ⟨r, hr⟩ : ∃ r, l[j]? = some r := ⟨_, List.getElem?_eq_getElem (by omega)⟩
    obtain ⟨b, off, dv, q1, q2, q3, q4, q5, q6⟩ := recs_cell (hl.le hle) hIn hr
    obtain ⟨o, n, c, q7⟩ := bytes_slice q5
    subst q7
    exact ⟨b, off, r, o, n, c, q1, hr, q2, q3, q4, q5, q6⟩
  have HDone : Hid (∀ wr o n c M' ls, Log w wr M (.slice o n c) (l.take L) M' ls → LogE w M l (.returned (.slice o n c)) wr) := fun wr o n c M' ls h => by
    rw [HR.out.2, List.take_length] at h
    obtain ⟨M2, g1, g2, g3, g4⟩ := h.done HR.out.1
    have hn := (slog.Log.len h).1
    subst hn
    exact ⟨o, c, M2, rfl, ⟨g1, g2, h.bel, g4⟩, g3⟩
  obtain ⟨i0, hi, hz0, hz1, hz2⟩ := info_parts info75
  have HI : Hid (Try.prog.info? 38 = some i0 ∧ i0.zero = some (.agg #[.int .i64 0, .int .i64 0, .slice none 0 0]) ∧ i0.size = 3 ∧ i0.bytes = 40) := ⟨hi, hz0, hz1, hz2⟩
  unfold maxLen at hlcm
  clear hi hz0 hz1 hz2 hl hI hLn hlen
  go_enter Try.func54, Try.ntmps54
  go_wp2
  (try rw [hW0])
  clear hW0
  go_loopw [3, 4] (fun lv i wr => ∃ (j : Nat) (o : Option Addr) (n c : Nat), j ≤ L ∧ i = .int .i64 j ∧ lv = .slice o n c ∧ Hid (∃ M' ls, Log w wr M (.slice o n c) (l.take j) M' ls ∧ ls.length = j)) (fun _ i _ => L - (intOf i).toNat)
  case atStart => exact ⟨0, _, 0, 0, by omega, by simp, rfl, hide ⟨M, [], HLog0.out, rfl⟩⟩
  case round =>
    obtain ⟨j, o, n, c', hj, rfl, rfl, HJ⟩ := hrel
    obtain ⟨M', ls, hLg, hlsj⟩ := HJ.out
    by_cases hlt : j < L
    · obtain ⟨b, off, r, ro, rn, rc, rfl, hr, q0, q1, q2, qb, qd⟩ := HRec.out M' wr j hLg.le hLg.inn hlt
      have HC := copy_any wr M' hLg.inn r.term r.index r.data qd ro rn rc qb
      have hlI : (j : Int) < L := by omega
      have hsz := hLg.bel.size
      have HLg : Hid (Log w wr M (.slice o n c') (l.take j) M' ls ∧ ls.length = j ∧ l[j]? = some r ∧ r.data.length ≤ 1000) := ⟨hLg, hlsj, hr, qd⟩
      have HWI : Hid (In M w) := HR.out.1
      clear hLg hlsj HJ HLog0 hr qb qd HDone
      go_wp2_with fail
      refine HC.mono ?_
      rintro rr w1 ⟨M'', do_, dn, dc, rfl, l1, in1, by1, bel1, dom1⟩
      clear HC
      have s1 := bel1.size
      have hO1 : w1.ownsRow w.heap.size 38 3 (.slice o n c') ls.length (ls.flatMap recCells) := row_kept HLg.out.1.row (fun g' hg' => bel1.block g' (row_lt HLg.out.1.row hg').2)
      have HO1 : Hid ((w1.alloc (.cells #[.int .i64 r.term, .int .i64 r.index, .slice do_ dn dc] 38)).ownsRow w.heap.size 38 3 (.slice o n c') ls.length (ls.flatMap recCells)) := row_kept hO1 (fun g' hg' => Below.heap_alloc _ _ _ (row_lt hO1 hg').2)
      have HD : Hid (Le M' M'' ∧ In M'' w1 ∧ BytesM M'' (.slice do_ dn dc) r.data ∧ Below wr.heap.size wr w1 ∧ ∀ b ob, M'' b = some ob → M' b = some ob ∨ (wr.heap.size ≤ b ∧ ∃ cur fr, ob = .cells cur 5 fr)) := ⟨l1, in1, by1, bel1, dom1⟩
      have HLJ : Hid (ls.length ≤ 1000) := by have := HLg.out.2.1; show _ ≤ _; omega
      clear hO1 l1 in1 by1 bel1 dom1 q0 q1 q2
      go_wp2_with (at_builtin; refine wpList_append_own _ rfl _ _ 28 rfl w.heap.size 38 i0 (.agg #[.int .i64 0, .int .i64 0, .slice none 0 0]) 3 40 Try.underlying28 HI.out.1 HI.out.2.1 HI.out.2.2.1 HI.out.2.2.2 rfl (by decide) _ ls.length (ls.flatMap recCells) rfl HO1.out ⟨w1.heap.size, 0, none⟩ 1 1 [.int .i64 r.term, .int .i64 r.index, .slice do_ dn dc] rfl rfl ?c1 ?c2 ?c3 ?c4 ?c5 ?_)
      case c1 =>
        intro i' u' hu'
        have hnw : (w1.alloc (.cells #[.int .i64 r.term, .int .i64 r.index, .slice do_ dn dc] 38)).heap[w1.heap.size]? = some (.cells #[.int .i64 r.term, .int .i64 r.index, .slice do_ dn dc] 38 (0, 0)) := heap_alloc_new w1 _
        rw [addr_add, Nat.zero_add]
        refine cell_of hnw ?_
        simpa using hu'
      case c2 =>
        intro u' hu'
        simp only [List.mem_cons, List.not_mem_nil, or_false] at hu'
        rcases hu' with rfl | rfl | rfl <;> rfl
      case c3 => have := HLJ.out; unfold maxLen; omega
      case c4 => have := HLJ.out; omega
      case c5 => first | omega | (simp; omega)
      intro v2 w2 O2 G2 _
      obtain ⟨o2, n2, c2, ev2⟩ := own_slice O2
      subst ev2
      have HN : Hid (∃ M' ls, Log w w2 M (.slice o2 n2 c2) (l.take (j + 1)) M' ls ∧ ls.length = j + 1) := by
        have hD := HD.out
        have hBa : Below wr.heap.size wr (w1.alloc (.cells #[.int .i64 r.term, .int .i64 r.index, .slice do_ dn dc] 38)) := hD.2.2.2.1.alloc hD.2.2.2.1.size _
        have hmore := HLg.out.1.more (dv := .slice do_ dn dc) hD.1 (hD.2.1.below (more (Below.refl _ _) _)) hBa hD.2.2.2.2 hD.2.2.1 HLg.out.2.2.2 HWI.out O2 G2
        refine hide ⟨M'', ls ++ [⟨r, .slice do_ dn dc⟩], ?_, by rw [List.length_append, HLg.out.2.1]; rfl⟩
        rw [schos.take_snoc HLg.out.2.2.1]
        exact hmore
      clear O2 G2 HO1 HD HLg
      go_wp2
      go_roundw
      case rel => exact ⟨j + 1, o2, n2, c2, by omega, by go_num, rfl, HN⟩
      case measure => simp [intOf]; omega
    · have hlI : ¬ (j : Int) < L := by omega
      obtain rfl : j = L := by omega
      have HZ := hide (HDone.out wr o n c' M' ls hLg)
      clear hLg HJ HLog0 HDone
      go_wp2
      go_ret
      exact HZ.out
end Go.Proofs.Ytklkglbimjajnaa.slg
namespace Go.Proofs.Ytklkglbimjajnaa.sow0
open Raft mem srun ssend sdown ssmall scopy srecs sapp ssame schos schosen scom sgrow sin sel stk slog sap0
variable {F : Nat → Option Obj}
theorem row_of_own {w : World} {M : Fz} {base e sz n : Nat} {v : Value} {xs : List Value} (h : w.ownsRow base e sz v n xs) (hM : ∀ g, v.ownBlock = some g → M g = w.heap[g]?) : RowM M v n sz xs := by
  obtain ⟨h1, ⟨rfl, rfl⟩ | ⟨g, cap, cur, rfl, hb, hg, hnc, hcm, hcs, ht⟩⟩ := h
  · obtain rfl : xs = [] := List.length_eq_zero_iff.1 (by omega)
    exact RowM.nil M sz
  · refine ⟨_, cap, rfl, hnc, hcm, h1, (fun h => by cases h), fun hp => ⟨g, 0, rfl, fun i v hv => ?_⟩⟩
    have hi : i < n * sz := by rw [← h1]; exact (List.getElem?_eq_some_iff.1 hv).1
    rw [← ht, List.getElem?_take_of_lt hi] at hv
    simp only [cellM, hM g rfl, hg, Nat.zero_add]
    simpa using hv
theorem cellM_at {M : Fz} {b i t : Nat} {cur : Array Value} {fr : Nat × Nat} (h : M b = some (.cells cur t fr)) : cellM M b i = cur[i]? := by
  unfold cellM
  rw [h]
def toV (x : PV) : gtold.PV := ⟨x.p, x.lv, x.vv, x.nv, x.mv⟩
theorem flat_toV (us : List PV) : (us.map toV).flatMap gtold.peerCells = us.flatMap peerCells := by
  rw [List.flatMap_map]
  rfl
open Classical in
theorem Run.frozen {w : World} {M : Fz} {base d P pc : Nat} {c : Cl} {us : List PV} {ns : List MV} {nv : Value} {cs : List RV} {cv : Value} (h : Run (TS F) w M base d P pc c us ns nv cs cv) :
    ∃ M', Le M M' ∧ In M' w ∧ gt8.CluV M' c (.slice (some ⟨P, 0, none⟩) us.length pc) nv cv ∧ (∀ b, M' b ≠ none → M b ≠ none ∨ base ≤ b) ∧ (∀ b, M b = none → ¬ (b = P ∨ IsRow us b ∨ cv.ownBlock = some b) → M' b = none) := by
  refine ⟨fun b => if b = P ∨ IsRow us b ∨ cv.ownBlock = some b then w.heap[b]? else M b, ?_, ?_, ?_, ?_, ?_⟩
  · intro b o hb
    show (if _ then _ else _) = _
    split
    · next q =>
      have := h.free b (.inr q)
      rw [hb] at this
      cases this
    · exact hb
  · intro b o hb
    have hb : (if b = P ∨ IsRow us b ∨ cv.ownBlock = some b then w.heap[b]? else M b) = some o := hb
    split at hb
    · exact hb
    · exact h.inn b o hb
  · have hle : Le M (fun b => if b = P ∨ IsRow us b ∨ cv.ownBlock = some b then w.heap[b]? else M b) := fun b o hb => by
      show (if _ then _ else _) = _
      split
      · next q =>
        have := h.free b (.inr q)
        rw [hb] at this
        cases this
      · exact hb
    have hrow : ∀ x ∈ us, ∀ v ∈ rows x, ∀ g, v.ownBlock = some g → (if g = P ∨ IsRow us g ∨ cv.ownBlock = some g then w.heap[g]? else M g) = w.heap[g]? := fun x hx v hv g hg => if_pos (.inr (.inl (mem_blocks hx hv hg)))
    refine ⟨us.map toV, ns, by rw [List.map_map]; exact h.peers, ⟨?_, fun y hy => ?_⟩, h.nets, h.net.le hle, cs, h.chosen, row_of_own h.chos (fun g hg => if_pos (.inr (.inr hg))), fun y hy => ⟨(h.data y hy).1.le hle, (h.data y hy).2⟩⟩
    · rw [List.length_map, flat_toV]
      obtain ⟨cur, q1, q2, q3⟩ := h.row
      refine ⟨_, pc, rfl, h.cap.1, h.cap.2, by rw [flat_len peerCells 9 peerCells_len], (fun h => by cases h), fun hp => ⟨P, 0, rfl, fun i v hv => ?_⟩⟩
      have hi : i < us.length * 9 := by rw [← flat_len peerCells 9 peerCells_len]; exact (List.getElem?_eq_some_iff.1 hv).1
      rw [← q3, List.getElem?_take_of_lt hi] at hv
      have e : (if P = P ∨ IsRow us P ∨ cv.ownBlock = some P then w.heap[P]? else M P) = some (.cells cur 36 (0, 0)) := by rw [if_pos (.inl rfl)]; exact q1
      refine (cellM_at e).trans ?_
      rw [Nat.zero_add]
      simpa using hv
    · obtain ⟨x, hx, rfl⟩ := List.mem_map.1 hy
      exact ⟨(h.logs x hx).le hle, row_of_own (h.votes x hx) (hrow x hx x.vv (by simp [rows])), row_of_own (h.next x hx) (hrow x hx x.nv (by simp [rows])), row_of_own (h.mat x hx) (hrow x hx x.mv (by simp [rows]))⟩
  · intro b hb
    have hb : (if b = P ∨ IsRow us b ∨ cv.ownBlock = some b then w.heap[b]? else M b) ≠ none := hb
    split at hb
    · next q =>
      rcases q with rfl | q | q
      · exact .inr h.low.2
      · exact .inr (h.blocks_lt q).1
      · exact .inr (row_lt h.chos q).1
    · exact .inl hb
  · intro b hb hn
    show (if _ then _ else _) = _
    rw [if_neg hn]
    exact hb
structure OI (w : World) (M M1 : Fz) (t sz bx : Nat) (bc : Array Value) (ic : Array Value) (k : Nat) (v : Value) (cells : List Value) (M' : Fz) (wr : World) : Prop where
  fp : ntold.FP w M wr M'
  row : wr.ownsRow w.heap.size t sz v k cells
  free : ∀ g, v.ownBlock = some g → M' g = none
  le : Le M1 M'
  box : M' bx = none ∧ w.heap.size + 1 < bx
  blk : wr.heap[bx]? = some (.cells bc 30 (0, 0))
  b0 : wr.heap[w.heap.size]? = some (.cells ic 30 (0, 0))
  b1 : wr.heap[w.heap.size + 1]? = some (.cells #[.slice none 0 0, .slice none 0 0, .slice none 0 0, .bool false] 30 (0, 0))
  fz : M' w.heap.size = none ∧ M' (w.heap.size + 1) = none
section
variable {w : World} {M M1 : Fz} {t sz bx : Nat} {bc ic : Array Value} {k : Nat} {v : Value} {cells : List Value} {M' : Fz} {wr : World}
theorem OI.below (h : OI w M M1 t sz bx bc ic k v cells M' wr) {wx : World} (hb : Below wr.heap.size wr wx) : OI w M M1 t sz bx bc ic k v cells M' wx :=
  ⟨h.fp.more hb, row_kept h.row (fun g hg => hb.block g (row_lt h.row hg).2), h.free, h.le, h.box, kept hb h.blk (Nat.le_refl _), kept hb h.b0 (Nat.le_refl _), kept hb h.b1 (Nat.le_refl _), h.fz⟩
theorem OI.freeze (h : OI w M M1 t sz bx bc ic k v cells M' wr) {wx : World} {M2 : Fz} (f : ntold.FP wr M' wx M2) : OI w M M1 t sz bx bc ic k v cells M2 wx := by
  have hf : ∀ b, M' b = none → b < wr.heap.size → M2 b = none := fun b e hlt => by
    cases e2 : M2 b with
    | none => rfl
    | some o =>
      rcases f.new b (by rw [e2]; simp) with g | g
      · exact absurd e g
      · omega
  have l0 := (Array.getElem?_eq_some_iff.1 h.b0).1
  have l1 := (Array.getElem?_eq_some_iff.1 h.b1).1
  have l2 := (Array.getElem?_eq_some_iff.1 h.blk).1
  exact ⟨h.fp.trans f, row_kept h.row (fun g hg => f.below.block g (row_lt h.row hg).2), fun g hg => hf g (h.free g hg) (row_lt h.row hg).2, h.le.trans f.le, ⟨hf _ h.box.1 l2, h.box.2⟩, kept f.below h.blk (Nat.le_refl _), kept f.below h.b0 (Nat.le_refl _), kept f.below h.b1 (Nat.le_refl _), hf _ h.fz.1 l0, hf _ h.fz.2 l1⟩
theorem OI.other (h : OI w M M1 t sz bx bc ic k v cells M' wr) {g i : Nat} {u : Value} (hg : w.heap.size ≤ g) (hM : M' g = none) (h1 : g ≠ bx) (h2 : g ≠ w.heap.size) (h3 : g ≠ w.heap.size + 1) (h4 : v.ownBlock ≠ some g) : OI w M M1 t sz bx bc ic k v cells M' (wr.setCell ⟨g, i, none⟩ u) := by
  have hne : ∀ b, b ≠ g → (wr.setCell ⟨g, i, none⟩ u).heap[b]? = wr.heap[b]? := fun b hb => Below.heap_setCell wr ⟨g, i, none⟩ u b hb
  exact ⟨⟨h.fp.le, h.fp.inn.set hM u, h.fp.below.setCell hg u, h.fp.new⟩, row_kept h.row (fun q hq => hne q (fun e => h4 (e ▸ hq))), h.free, h.le, h.box, (hne _ (Ne.symm h1)).trans h.blk, (hne _ (Ne.symm h2)).trans h.b0, (hne _ (Ne.symm h3)).trans h.b1, h.fz⟩
theorem OI.push (h : OI w M M1 t sz bx bc ic k v cells M' wr) {w' : World} {g cp j : Nat} {more_ : List Value} (p1 : w'.ownsRow w.heap.size t sz (.slice (some ⟨g, 0, none⟩) (k + 1) cp) (k + 1) (cells ++ more_)) (p2 : wr.grownBy w' v.ownBlock) (p3 : v.ownBlock = some g ∨ g = wr.heap.size) (hbv : v.ownBlock ≠ some bx) (hv0 : v.ownBlock ≠ some w.heap.size) (hv1 : v.ownBlock ≠ some (w.heap.size + 1)) :
    (w'.heap[bx]? = some (.cells bc 30 (0, 0))) ∧ OI w M M1 t sz bx (bc.setIfInBounds j (.slice (some ⟨g, 0, none⟩) (k + 1) cp)) ic (k + 1) (.slice (some ⟨g, 0, none⟩) (k + 1) cp) (cells ++ more_) M' (w'.setCell ⟨bx, j, none⟩ (.slice (some ⟨g, 0, none⟩) (k + 1) cp)) := by
  have l0 := (Array.getElem?_eq_some_iff.1 h.b0).1
  have l1 := (Array.getElem?_eq_some_iff.1 h.b1).1
  have l2 := (Array.getElem?_eq_some_iff.1 h.blk).1
  have hblk : w'.heap[bx]? = some (.cells bc 30 (0, 0)) := (p2.block bx l2 (fun e => hbv e.symm)).trans h.blk
  have hne : ∀ b, b ≠ bx → (w'.setCell ⟨bx, j, none⟩ (.slice (some ⟨g, 0, none⟩) (k + 1) cp)).heap[b]? = w'.heap[b]? := fun b hb => Below.heap_setCell w' ⟨bx, j, none⟩ _ b hb
  have hgb : g ≠ bx := by
    rcases p3 with p3 | p3
    · exact fun e => hbv (e ▸ p3)
    · omega
  have hgM : M' g = none := by
    rcases p3 with p3 | p3
    · exact h.free g p3
    · exact h.fp.inn.fresh (by omega)
  have hbl : Below w.heap.size w w' := h.fp.below.grown p2 h.fp.below.size (fun q hq => (row_lt h.row hq).1)
  have hbx := h.box.2
  refine ⟨hblk, ⟨h.fp.le, (h.fp.inn.grown p2 h.free).set h.box.1 _, hbl.setCell (by show w.heap.size ≤ bx; omega) _, h.fp.new⟩, row_kept p1 (fun q hq => hne q (fun e => hgb (scl.own_eq hq e))), fun q hq => by rw [← scl.own_eq hq rfl]; exact hgM, h.le, h.box, heap_setCell_same w' bx j bc 30 _ hblk, (hne _ (by omega)).trans ((p2.block _ l0 (fun e => hv0 e.symm)).trans h.b0), (hne _ (by omega)).trans ((p2.block _ l1 (fun e => hv1 e.symm)).trans h.b1), h.fz⟩
end
end Go.Proofs.Ytklkglbimjajnaa.sow0
namespace Go.Proofs.Ytklkglbimjajnaa.sow1
open Raft mem srun ssend sdown ssmall scopy srecs sapp ssame schos schosen scom sgrow sin sel stk slog sap0 sow0 slg
variable {F : Nat → Option Obj}
structure RD (w : World) (M M1 : Fz) (t sz bx : Nat) (bc ic : Array Value) (k : Nat) (v : Value) (cells : List Value) (b5 : Nat) (c5 : Array Value) (M' : Fz) (wr : World) : Prop where
  oi : OI w M M1 t sz bx bc ic k v cells M' wr
  blk : wr.heap[b5]? = some (.cells c5 t (0, 0))
  fz : M' b5 = none
  ne : w.heap.size + 1 < b5 ∧ b5 ≠ bx ∧ v.ownBlock ≠ some b5
section
variable {w : World} {M M1 : Fz} {t sz bx : Nat} {bc ic : Array Value} {k : Nat} {v : Value} {cells : List Value} {b5 : Nat} {c5 : Array Value} {M' : Fz} {wr : World}
theorem RD.begin (h : OI w M M1 t sz bx bc ic k v cells M' wr) {W1 : World} (e : wr.alloc (.cells c5 t) = W1) : RD w M M1 t sz bx bc ic k v cells wr.heap.size c5 M' W1 := by
  have bW : Below wr.heap.size wr W1 := by rw [← e]; exact more (Below.refl _ _) _
  have l1 := (Array.getElem?_eq_some_iff.1 h.b1).1
  have l2 := (Array.getElem?_eq_some_iff.1 h.blk).1
  exact ⟨h.below bW, by rw [← e]; exact heap_alloc_new wr _, h.fp.inn.fresh (Nat.le_refl _), l1, by omega, fun e' => by have := (row_lt h.row e').2; omega⟩
theorem RD.below (h : RD w M M1 t sz bx bc ic k v cells b5 c5 M' wr) {wx : World} (hb : Below wr.heap.size wr wx) : RD w M M1 t sz bx bc ic k v cells b5 c5 M' wx := ⟨h.oi.below hb, kept hb h.blk (Nat.le_refl _), h.fz, h.ne⟩
theorem RD.freeze (h : RD w M M1 t sz bx bc ic k v cells b5 c5 M' wr) {wx : World} {M2 : Fz} (f : ntold.FP wr M' wx M2) : RD w M M1 t sz bx bc ic k v cells b5 c5 M2 wx := by
  have l := (Array.getElem?_eq_some_iff.1 h.blk).1
  refine ⟨h.oi.freeze f, kept f.below h.blk (Nat.le_refl _), ?_, h.ne⟩
  cases e2 : M2 b5 with
  | none => rfl
  | some o =>
    rcases f.new b5 (by rw [e2]; simp) with g | g
    · exact absurd h.fz g
    · omega
theorem RD.set (h : RD w M M1 t sz bx bc ic k v cells b5 c5 M' wr) (j : Nat) (u : Value) : RD w M M1 t sz bx bc ic k v cells b5 (c5.setIfInBounds j u) M' (wr.setCell ⟨b5, j, none⟩ u) := by
  have hn := h.ne
  exact ⟨h.oi.other (by omega) h.fz hn.2.1 (by omega) (by omega) hn.2.2, heap_setCell_same wr b5 j c5 t u h.blk, h.fz, h.ne⟩
theorem RD.cell (h : RD w M M1 t sz bx bc ic k v cells b5 c5 M' wr) {j : Nat} {u : Value} (hj : c5[j]? = some u) : wr.cell? ⟨b5, j, none⟩ = some u ∧ wr.frozen? ⟨b5, j, none⟩ = false := ⟨cell_of h.blk hj, frozen_of h.blk j⟩
theorem RD.log (h : RD w M M1 t sz bx bc ic k v cells b5 c5 M' wr) (l : List Rc) (lo : Option Addr) (L lc : Nat) (hl : RecsM M' (.slice lo L lc) l) (hlen : l.length ≤ 1000) :
    Calls Try.prog 54 #[.slice lo L lc] wr fun r w2 => ∃ o cp M2, r = .returned (.slice o l.length cp) ∧ RecsM M2 (.slice o l.length cp) l ∧ Le M' M2 ∧ RD w M M1 t sz bx bc ic k v cells b5 c5 M2 w2 := by
  refine (log_any wr M' h.oi.fp.inn l lo L lc hl hlen).mono ?_
  rintro r w2 ⟨o, cp, M2, rfl, f, hr⟩
  exact ⟨o, cp, M2, rfl, hr, f.le, h.freeze f⟩
theorem RD.row (h : RD w M M1 t sz bx bc ic k v cells b5 c5 M' wr) (T : Nat) (sv : Value) (n : Nat) (xs : List Value) (hs : RowM M' sv n 1 xs) {Wa : World} (ea : wr.alloc (.cells #[] T) = Wa) :
    Wa.ownsRow wr.heap.size T 1 (.slice (some ⟨wr.heap.size, 0, none⟩) 0 0) 0 [] ∧ RowW Wa sv n 1 xs ∧ wr.heap.size ≤ Wa.heap.size ∧ RD w M M1 t sz bx bc ic k v cells b5 c5 M' Wa ∧ ∀ v6 w4, w4.ownsRow wr.heap.size T 1 v6 (0 + n) ([] ++ xs) → Wa.grownBy w4 (Value.slice (some ⟨wr.heap.size, 0, none⟩) 0 0).ownBlock → ∃ o6 c6 M2, v6 = .slice o6 n c6 ∧ RowM M2 (.slice o6 n c6) n 1 xs ∧ Le M' M2 ∧ RD w M M1 t sz bx bc ic k v cells b5 c5 M2 w4 := by
  have bW : Below wr.heap.size wr Wa := by rw [← ea]; exact more (Below.refl _ _) _
  refine ⟨⟨rfl, .inr ⟨wr.heap.size, 0, #[], rfl, Nat.le_refl _, by rw [← ea]; exact heap_alloc_new wr _, Nat.le_refl _, by simp [maxLen], by simp, by simp⟩⟩, (RowM.world hs h.oi.fp.inn).below bW, bW.size, h.below bW, fun v6 w4 hO hG => ?_⟩
  rw [Nat.zero_add, List.nil_append] at hO
  have hb4 : Below wr.heap.size wr w4 := bW.grown hG bW.size (fun q hq => own_ge hq (Nat.le_refl _))
  obtain ⟨M2, l2, i2, r2, d2⟩ := RowM.freeze hO (h.oi.fp.inn.below hb4) (fun g hg => h.oi.fp.inn.fresh (row_lt hO hg).1)
  obtain ⟨o6, n6, c6, e6⟩ := own_slice hO
  subst e6
  have := own_len hO
  subst this
  exact ⟨o6, c6, M2, rfl, r2, l2, h.freeze ⟨l2, i2, hb4, fun b hb => (d2 b hb).imp id (fun g => (row_lt hO g).1)⟩⟩
theorem RD.push (h : RD w M M1 t sz bx bc ic k v cells b5 c5 M' wr) (ht : t ≠ 30) {Y : World} {pc : List Value} (ey : wr.alloc (.cells pc.toArray t) = Y) :
    Y.ownsRow w.heap.size t sz v k cells ∧ (∀ j u, pc[j]? = some u → Y.cell? ((⟨wr.heap.size, 0, none⟩ : Addr).add j) = some u) ∧ w.heap.size ≤ Y.heap.size ∧ ∀ g cp w', w'.ownsRow w.heap.size t sz (.slice (some ⟨g, 0, none⟩) (k + 1) cp) (k + 1) (cells ++ pc) → Y.grownBy w' v.ownBlock → (v.ownBlock = some g ∨ g = Y.heap.size) → w'.heap[bx]? = some (.cells bc 30 (0, 0)) ∧ ∀ j, OI w M M1 t sz bx (bc.setIfInBounds j (.slice (some ⟨g, 0, none⟩) (k + 1) cp)) ic (k + 1) (.slice (some ⟨g, 0, none⟩) (k + 1) cp) (cells ++ pc) M' (w'.setCell ⟨bx, j, none⟩ (.slice (some ⟨g, 0, none⟩) (k + 1) cp)) := by
  have bY : Below wr.heap.size wr Y := by rw [← ey]; exact more (Below.refl _ _) _
  have hY := h.oi.below bY
  have hbx : Y.heap[wr.heap.size]? = some (.cells pc.toArray t (0, 0)) := by rw [← ey]; exact heap_alloc_new wr _
  have hne : ∀ g, v.ownBlock = some g → ∀ (cur : Array Value), Y.heap[g]? ≠ some (.cells cur 30 (0, 0)) := fun g hg cur e => by
    obtain ⟨_, ⟨e1, _⟩ | ⟨g', cap, cur', e1, _, hh, _⟩⟩ := hY.row
    · rw [e1] at hg; simp [Value.ownBlock] at hg
    · rw [e1] at hg
      simp only [Value.ownBlock, Option.some.injEq] at hg
      subst hg
      rw [e] at hh
      simp at hh
      exact ht hh.2.symm
  refine ⟨hY.row, fun j u hu => ?_, hY.fp.below.size, fun g cp w' p1 p2 p3 => ?_⟩
  · rw [addr_add, Nat.zero_add]
    exact cell_of hbx (by simpa using hu)
  · have hp := fun j => hY.push (j := j) p1 p2 p3 (fun e => hne _ e _ hY.blk) (fun e => hne _ e _ hY.b0) (fun e => hne _ e _ hY.b1)
    exact ⟨(hp 0).1, fun j => (hp j).2⟩
end
end Go.Proofs.Ytklkglbimjajnaa.sow1

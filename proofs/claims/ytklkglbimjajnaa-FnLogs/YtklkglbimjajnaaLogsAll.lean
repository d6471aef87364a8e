/- Proved: laws.FnLogs returns true at every input and leaves its arguments as they were: two peers' logs that have one term at an index are the same up to it, and no term has two leaders, whatever events are drawn. No condition. -/
import Derived.Test.YtklkglbimjajnaaLogs1
import Derived.Test.YtklkglbimjajnaaRows
import Derived.WalkKit
import Derived.ProofKit
import Derived.Conc.Holds
import Derived.Leaving
/- FnLogs: the law's walk. -/
namespace Go.Proofs.Ytklkglbimjajnaa.lg2
open Go.ChangeShapes Go.WideShapes Go.ChangeAt Go.RowKit
open Go.Proofs.Ytklkglbimjajnaa.Raft Go.Proofs.Ytklkglbimjajnaa.mem Go.Proofs.Ytklkglbimjajnaa.grp Go.Proofs.Ytklkglbimjajnaa.look Go.Proofs.Ytklkglbimjajnaa.ndw Go.Proofs.Ytklkglbimjajnaa.grant Go.Proofs.Ytklkglbimjajnaa.stand Go.Proofs.Ytklkglbimjajnaa.rows2 Go.Proofs.Ytklkglbimjajnaa.clone Go.Proofs.Ytklkglbimjajnaa.behind Go.Proofs.Ytklkglbimjajnaa.post Go.Proofs.Ytklkglbimjajnaa.copy Go.Proofs.Ytklkglbimjajnaa.msgs Go.Proofs.Ytklkglbimjajnaa.postb Go.Proofs.Ytklkglbimjajnaa.ntold Go.Proofs.Ytklkglbimjajnaa.gtold Go.Proofs.Ytklkglbimjajnaa.gt8 Go.Proofs.Ytklkglbimjajnaa.new Go.Proofs.Ytklkglbimjajnaa.happen Go.Proofs.Ytklkglbimjajnaa.crun Go.Proofs.Ytklkglbimjajnaa.evg Go.Proofs.Ytklkglbimjajnaa.lg1
set_option linter.unusedVariables false

/-- A peer's cells, wherever the world goes on. -/
def PeerAt (M : Fz) (p : Peer) (pb off k : Nat) (lo : Option Addr) (lc : Nat) (vo : Option Addr) (vn vc : Nat) (no : Option Addr) (nn nc : Nat) (mo : Option Addr) (mn mc : Nat) (wr : World) : Prop :=
  wr.cell? ⟨pb, off + k * 9, none⟩ = some (.bool p.up) ∧ wr.cell? ⟨pb, off + k * 9 + 1, none⟩ = some (.int .i64 (p.term : Int)) ∧ wr.cell? ⟨pb, off + k * 9 + 2, none⟩ = some (.int .i64 (p.vote : Int)) ∧ wr.cell? ⟨pb, off + k * 9 + 3, none⟩ = some (.int .i64 (p.commit : Int)) ∧ wr.cell? ⟨pb, off + k * 9 + 4, none⟩ = some (.int .i64 (p.role : Int)) ∧ wr.cell? ⟨pb, off + k * 9 + 5, none⟩ = some (.slice lo p.log.length lc) ∧ wr.cell? ⟨pb, off + k * 9 + 6, none⟩ = some (.slice vo vn vc) ∧ wr.cell? ⟨pb, off + k * 9 + 7, none⟩ = some (.slice no nn nc) ∧ wr.cell? ⟨pb, off + k * 9 + 8, none⟩ = some (.slice mo mn mc)
theorem rowM_slice {M : Fz} {v : Value} {n sz : Nat} {xs : List Value} (h : RowM M v n sz xs) : ∃ o c, v = .slice o n c := by
  obtain ⟨ao, cap, e, _⟩ := h
  exact ⟨ao, cap, e⟩
theorem recsM_slice {M : Fz} {v : Value} {l : List Rc} (h : RecsM M v l) : ∃ o c, v = .slice o l.length c := by
  obtain ⟨us, e, h1, _⟩ := h
  obtain ⟨o, c, e2⟩ := rowM_slice h1
  exact ⟨o, c, by rw [e2, ← e, List.length_map]⟩
/-- The peers of a cluster that is told. -/
theorem clu_peers {M : Fz} {c : Cl} {po : Option Addr} {pn pc : Nat} {nv cv : Value} (h : CluV M c (.slice po pn pc) nv cv) (hp : 0 < c.peers.length) : pn = c.peers.length ∧ pn ≤ pc ∧ pc ≤ 9223372036854775807 ∧ ∃ pb off, po = some ⟨pb, off, none⟩ ∧ ∀ k, k < c.peers.length → ∃ (lo : Option Addr) (lc : Nat) (vo : Option Addr) (vn vc : Nat) (no : Option Addr) (nn nc : Nat) (mo : Option Addr) (mn mc : Nat), RecsM M (.slice lo (c.at k).log.length lc) (c.at k).log ∧ ∀ wr, In M wr → PeerAt M (c.at k) pb off k lo lc vo vn vc no nn nc mo mn mc wr := by
  obtain ⟨ps, us, e1, ⟨⟨ao, cap, e2, h1, h2, h3, h4, h5⟩, hps⟩, _⟩ := h
  simp only [Value.slice.injEq] at e2
  obtain ⟨rfl, rfl, rfl⟩ := e2
  have hl : ps.length = c.peers.length := by rw [← e1, List.length_map]
  obtain ⟨pb, off, rfl, hc⟩ := h5 (by omega)
  unfold maxLen at h2
  refine ⟨hl, h1, h2, pb, off, rfl, fun k hk => ?_⟩
  obtain ⟨x, hx⟩ : ∃ x, ps[k]? = some x := ⟨_, List.getElem?_eq_getElem (by omega)⟩
  have ex : c.at k = x.p := by
    unfold Cl.at
    rw [List.getD_eq_getElem?_getD, ← e1, List.getElem?_map, hx]
    rfl
  obtain ⟨p1, p2, p3, p4⟩ := hps x (List.mem_of_getElem? hx)
  obtain ⟨lo, lc, el⟩ := recsM_slice p1
  obtain ⟨vo, vc, ev⟩ := rowM_slice p2
  obtain ⟨no, nc, en⟩ := rowM_slice p3
  obtain ⟨mo, mc, em⟩ := rowM_slice p4
  have hf := fun i hi => flat_get peerCells 9 peerCells_len ps k i x hx hi
  have q0 := hc (k * 9 + 0) (.bool x.p.up) (by rw [hf 0 (by decide)]; rfl)
  have q1 := hc (k * 9 + 1) (.int .i64 (x.p.term : Int)) (by rw [hf 1 (by decide)]; rfl)
  have q2 := hc (k * 9 + 2) (.int .i64 (x.p.vote : Int)) (by rw [hf 2 (by decide)]; rfl)
  have q3 := hc (k * 9 + 3) (.int .i64 (x.p.commit : Int)) (by rw [hf 3 (by decide)]; rfl)
  have q4 := hc (k * 9 + 4) (.int .i64 (x.p.role : Int)) (by rw [hf 4 (by decide)]; rfl)
  have q5 := hc (k * 9 + 5) x.lv (by rw [hf 5 (by decide)]; rfl)
  have q6 := hc (k * 9 + 6) x.vv (by rw [hf 6 (by decide)]; rfl)
  have q7 := hc (k * 9 + 7) x.nv (by rw [hf 7 (by decide)]; rfl)
  have q8 := hc (k * 9 + 8) x.mv (by rw [hf 8 (by decide)]; rfl)
  rw [el] at q5
  rw [ev] at q6
  rw [en] at q7
  rw [em] at q8
  rw [ex]
  refine ⟨lo, lc, vo, _, vc, no, _, nc, mo, _, mc, by rw [← el]; exact p1, fun wr hI => ⟨hI.cell q0, hI.cell q1, hI.cell q2, hI.cell q3, hI.cell q4, hI.cell q5, hI.cell q6, hI.cell q7, hI.cell q8⟩⟩
/-- What FnLogs reads of the run. -/
def RunL (w : World) (n : Nat) (r : Ending) (w' : World) : Prop :=
  ∃ (pb off pc : Nat) (n1 : Option Addr) (n2 n3 : Nat) (c1 : Option Addr) (c2 c3 : Nat) (k1 : Option Addr) (k2 k3 : Nat) (cf : Bool), r = .returned (.tuple #[.agg #[.slice (some ⟨pb, off, none⟩) n pc, .slice n1 n2 n3, .slice c1 c2 c3, .bool cf], .slice k1 k2 k3, .int .i64 0]) ∧ (n ≤ pc ∧ pc ≤ 9223372036854775807) ∧ Hid (Below w.heap.size w w' ∧ ∃ (es : List Ev) (M : Fz), In M w' ∧ ∀ k, k < n → ∃ (lo : Option Addr) (lc : Nat) (vo : Option Addr) (vn vc : Nat) (no : Option Addr) (nn nc : Nat) (mo : Option Addr) (mn mc : Nat), RecsM M (.slice lo (((Cl.begin n).run es).1.at k).log.length lc) (((Cl.begin n).run es).1.at k).log ∧ ∀ wr, In M wr → PeerAt M (((Cl.begin n).run es).1.at k) pb off k lo lc vo vn vc no nn nc mo mn mc wr)
theorem run_logs (w : World) (wx : World) (hb : Below w.heap.size w wx) (M : Fz) (hI : In M wx) (n : Nat) (h1 : 1 ≤ n) (h7 : n ≤ 7) (o : Option Addr) (m c : Nat) (us : List EV) (hv : EvsV M (.slice o m c) us) (hl : us.length ≤ 300) :
    Calls Try.prog 8 #[.int .i64 n, .slice o m c] wx fun r w' => RunL w n r w' := by
  refine (crun_good wx M hI n h1 h7 o m c us hv hl).mono ?_
  rintro r w' ⟨p1, p2, p3, n1, n2, n3, c1, c2, c3, k1, k3, rfl, M', f, hC, _⟩
  have hlen := (lb_run (us.map (·.e)) _ (LB.begin n)).len
  obtain ⟨rfl, e2, e3, pb, off, rfl, hk⟩ := clu_peers hC (by omega)
  rw [hlen] at e2 hk ⊢
  exact ⟨pb, off, p3, n1, n2, n3, c1, c2, c3, k1, _, k3, _, rfl, ⟨e2, e3⟩, hb.trans (f.below.mono hb.size), us.map (·.e), M', f.inn, hk⟩

set_option maxRecDepth 20000 in
set_option maxHeartbeats 8000000 in
theorem walk (w : World) (u v : Value) (xs ys : List Int) (hU : pile.RdA w u xs) (hV : pile.RdA w v ys) :
    Calls Try.prog 3 #[u, v] w fun r w' => r = .returned (.bool true) ∧ Below w.heap.size w w' := by
  have hM := rdM hU
  have hMr := hV.1
  obtain ⟨⟨a0, c0, rfl, h1, h2, _, _⟩, _⟩ := hU
  obtain ⟨⟨b0, d0, rfl, g1, g2, _, _⟩, _⟩ := hV
  by_cases hl : 1048576 < xs.length
  · have hli : (1048576 : Int) < xs.length := by omega
    go_enter Try.func3, Try.ntmps3
    go_wp2
    go_ret
    exact ⟨rfl, Below.refl _ _⟩
  have hli : ¬ (1048576 : Int) < xs.length := by omega
  by_cases hk : 1048576 < ys.length
  · have hki : (1048576 : Int) < ys.length := by omega
    go_enter Try.func3, Try.ntmps3
    go_wp2
    go_ret
    exact ⟨rfl, Below.refl _ _⟩
  have hki : ¬ (1048576 : Int) < ys.length := by omega
  have HP := hide (peers_any w _ ys hMr)
  have HE : Hid (∀ wx n, Below w.heap.size w wx → 1 ≤ n → n ≤ 7 → Calls Try.prog 7 #[.slice a0 xs.length c0, .int .i64 ((n : Nat) : Int)] wx fun e w2 => ∃ (o : Option Addr) (m c : Nat), e = .returned (.slice o m c) ∧ Hid (Calls Try.prog 8 #[.int .i64 (n : Int), .slice o m c] w2 fun r w' => RunL w n r w')) := fun wx n hx h1n h7n => by
    refine (eventsOf_any wx (whole w) ((whole_in w).below hx) a0 c0 xs hM (by omega) n h1n h7n).mono ?_
    rintro e w2 ⟨o, m, c, rfl, hm, M', us, hu, hv, q1, q2, q3, q4⟩
    exact ⟨o, m, c, rfl, run_logs w w2 (hx.trans (q3.mono hx.size)) M' q2 n h1n h7n o m c us hv (by omega)⟩
  clear hM hMr h1 h2 g1 g2 hl hk
  go_enter Try.func3, Try.ntmps3
  go_wp2_with fail
  refine HP.out.mono ?_
  rintro e w1 ⟨n, rfl, ⟨h1n, h7n⟩, b1⟩
  have HE1 := hide (HE.out w1 n b1 h1n h7n)
  clear HP HE b1
  go_wp2_with fail
  refine HE1.out.mono ?_
  rintro e w2 ⟨o, m, c, rfl, HR⟩
  clear HE1
  go_wp2_with fail
  refine HR.out.mono ?_
  rintro e w3 ⟨pb, off, pc, n1, n2, n3, c1, c2, c3, k1, k2, k3, cf, rfl, ⟨hpc1, hpc2⟩, H3⟩
  clear HR
  obtain ⟨b3, es, M, hIM, hpe⟩ := H3.out
  obtain ⟨_, hsafe, hone, hlogs⟩ := safe n es
  obtain ⟨C, eC⟩ : ∃ C, ((Cl.begin n).run es).1 = C := ⟨_, rfl⟩
  rw [eC] at hpe hsafe hone hlogs
  obtain ⟨W, hW⟩ : ∃ W, w3.alloc (.cells #[.slice (some ⟨pb, off, none⟩) n pc, .slice n1 n2 n3, .slice c1 c2 c3, .bool cf] 30) = W := ⟨_, rfl⟩
  have bW : Below w3.heap.size w3 W := by rw [← hW]; exact more (Below.refl _ _) _
  have hBW : W.heap[w3.heap.size]? = some (.cells #[.slice (some ⟨pb, off, none⟩) n pc, .slice n1 n2 n3, .slice c1 c2 c3, .bool cf] 30 (0, 0)) := by rw [← hW]; exact heap_alloc_new w3 _
  obtain ⟨B, eB⟩ : ∃ B, w3.heap.size = B := ⟨_, rfl⟩
  have sW : B < W.heap.size := by rw [← hW, World.size_alloc, eB]; omega
  have HW : Hid (∀ wr, Below W.heap.size W wr → wr.cell? ⟨B, 0, none⟩ = some (.slice (some ⟨pb, off, none⟩) n pc) ∧ In M wr ∧ Below w.heap.size w wr) := fun wr hx => ⟨cell_of ((hx.block B sW).trans (eB ▸ hBW)) rfl, (hIM.below bW).below hx, (b3.trans (bW.mono b3.size)).trans (hx.mono (Nat.le_trans b3.size bW.size))⟩
  have HPe := hide hpe
  have HOne := hide hone
  have HLogs := hide hlogs
  have x0 := (HW.out W (Below.refl _ _)).1
  have hnn : ((n : Int) != (n : Int)) = false := by simp
  clear H3 hpe hone hlogs hsafe eC hIM b3 bW hBW sW
  go_upto_region 6 with fail
  try rw [eB]
  clear hW eB
  go_wp2
  go_loopw [10] (fun i wr => ∃ k : Nat, k ≤ n ∧ i = .int .i64 k ∧ Hid (Below W.heap.size W wr)) (fun i _ => n - (intOf i).toNat)
  case atStart => exact ⟨0, Nat.zero_le _, rfl, Below.refl _ _⟩
  case round =>
    obtain ⟨i, hi, rfl, HB⟩ := hrel
    by_cases hlt : i < n
    · have hltI : (i : Int) < n := by omega
      clear x0
      go_wp2
      go_loopw [11] (fun j wr => ∃ k : Nat, k ≤ i ∧ j = .int .i64 k ∧ Hid (Below W.heap.size W wr)) (fun j _ => i - (intOf j).toNat)
      case atStart => exact ⟨0, Nat.zero_le _, rfl, HB⟩
      case round =>
        clear HB
        obtain ⟨k, hk, rfl, HB⟩ := hrel
        by_cases hlt2 : k < i
        · have hlt2I : (k : Int) < i := by omega
          have hkn : (k : Int) < n := by omega
          obtain ⟨lo, lc, vo, vn, vc, no, nn, nc, mo, mn, mc, hR1, hA1⟩ := HPe.out i hlt
          obtain ⟨lo2, lc2, vo2, vn2, vc2, no2, nn2, nc2, mo2, mn2, mc2, hR2, hA2⟩ := HPe.out k (by omega)
          have hone := fun a b => HOne.out i k (by omega) (by omega) a b
          have hlogs := fun x a b => HLogs.out i k x a b (by omega) (by omega)
          generalize C.at i = p at hR1 hA1 hone hlogs
          generalize C.at k = q at hR2 hA2 hone hlogs
          obtain ⟨WA, hWA⟩ : ∃ X, wr.alloc (.cells #[.bool p.up, .int .i64 (p.term : Int), .int .i64 (p.vote : Int), .int .i64 (p.commit : Int), .int .i64 (p.role : Int), .slice lo p.log.length lc, .slice vo vn vc, .slice no nn nc, .slice mo mn mc] 36) = X := ⟨_, rfl⟩
          obtain ⟨WB, hWB⟩ : ∃ X, WA.alloc (.cells #[.bool q.up, .int .i64 (q.term : Int), .int .i64 (q.vote : Int), .int .i64 (q.commit : Int), .int .i64 (q.role : Int), .slice lo2 q.log.length lc2, .slice vo2 vn2 vc2, .slice no2 nn2 nc2, .slice mo2 mn2 mc2] 36) = X := ⟨_, rfl⟩
          have bA : Below wr.heap.size wr WA := by rw [← hWA]; exact more (Below.refl _ _) _
          have bB : Below WA.heap.size WA WB := by rw [← hWB]; exact more (Below.refl _ _) _
          have sA : WA.heap.size = wr.heap.size + 1 := by rw [← hWA]; exact World.size_alloc ..
          have hbA : WB.heap[wr.heap.size]? = some (.cells #[.bool p.up, .int .i64 (p.term : Int), .int .i64 (p.vote : Int), .int .i64 (p.commit : Int), .int .i64 (p.role : Int), .slice lo p.log.length lc, .slice vo vn vc, .slice no nn nc, .slice mo mn mc] 36 (0, 0)) := (bB.block _ (by omega)).trans (by rw [← hWA]; exact heap_alloc_new wr _)
          have hbB : WB.heap[WA.heap.size]? = some (.cells #[.bool q.up, .int .i64 (q.term : Int), .int .i64 (q.vote : Int), .int .i64 (q.commit : Int), .int .i64 (q.role : Int), .slice lo2 q.log.length lc2, .slice vo2 vn2 vc2, .slice no2 nn2 nc2, .slice mo2 mn2 mc2] 36 (0, 0)) := by rw [← hWB]; exact heap_alloc_new WA _
          have oA : Below W.heap.size W WA := HB.out.trans (bA.mono HB.out.size)
          have oB : Below W.heap.size W WB := oA.trans (bB.mono oA.size)
          obtain ⟨x1, hI1, _⟩ := HW.out wr HB.out
          obtain ⟨x2, hI2, _⟩ := HW.out WA oA
          obtain ⟨x3, hI3, _⟩ := HW.out WB oB
          obtain ⟨p0, p1, p2, p3, p4, p5, p6, p7, p8⟩ := hA1 wr hI1
          obtain ⟨q0, q1, q2, q3, q4, q5, q6, q7, q8⟩ := hA2 WA hI2
          have s1 := cell_of (i := 1) hbA (v := .int .i64 (p.term : Int)) rfl
          have s4 := cell_of (i := 4) hbA (v := .int .i64 (p.role : Int)) rfl
          have s5 := cell_of (i := 5) hbA (v := .slice lo p.log.length lc) rfl
          have t1 := cell_of (i := 1) hbB (v := .int .i64 (q.term : Int)) rfl
          have t4 := cell_of (i := 4) hbB (v := .int .i64 (q.role : Int)) rfl
          have t5 := cell_of (i := 5) hbB (v := .slice lo2 q.log.length lc2) rfl
          obtain ⟨_, l1, l2⟩ := RecsM.len hR1
          obtain ⟨_, l3, l4⟩ := RecsM.len hR2
          have hT : ((p.role : Int) == 2) = false ∨ (((p.role : Int) == 2) = true ∧ ((q.role : Int) == 2) = false) ∨ (((p.role : Int) == 2) = true ∧ ((q.role : Int) == 2) = true ∧ ((p.term : Int) == (q.term : Int)) = false) := by
            by_cases e1 : p.role = 2
            · by_cases e2 : q.role = 2
              · have e3 : p.term ≠ q.term := fun e => by have := hone e1 e2 e; omega
                exact .inr (.inr ⟨by simp [e1], by simp [e2], by simp; omega⟩)
              · exact .inr (.inl ⟨by simp [e1], by simp; omega⟩)
            · exact .inl (by simp; omega)
          -- the loop over the logs
          have HX : Hid (∀ x : Nat, x < p.log.length → x < q.log.length → ∃ (ab aoff bb boff : Nat) (ta tb : Nat), lo = some ⟨ab, aoff, none⟩ ∧ lo2 = some ⟨bb, boff, none⟩ ∧ WB.cell? ⟨ab, aoff + x * 3, none⟩ = some (.int .i64 (ta : Int)) ∧ WB.cell? ⟨bb, boff + x * 3, none⟩ = some (.int .i64 (tb : Int)) ∧ Hid (ta = tb → ∀ m, Calls Try.prog 9 #[.slice lo (x + 1) lc, .slice lo2 (x + 1) lc2] (WB.drewN m) fun e w' => e = .returned (.bool true) ∧ ∃ m', w' = WB.drewN m')) := fun x hx1 hx2 => by
            obtain ⟨r, hr⟩ : ∃ r, p.log[x]? = some r := ⟨_, List.getElem?_eq_getElem hx1⟩
            obtain ⟨s, hs⟩ : ∃ s, q.log[x]? = some s := ⟨_, List.getElem?_eq_getElem hx2⟩
            obtain ⟨ab, aoff, _, _, rfl, u0, _, _, _⟩ := RecsM.at hR1 hr
            obtain ⟨bb, boff, _, _, rfl, v0, _, _, _⟩ := RecsM.at hR2 hs
            refine ⟨ab, aoff, bb, boff, r.term, s.term, rfl, rfl, hI3.cell u0, hI3.cell v0, fun et m => ?_⟩
            have e9 := hlogs x r s hr hs et
            have z1 := RecsM.take hR1 (x + 1) (by omega)
            have z2 := RecsM.take hR2 (x + 1) (by omega)
            rw [e9] at z1
            refine (sameRecs_any (WB.drewN m) M hI3 _ _ _ _ _ _ _ z1 z2).mono ?_
            rintro e w' ⟨rfl, m', rfl⟩
            exact ⟨rfl, m + m', by simp [World.drewN]; omega⟩
          have HOB := hide oB
          obtain ⟨Lp, eLp⟩ : ∃ L, p.log.length = L := ⟨_, rfl⟩
          obtain ⟨Lq, eLq⟩ : ∃ L, q.log.length = L := ⟨_, rfl⟩
          rw [eLp] at s5 HX l1 hWA p5
          rw [eLq] at t5 HX l3 hWB q5
          clear hbA hbB oA oB bA bB hI1 hI2 hI3 hA1 hA2 hR1 hR2 hone hlogs x3 HB sA eLp eLq
          have hmin : ((Lp : Int) ≤ Lq ∧ Lp ≤ Lq) ∨ (¬ ((Lp : Int) ≤ Lq) ∧ ¬ Lp ≤ Lq ∧ (Lq : Int) ≤ Lp) := by omega
          rcases hmin with ⟨hm1, hm2⟩ | ⟨hm1, hm2, hm3⟩ <;> rcases hT with hT | ⟨hT, hT2⟩ | ⟨hT, hT2, hT3⟩
          all_goals
            go_wp2
            go_loopw [14] (fun x wr => ∃ (y m : Nat), y ≤ Lp ∧ y ≤ Lq ∧ x = .int .i64 y ∧ wr = WB.drewN m) (fun x _ => (intOf x).toNat)
            case atStart => first | exact ⟨Lp, 0, by omega, by omega, rfl, rfl⟩ | exact ⟨Lq, 0, by omega, by omega, rfl, rfl⟩
            case round =>
              obtain ⟨y, m', hy1, hy2, rfl, rfl⟩ := hrel
              by_cases hy : 0 < y
              · obtain ⟨z, rfl⟩ : ∃ z, y = z + 1 := ⟨y - 1, by omega⟩
                have hz0 : (0 : Int) < (z : Int) + 1 := by omega
                obtain ⟨ab, aoff, bb, boff, ta, tb, rfl, rfl, y1, y2, HS⟩ := HX.out z (by omega) (by omega)
                have hz1 : (z : Int) < Lp := by omega
                have hz2 : (z : Int) < Lq := by omega
                have hz3 : (z : Int) + 1 ≤ lc := by omega
                have hz4 : (z : Int) + 1 ≤ lc2 := by omega
                clear HX
                by_cases et : ta = tb
                · have etb : ((ta : Int) == (tb : Int)) = true := by simp; omega
                  have HS2 : Hid (∀ wx, (∃ q, wx = WB.drewN q) → Calls Try.prog 9 #[.slice (some ⟨ab, aoff, none⟩) (z + 1) lc, .slice (some ⟨bb, boff, none⟩) (z + 1) lc2] wx fun e w' => e = .returned (.bool true) ∧ ∃ q, w' = WB.drewN q) := fun wx hq => by
                    obtain ⟨q, rfl⟩ := hq
                    exact HS.out et q
                  have hc9 : Hid (∀ q, (WB.drewN q).cell? ⟨wr.heap.size, 5, none⟩ = some (.slice (some ⟨ab, aoff, none⟩) Lp lc) ∧ (WB.drewN q).cell? ⟨WA.heap.size, 5, none⟩ = some (.slice (some ⟨bb, boff, none⟩) Lq lc2)) := fun q => ⟨s5, t5⟩
                  clear HS et
                  go_wp2
                  go_quiet (fail)
                  go_wp2
                  go_region_held_law (fun wx => wx.cell? ⟨wr.heap.size, 5, none⟩ = some (.slice (some ⟨ab, aoff, none⟩) Lp lc) ∧ wx.cell? ⟨WA.heap.size, 5, none⟩ = some (.slice (some ⟨bb, boff, none⟩) Lq lc2))
                    ((refine ⟨?_, ?_⟩; exact s5; exact t5))
                    (first | (go_at_call 9; refine (HS2.out _ ⟨_, rfl⟩).mono ?_; rintro rr w9 ⟨rfl, q9, rfl⟩))
                  all_goals
                    go_wp2
                    go_roundw
                  all_goals first
                    | exact ⟨k + 1, by omega, by go_num, below_drewN HOB.out _⟩
                    | (simp [intOf]; omega)
                · have etb : ((ta : Int) == (tb : Int)) = false := by simp; omega
                  clear HS
                  go_wp2
                  go_quiet (fail)
                  go_wp2
                  go_roundw
                  case rel => exact ⟨z, _, by omega, by omega, by go_num, rfl⟩
                  case measure => simp [intOf]
              · have hy3 : ¬ (0 : Int) < y := by omega
                go_wp2
                go_roundw
                case rel => exact ⟨k + 1, by omega, by go_num, below_drewN HOB.out _⟩
                case measure => simp [intOf]; omega
        · have hlt3 : ¬ (k : Int) < i := by omega
          go_wp2
          go_roundw
          case rel => exact ⟨i + 1, by omega, by go_num, HB⟩
          case measure => simp [intOf]; omega
    · have hlt2 : ¬ (i : Int) < n := by omega
      go_wp2
      go_ret
      exact ⟨rfl, (HW.out _ HB.out).2.2⟩
end Go.Proofs.Ytklkglbimjajnaa.lg2

namespace Go.Proofs.Ytklkglbimjajnaa.fnLogs
open Go.ChangeShapes Go.WideShapes Go.ChangeAt Go.RowKit
set_option linter.unusedVariables false
theorem own : ownKnob Try.prog.godebug = none := by kernel_rfl
theorem laidOut : laidOutB Try.prog = true := by kernel_rfl

theorem leaves {a : Assume} {C : Checked} {os : Os} {f : FuncId} {r : Reach} {Pre : World → Array Value → Prop} {Post : World → Array Value → Value → World → Prop} (h : ReturnsInHanded a C os f r Pre Post) : ReturnsInLeavingWide a C os f r Pre Post := fun enter => by
  obtain ⟨h1, h2, h3, h4, h5⟩ := h enter
  refine ⟨h1, h2, h3, h4, fun w tape i hf => ?_⟩
  obtain ⟨n, v, w', a1, a2, a3, a4, ⟨j, last, b1, b2, b3⟩, a5⟩ := h5 w tape i hf
  exact ⟨n, v, w', a1, a2, a3, a4, ⟨j, last, b1, b2, b3.2.1, onlyLeaving_of_quiet b3.1, b3.2.2⟩, a5⟩
set_option maxRecDepth 100000 in
theorem lifted (os : Os) (started : os.Started) (H : Type) (enc : TypeId × Value → H) :
    ReturnsInHanded {} Try.checked os 3 .any (Rows.fnLogsSpec.pre6 enc Try.prog Try.f3 Rows.fnLogsRow.domain false) (Rows.fnLogsSpec.post enc Try.prog Try.f3 false true false false) := by
  refine returnsInHanded_of_change (C := Try.checked) own started (by kernel_rfl) Try.func3
    (ChangeSpec.witness6 (enc := enc) (C := Try.checked) false ⟨#[], #[.slice none 0 0, .slice none 0 0], []⟩ 8 (by kernel_rfl) (by kernel_rfl) (by kernel_rfl) (by kernel_rfl)) ?_
  intro W base args ds gs before hval0 hW hcnd _
  have hval : ∀ (j : Nat) t v, Try.f3.params[j]? = some t → args[j]? = some v → Value.okWide Try.prog W .any base t v := hval0
  have hW' := hW
  obtain ⟨p, q, hA0, hV, rfl, hfz, hnd⟩ := hW
  have hA : DataW.TrodAll enc Try.prog W 0 (fun _ => true) true Try.f3.params.toList args.toList ds p := hA0
  rw [Try.params3] at hA hval
  obtain ⟨v0, vs0, d0, ds0, p0, q0, hargs, rfl, rfl, h0, r0⟩ := trodAll_cons hA
  obtain ⟨v1, vs1, d1, ds1, p1, q1, hargs1, rfl, rfl, h1, r1⟩ := trodAll_cons r0
  obtain ⟨rfl, rfl, rfl⟩ := trodAll_nil r1
  obtain rfl : args = #[v0, v1] := by cases args; simp_all
  obtain ⟨rfl, rfl⟩ := trodVars_none hV
  have k0 := h0
  have k1 := h1
  have lt0 : ∀ x ∈ p0, x.block < W.heap.size := by obtain ⟨m, hm⟩ := k0; exact DataW.trod_lt m _ _ _ hm
  have lt1 : ∀ x ∈ p1, x.block < W.heap.size := by obtain ⟨m, hm⟩ := k1; exact DataW.trod_lt m _ _ _ hm
  obtain ⟨fuel, hf⟩ := h0
  obtain ⟨fuel1, hf1⟩ := h1
  obtain ⟨sa, sl, sc, rfl⟩ := okWide_slice Try.underlying22 (hval 0 22 v0 rfl rfl)
  obtain ⟨ta, tl, tc, rfl⟩ := okWide_slice Try.underlying22 (hval 1 22 v1 rfl rfl)
  obtain ⟨u, xs, hu, hr⟩ := Go.Proofs.Ytklkglbimjajnaa.given.open_bytes hf
  obtain ⟨u1, ys, hu1, hr1⟩ := Go.Proofs.Ytklkglbimjajnaa.given.open_bytes hf1
  simp only [Value.cells, List.cons.injEq, and_true] at hu hu1
  subst hu hu1
  clear hA0 hval0
  refine (lg2.walk W _ _ xs ys hr hr1).mono fun e W' ⟨he, bel⟩ => ?_
  subst he
  exact ⟨_, rfl, _, _, _, [], _, [], hW', trodAll_mk1 (shut_bool Try.underlying4 _), (trodAll_cons_mk (Below.trod laidOut (by kernel_rfl) (of_decide_eq_true (by kernel_rfl)) k0 bel lt0) (trodAll_cons_mk (Below.trod laidOut (by kernel_rfl) (of_decide_eq_true (by kernel_rfl)) k1 bel lt1) trodAll_mk0)), rfl, bel.frame _, fun h => by cases h⟩

theorem over : Rows.fnLogsRow.holds Try.pinned (OpenSpec.ofChange Rows.fnLogsSpec) :=
  OpenClaim.holds_of_wide_leaving 3 Try.f3 rfl rfl rfl rfl rfl rfl rfl ⟨rfl, rfl, rfl, rfl, rfl⟩ rfl rfl rfl rfl rfl (by kernel_rfl) Try.func3 (by kernel_rfl)
    (of_decide_eq_true (by kernel_rfl)) (by unfold Func.isWrapper; first | (rw [if_pos (by decide +kernel)]; kernel_rfl) | (rw [if_neg (by decide +kernel)]; exact ⟨rfl, rfl⟩))
    (fun os started H enc _ => leaves (lifted os started H enc))

/-- The statement. -/
theorem proved : Rows.FnLogsSaid := over
#print axioms proved
end Go.Proofs.Ytklkglbimjajnaa.fnLogs

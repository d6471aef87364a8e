/- Records are taken into a log. -/
import Derived.Test.YtklkglbimjajnaaLogs
namespace Go.Proofs.Ytklkglbimjajnaa.takes
open Go.ChangeShapes Go.WideShapes Go.ChangeAt Go.RowKit
open Go.Proofs.Ytklkglbimjajnaa.Raft Go.Proofs.Ytklkglbimjajnaa.mem Go.Proofs.Ytklkglbimjajnaa.grp Go.Proofs.Ytklkglbimjajnaa.look Go.Proofs.Ytklkglbimjajnaa.ndw Go.Proofs.Ytklkglbimjajnaa.grant Go.Proofs.Ytklkglbimjajnaa.stand Go.Proofs.Ytklkglbimjajnaa.rows2 Go.Proofs.Ytklkglbimjajnaa.clone Go.Proofs.Ytklkglbimjajnaa.lookc Go.Proofs.Ytklkglbimjajnaa.logs
set_option linter.unusedVariables false

/-- A log with the first of a leader's records put into it. -/
def mg (l : List Rc) (a : Nat) (rs : List Rc) (j : Nat) : List Rc := merge l a (rs.take j)
def cutL (l : List Rc) (a : Nat) (r : Rc) : List Rc := if a < l.length ∧ termAt l (a + 1) ≠ r.term then l.take a else l
def stepL (l : List Rc) (a : Nat) (r : Rc) : List Rc := if a = (cutL l a r).length then cutL l a r ++ [r] else cutL l a r
theorem merge_cons (l : List Rc) (a : Nat) (r : Rc) (rs : List Rc) : merge l a (r :: rs) = merge (stepL l a r) (a + 1) rs := rfl
theorem merge_snoc (r : Rc) : ∀ (rs : List Rc) (l : List Rc) (a : Nat), merge l a (rs ++ [r]) = stepL (merge l a rs) (a + rs.length) r
  | [], l, a => rfl
  | x :: rs, l, a => by
    rw [List.cons_append, merge_cons, merge_cons, merge_snoc r rs]
    congr 1
    simp only [List.length_cons]; omega
theorem mg_succ {l : List Rc} {a : Nat} {rs : List Rc} {j : Nat} {r : Rc} (h : rs[j]? = some r) : mg l a rs (j + 1) = stepL (mg l a rs j) (a + j) r := by
  have hlt := (List.getElem?_eq_some_iff.1 h).1
  have e : rs.take (j + 1) = rs.take j ++ [r] := by
    rw [List.take_succ_eq_append_getElem hlt]
    have := List.getElem?_eq_getElem hlt
    rw [h] at this
    rw [← Option.some.inj this]
  unfold mg
  rw [e, merge_snoc, List.length_take]
  congr 1
  omega
theorem stepL_len {l : List Rc} {a : Nat} (r : Rc) (h : a ≤ l.length) : a + 1 ≤ (stepL l a r).length ∧ (stepL l a r).length ≤ l.length + 1 := by
  have hc : a ≤ (cutL l a r).length ∧ (cutL l a r).length ≤ l.length := by
    unfold cutL
    split
    · rw [List.length_take]; omega
    · omega
  unfold stepL
  split
  · rw [List.length_append]; simp; omega
  · omega
theorem mg_len (l : List Rc) (a : Nat) (rs : List Rc) (h : a ≤ l.length) : ∀ j, j ≤ rs.length → a + j ≤ (mg l a rs j).length ∧ (mg l a rs j).length ≤ l.length + j
  | 0, _ => by simp [mg, merge]; exact h
  | j + 1, hj => by
    obtain ⟨h1, h2⟩ := mg_len l a rs h j (by omega)
    obtain ⟨r, hr⟩ : ∃ r, rs[j]? = some r := ⟨_, List.getElem?_eq_getElem (by omega)⟩
    rw [mg_succ hr]
    have := stepL_len r h1
    omega

set_option maxRecDepth 20000 in
set_option maxHeartbeats 4000000 in
theorem take_any (w : World) (M : Fz) (O : Lb) (b k : Nat) (p : Peer) (st : Sta M O w) (h : Nod w M O b k p) (rs : List Rc) (o : Option Addr) (n lc : Nat) (hrs : RecsM M (.slice o n lc) rs) (a : Nat) (ha : a ≤ p.log.length) (hidx : ∀ j r, rs[j]? = some r → r.index = a + j + 1) (hl : p.log.length ≤ 500) (hrl : rs.length ≤ 500) :
    Calls Try.prog 146 #[.pointer (some ⟨b, 0, none⟩), .slice o n lc] w fun r w' => r = .returned (.tuple #[]) ∧ NDid M O w b k { p with log := merge p.log a rs } w' := by
  have H0 : Hid (NDid M O w b k { p with log := mg p.log a rs 0 } w) := ⟨M, O, Aft.refl _ st, h⟩
  have HEnd : Hid ({ p with log := mg p.log a rs rs.length } = { p with log := merge p.log a rs }) := by unfold Hid mg; rw [List.take_length]
  obtain ⟨hnl, hlc⟩ : n = rs.length ∧ lc ≤ maxLen := by
    obtain ⟨us, rfl, ⟨ao, cap, e, e1, e2, _⟩, _⟩ := hrs
    simp only [Value.slice.injEq] at e
    obtain ⟨_, rfl, rfl⟩ := e
    exact ⟨by simp, e2⟩
  have HCell : Hid (∀ j, j < n → ∃ g off r ro rn rc, o = some ⟨g, off, none⟩ ∧ rs[j]? = some r ∧ r.index = a + j + 1 ∧ ∀ wr M', Le M M' → In M' wr → (wr.cell? ⟨g, off + j * 3, none⟩ = some (.int .i64 r.term) ∧ wr.cell? ⟨g, off + j * 3 + 1, none⟩ = some (.int .i64 r.index) ∧ wr.cell? ⟨g, off + j * 3 + 2, none⟩ = some (.slice ro rn rc)) ∧ BytesM M' (.slice ro rn rc) r.data ∧ r.data.length ≤ 1000) := fun j hj => by
    obtain ⟨us, e0, hr, hdt⟩ := hrs
    obtain ⟨r, hrj⟩ : ∃ r, rs[j]? = some r := ⟨_, List.getElem?_eq_getElem (by omega)⟩
    have hrj2 := hrj
    rw [← e0, List.getElem?_map, Option.map_eq_some_iff] at hrj2
    obtain ⟨x, hx, rfl⟩ := hrj2
    have hlt := (List.getElem?_eq_some_iff.1 hx).1
    obtain ⟨ao, cap, e, _, _, _, _, h5⟩ := hr
    simp only [Value.slice.injEq] at e
    obtain ⟨rfl, rfl, rfl⟩ := e
    obtain ⟨g, off, rfl, hc⟩ := h5 (by omega)
    have hf := fun i hi => flat_get recCells 3 recCells_len us j i x hx hi
    obtain ⟨q1, q2⟩ := hdt x (List.mem_iff_getElem?.2 ⟨j, hx⟩)
    obtain ⟨⟨ao2, cp, e2, _⟩, _⟩ := id q1
    refine ⟨g, off, x.r, ao2, _, cp, rfl, hrj, hidx j _ hrj, fun wr M' hle hI => ⟨⟨?_, ?_, ?_⟩, by rw [← e2]; exact q1.le hle, q2⟩⟩
    · have := hI.cell (hle.cell (hc (j * 3 + 0) (.int .i64 x.r.term) (by rw [hf 0 (by decide)]; rfl)))
      simpa using this
    · have := hI.cell (hle.cell (hc (j * 3 + 1) (.int .i64 x.r.index) (by rw [hf 1 (by decide)]; rfl)))
      rw [← Nat.add_assoc] at this
      exact this
    · have := hI.cell (hle.cell (hc (j * 3 + 2) x.dv (by rw [hf 2 (by decide)]; rfl)))
      rw [← Nat.add_assoc, e2] at this
      exact this
  have HLen : Hid (∀ j, j ≤ n → a + j ≤ (mg p.log a rs j).length ∧ (mg p.log a rs j).length ≤ 1000) := fun j hj => by
    have := mg_len p.log a rs ha j (by omega)
    omega
  rw [← HEnd.out, ← hnl]
  have hn5 : n ≤ 500 := by omega
  have ha5 : a ≤ 500 := by omega
  unfold maxLen at hlc
  clear hrs HEnd hnl st h ha hidx hl hrl
  go_enter Try.func146, Try.ntmps146
  go_wp2
  go_loopw [8] (fun jv wr => ∃ j : Nat, j ≤ n ∧ jv = .int .i64 j ∧ Hid (NDid M O w b k { p with log := mg p.log a rs j } wr)) (fun jv _ => n - (intOf jv).toNat)
  case atStart => exact ⟨0, Nat.zero_le _, rfl, H0⟩
  case round =>
    obtain ⟨j, hj, rfl, HJ⟩ := hrel
    by_cases hlt : j < n
    · have hltI : (j : Int) < n := by omega
      obtain ⟨g, off, r, ro, rn, rc, rfl, hr, hri, hfar⟩ := HCell.out j hlt
      obtain ⟨M1, O1, a1, hnod⟩ := HJ.out
      obtain ⟨⟨q0, q1, q2⟩, qb, qd⟩ := hfar wr M1 a1.le a1.inn
      have hln := HLen.out j (by omega)
      have HMg := hide (mg_succ (l := p.log) (a := a) hr)
      rw [hri] at q1
      generalize mg p.log a rs j = l at *
      obtain ⟨A, hA⟩ : ∃ A, A = a + j := ⟨_, rfl⟩
      have HA := hide hA
      rw [← hA] at hln HMg
      have hA9 : A ≤ 1000 := by omega
      have hAI : ((a + j + 1 : Nat) : Int) = (A : Int) + 1 := by omega
      rw [hAI] at q1
      obtain ⟨W1, hW1⟩ : ∃ W1, wr.alloc (.cells #[.int .i64 r.term, .int .i64 ((A : Int) + 1), .slice ro rn rc] 38) = W1 := ⟨_, rfl⟩
      have b1 : Below wr.heap.size wr W1 := by rw [← hW1]; exact more (Below.refl _ _) _
      have hbox : W1.heap[wr.heap.size]? = some (.cells #[.int .i64 r.term, .int .i64 ((A : Int) + 1), .slice ro rn rc] 38 (0, 0)) := by rw [← hW1]; exact heap_alloc_new wr _
      have s0 := cell_of (i := 0) hbox (v := .int .i64 r.term) rfl
      have s1 := cell_of (i := 1) hbox (v := .int .i64 ((A : Int) + 1)) rfl
      have s2 := cell_of (i := 2) hbox (v := .slice ro rn rc) rfl
      have hfrb := (a1.sta.fresh (Nat.le_refl wr.heap.size)).1
      have HL1 : Hid (∀ m, Calls Try.prog 138 #[.pointer (some ⟨b, 0, none⟩)] (W1.drewN m) fun r w' => r = .returned (.int .i64 (l.length : Nat)) ∧ w' = W1.drewN m) := fun m => last_any (W1.drewN m) M1 O1 b k _ (Nod.below a1.sta hnod (b1.trans ((drewN_below W1 m).mono b1.size)))
      have HL1b : Hid (∀ q m, Calls Try.prog 138 #[.pointer (some ⟨b, 0, none⟩)] (W1.drewN (q + m)) fun r w' => r = .returned (.int .i64 (l.length : Nat)) ∧ ∃ n, w' = W1.drewN (q + n)) := fun q m => (HL1.out (q + m)).mono (fun _ _ h => ⟨h.1, m, h.2⟩)
      clear hA
      by_cases hAl : A < l.length
      · have hAlI : (A : Int) + 1 ≤ l.length := by omega
        have HT1 : Hid (∀ m, Calls Try.prog 148 #[.pointer (some ⟨b, 0, none⟩), .int .i64 ((A : Int) + 1)] (W1.drewN m) fun r w' => r = .returned (.int .i64 (termAt l (A + 1) : Nat)) ∧ w' = W1.drewN m) := fun m => term_any (W1.drewN m) M1 O1 b k _ (Nod.below a1.sta hnod (b1.trans ((drewN_below W1 m).mono b1.size))) (A + 1) (by show A + 1 ≤ l.length; omega)
        by_cases hT : termAt l (A + 1) = r.term
        · have e1 : ((termAt l (A + 1) : Int) != (r.term : Int)) = false := by simp; omega
          have HX : Hid (∀ q, NDid M O w b k { p with log := mg p.log a rs (j + 1) } (W1.drewN q)) := fun q => by
            have e9 : stepL l A r = l := by
              have hc9 : cutL l A r = l := by unfold cutL; rw [if_neg (fun h => h.2 hT)]
              unfold stepL
              rw [hc9, if_neg (by omega)]
            rw [HMg.out, e9]
            have hb9 : Below wr.heap.size wr (W1.drewN q) := ⟨b1.os, b1.tape, b1.output, b1.size, b1.block⟩
            exact ⟨M1, O1, a1.below hb9, Nod.below a1.sta hnod hb9⟩
          generalize termAt l (A + 1) = T at *
          have hgtI : ¬ ((l.length : Int) < (A : Int) + 1) := by omega
          generalize l.length = LL at *
          clear hT HMg hnod a1 b1 hbox HJ HCell hfar
          go_wp2
          go_quiet (first | (go_at_call 138; refine Calls.quiet_of_same (HL1.out _)) | (go_at_call 148; refine Calls.quiet_of_same (HT1.out _)))
          go_wp2
          go_quiet (first | (go_at_call 138; refine HL1b.out _ _))
          go_wp2
          go_roundw
          case rel => exact ⟨j + 1, by omega, by go_num, hide (HX.out _)⟩
          case measure => simp [intOf]; omega
        · have e1 : ((termAt l (A + 1) : Int) != (r.term : Int)) = true := by simp; omega
          obtain ⟨us1, lv1, vv1, nv1, mv1, hn1⟩ := id hnod
          have hus1 : us1.length = l.length := by
            have := congrArg List.length hn1.recs
            rw [List.length_map] at this
            exact this
          obtain ⟨lo1, lc1, elv⟩ := own_slice hn1.log
          subst elv
          have hcap1 := (own_cap hn1.log).2
          unfold maxLen at hcap1
          have hnW : Nd W1 M1 O1 b k { p with log := l } us1 (.slice lo1 us1.length lc1) vv1 nv1 mv1 := hn1.keep (fun x hx => b1.block x (a1.sta.ok x _ hx).2) (Le.refl _) (fun _ hx => hx)
          obtain ⟨⟨_, _, u2, _⟩, ⟨_, _, v2, _⟩⟩ := Nd.cs hnW
          rw [hus1] at u2 hcap1
          have HlA : Hid ((l.take A).length = A) := by unfold Hid; rw [List.length_take]; omega
          have HStep : Hid (stepL l A r = l.take A ++ [r]) := by
            have hc9 : cutL l A r = l.take A := by unfold cutL; rw [if_pos ⟨hAl, hT⟩]
            unfold Hid stepL
            rw [hc9, if_pos HlA.out.symm]
          have HXX : Hid (∀ q, ∃ X, (W1.drewN q).setCell ⟨b, 2, none⟩ (.slice lo1 A lc1) = X ∧ Hid (NDid M1 O1 wr b k { p with log := l.take A } X) ∧ (X.cell? ⟨wr.heap.size, 0, none⟩ = some (.int .i64 r.term) ∧ X.cell? ⟨wr.heap.size, 1, none⟩ = some (.int .i64 ((A : Int) + 1)) ∧ X.cell? ⟨wr.heap.size, 2, none⟩ = some (.slice ro rn rc))) := fun q => by
            have hbne : wr.heap.size ≠ b := by have := (a1.sta.ok b _ hn1.own).2; omega
            have h9 := NDid.cut a1.sta hn1 (W := W1.drewN q) (⟨b1.os, b1.tape, b1.output, b1.size, b1.block⟩) A (by omega)
            have hk9 : ((W1.drewN q).setCell ⟨b, 2, none⟩ (.slice lo1 A lc1)).heap[wr.heap.size]? = some (.cells #[.int .i64 r.term, .int .i64 ((A : Int) + 1), .slice ro rn rc] 38 (0, 0)) := (Below.heap_setCell (W1.drewN q) ⟨b, 2, none⟩ (.slice lo1 A lc1) wr.heap.size hbne).trans hbox
            exact ⟨_, rfl, h9, cell_of hk9 rfl, cell_of hk9 rfl, cell_of hk9 rfl⟩
          have hA1I : (A : Int) ≤ l.length := by omega
          generalize termAt l (A + 1) = T at *
          clear hT hnod hn1 hnW hbox HJ HCell hus1
          obtain ⟨LL, hLL⟩ : ∃ LL, LL = l.length := ⟨_, rfl⟩
          rw [← hLL] at u2 hcap1 hAlI hA1I HL1 HL1b hAl hln
          clear hLL
          go_wp2
          go_quiet (first | (go_at_call 138; refine Calls.quiet_of_same (HL1.out _)) | (go_at_call 148; refine Calls.quiet_of_same (HT1.out _)))
          go_wp2
          go_region
          obtain ⟨X, hX, HX, x0, x1, x2⟩ := HXX.out (nq + 1)
          rw [hX]
          clear hX HXX s0 s1 s2 HL1 HL1b HT1 u2 v2
          go_wp2
          obtain ⟨M2, O2, a2, us2, lv2, vv2, nv2, mv2, hn2⟩ := HX.out
          have hus2 : us2.length = A := by
            have := congrArg List.length hn2.recs
            rw [List.length_map] at this
            rw [this]
            exact HlA.out
          obtain ⟨co, cc, ecv⟩ := own_slice hn2.log
          subst ecv
          have hcap := (own_cap hn2.log).2.2
          unfold maxLen at hcap
          obtain ⟨⟨_, _, u2, _⟩, ⟨_, _, v2, _⟩⟩ := Nd.cs hn2
          have HL2 : Hid (∀ m, Calls Try.prog 138 #[.pointer (some ⟨b, 0, none⟩)] (X.drewN m) fun r w' => r = .returned (.int .i64 (A : Nat)) ∧ w' = X.drewN m) := fun m => by
            have := last_any (X.drewN m) M2 O2 b k _ (Nod.below a2.sta ⟨us2, _, _, _, _, hn2⟩ (drewN_below X m))
            rw [show ({ p with log := l.take A } : Peer).log.length = A from HlA.out] at this
            exact this
          have hbl := (a2.sta.ok b _ hn2.own).2
          have HY : Hid (∀ q, ∃ Y, X.drewN q = Y ∧ (Y.cell? ⟨b, 2, none⟩ = some (.slice co us2.length cc) ∧ Y.cell? ⟨wr.heap.size, 0, none⟩ = some (.int .i64 r.term) ∧ Y.cell? ⟨wr.heap.size, 1, none⟩ = some (.int .i64 ((A : Int) + 1)) ∧ Y.cell? ⟨wr.heap.size, 2, none⟩ = some (.slice ro rn rc)) ∧ Hid ((((Y.alloc (.cells #[.int .i64 r.term, .int .i64 ((A : Int) + 1), .slice ro rn rc] 38)).drew).ownsRow 0 38 3 (.slice co us2.length cc) us2.length (us2.flatMap recCells)) ∧ (∀ (w2 : World), ((Y.alloc (.cells #[.int .i64 r.term, .int .i64 ((A : Int) + 1), .slice ro rn rc] 38)).drew).grownBy w2 (Value.slice co us2.length cc).ownBlock → w2.heap[b]? = X.heap[b]?) ∧
              (∀ (w2 : World) (g2 n2 cap2 : Nat), ((Y.alloc (.cells #[.int .i64 r.term, .int .i64 ((A : Int) + 1), .slice ro rn rc] 38)).drew).grownBy w2 (Value.slice co us2.length cc).ownBlock → w2.ownsRow 0 38 3 (.slice (some ⟨g2, 0, none⟩) n2 cap2) (us2.length + 1) (us2.flatMap recCells ++ [.int .i64 r.term, .int .i64 ((A : Int) + 1), .slice ro rn rc]) → ((Value.slice co us2.length cc).ownBlock = some g2 ∨ g2 = ((Y.alloc (.cells #[.int .i64 r.term, .int .i64 ((A : Int) + 1), .slice ro rn rc] 38)).drew).heap.size) → NDid M O w b k { p with log := mg p.log a rs (j + 1) } (w2.setCell ⟨b, 2, none⟩ (.slice (some ⟨g2, 0, none⟩) n2 cap2))))) := fun q => by
            refine ⟨X.drewN q, rfl, ⟨u2, x0, x1, x2⟩, ?_, ?_, ?_⟩
            · exact row_kept hn2.log fun g' hg' => (more (Below.refl _ _) (.cells #[.int .i64 r.term, .int .i64 ((A : Int) + 1), .slice ro rn rc] 38)).block g' (row_lt hn2.log hg').2
            · exact fun w2 hg => (hg.block b (by have e7 : (((X.drewN q).alloc (.cells #[.int .i64 r.term, .int .i64 ((A : Int) + 1), .slice ro rn rc] 38)).drew).heap.size = ((X.drewN q).alloc (.cells #[.int .i64 r.term, .int .i64 ((A : Int) + 1), .slice ro rn rc] 38)).heap.size := rfl; have := (more (Below.refl _ (X.drewN q)) (.cells #[.int .i64 r.term, .int .i64 ((A : Int) + 1), .slice ro rn rc] 38)).size; have e8 : (X.drewN q).heap.size = X.heap.size := rfl; omega) (fun e => hn2.ne.1 e.symm)).trans ((more (Below.refl _ (X.drewN q)) (.cells #[.int .i64 r.term, .int .i64 ((A : Int) + 1), .slice ro rn rc] 38)).block b hbl)
            · intro w2 g2 n2 cap2 p1 p2 p3
              have h9 := NDid.push a2.sta hn2 (W := (((X.drewN q).alloc (.cells #[.int .i64 r.term, .int .i64 ((A : Int) + 1), .slice ro rn rc] 38)).drew)) ((more (drewN_below X q) (.cells #[.int .i64 r.term, .int .i64 ((A : Int) + 1), .slice ro rn rc] 38)).drew) (y := ⟨r, .slice ro rn rc⟩) ⟨qb.le a2.le, qd⟩ (by rw [show recCells ⟨r, .slice ro rn rc⟩ = [.int .i64 r.term, .int .i64 ((A : Int) + 1), .slice ro rn rc] from by simp [recCells, hri, HA.out]]; exact p2) p1 p3
              obtain ⟨M3, O3, a3, h10⟩ := h9
              refine ⟨M3, O3, a1.trans (a2.trans a3), ?_⟩
              rw [HMg.out, HStep.out]
              exact h10
          obtain ⟨i0, hii, hz0, hz1, hz2⟩ := info_parts info35
          have HI3 : Hid (Try.prog.info? 38 = some i0 ∧ i0.zero = some (.agg #[.int .i64 0, .int .i64 0, .slice none 0 0]) ∧ i0.size = 3 ∧ i0.bytes = 40) := ⟨hii, hz0, hz1, hz2⟩
          have HDb := hide hn2.blk
          have hN : us2.length ≤ 1000 := by rw [hus2]; omega
          have hgtI : decide ((A : Int) < (A : Int) + 1) = true := by simp; omega
          clear hii hz0 hz1 hz2 hn2 a2 HX HlA HStep hus2 hbl
          generalize us2.length = N at *
          go_quiet (first | (go_at_call 138; refine Calls.quiet_of_same (HL2.out _)))
          obtain ⟨Y, hY, ⟨y2, y3, y4, y5⟩, HYY⟩ := HY.out nq
          rw [hY]
          have y3a : ∀ ob, (Y.alloc ob).cell? ⟨wr.heap.size, 0, none⟩ = some (.int .i64 r.term) := fun ob => at_of (more (Below.refl _ _) ob) y3
          have y4a : ∀ ob, (Y.alloc ob).cell? ⟨wr.heap.size, 1, none⟩ = some (.int .i64 ((A : Int) + 1)) := fun ob => at_of (more (Below.refl _ _) ob) y4
          have y5a : ∀ ob, (Y.alloc ob).cell? ⟨wr.heap.size, 2, none⟩ = some (.slice ro rn rc) := fun ob => at_of (more (Below.refl _ _) ob) y5
          have y2a : ∀ ob, (Y.alloc ob).cell? ⟨b, 2, none⟩ = some (.slice co N cc) := fun ob => at_of (more (Below.refl _ _) ob) y2
          have HNw : Hid (∀ (i : Nat) (u : Value), ([.int .i64 r.term, .int .i64 ((A : Int) + 1), .slice ro rn rc] : List Value)[i]? = some u → ((Y.alloc (.cells #[.int .i64 r.term, .int .i64 ((A : Int) + 1), .slice ro rn rc] 38)).drew).cell? ((⟨Y.heap.size, 0, none⟩ : Addr).add i) = some u) := fun i u hu => by
            rw [addr_add, Nat.zero_add]
            have h7 : (Y.alloc (.cells #[.int .i64 r.term, .int .i64 ((A : Int) + 1), .slice ro rn rc] 38)).cell? ⟨Y.heap.size, i, none⟩ = some u := cell_of (heap_alloc_new Y _) (by simpa using hu)
            exact h7
          clear hY HY
          go_wp2
          go_region_law (first
            | (refine step_append_lies _ rfl _ _ 28 rfl 0 38 i0 (.agg #[.int .i64 0, .int .i64 0, .slice none 0 0]) 3 40 Try.underlying28 HI3.out.1 HI3.out.2.1 HI3.out.2.2.1 HI3.out.2.2.2 rfl (by decide) _ N (us2.flatMap recCells) rfl HYY.out.1 ⟨Y.heap.size, 0, none⟩ 1 1 [.int .i64 r.term, .int .i64 ((A : Int) + 1), .slice ro rn rc] rfl rfl HNw.out (fun u' hu' => by simp only [List.mem_cons, List.not_mem_nil, or_false] at hu'; rcases hu' with rfl | rfl | rfl <;> rfl) (by decide) (by unfold maxLen; omega) (by omega) (Nat.zero_le _) _ rfl ?_
               intro g2 cap2 w2 O2' G2 hg2 hgl2
               have HN2 := hide (HYY.out.2.2 w2 g2 _ cap2 G2 O2' hg2)
               have k2 := (HYY.out.2.1 w2 G2).trans HDb.out
               have t0 := cell_of (i := 2) k2 (v := .slice co N cc) rfl
               have t1 := frozen_of k2 2
               clear O2' G2 hg2 hgl2 k2))
          all_goals
            go_wp2
            go_roundw
            case rel => exact ⟨j + 1, by omega, by go_num, HN2⟩
            case measure => simp [intOf]; omega

      · have hAe : A = l.length := by omega
        have hdc : decide ((A : Int) + 1 ≤ (A : Int)) = false := by simp; omega
        have HlA : Hid (l.length = A) := hAe.symm
        have HStep : Hid (stepL l A r = l ++ [r]) := by
          have hc9 : cutL l A r = l := by unfold cutL; rw [if_neg (fun h => hAl h.1)]
          unfold Hid stepL
          rw [hc9, if_pos hAe]
        have HXX : Hid (∀ q, ∃ X, W1.drewN q = X ∧ Hid (NDid M1 O1 wr b k { p with log := l } X) ∧ (X.cell? ⟨wr.heap.size, 0, none⟩ = some (.int .i64 r.term) ∧ X.cell? ⟨wr.heap.size, 1, none⟩ = some (.int .i64 ((A : Int) + 1)) ∧ X.cell? ⟨wr.heap.size, 2, none⟩ = some (.slice ro rn rc))) := fun q =>
          ⟨_, rfl, NDid.same a1.sta hnod ⟨b1.os, b1.tape, b1.output, b1.size, b1.block⟩, s0, s1, s2⟩
        rw [← hAe] at HL1 HL1b hln
        clear hAe hAl hnod hbox HJ HCell
        go_wp2
        go_quiet (first | (go_at_call 138; refine Calls.quiet_of_same (HL1.out _)))
        obtain ⟨X, hX, HX, x0, x1, x2⟩ := HXX.out nq
        rw [hX]
        clear hX HXX s0 s1 s2 HL1 HL1b
        go_wp2
        obtain ⟨M2, O2, a2, us2, lv2, vv2, nv2, mv2, hn2⟩ := HX.out
        have hus2 : us2.length = A := by
          have := congrArg List.length hn2.recs
          rw [List.length_map] at this
          rw [this]
          exact HlA.out
        obtain ⟨co, cc, ecv⟩ := own_slice hn2.log
        subst ecv
        have hcap := (own_cap hn2.log).2.2
        unfold maxLen at hcap
        obtain ⟨⟨_, _, u2, _⟩, ⟨_, _, v2, _⟩⟩ := Nd.cs hn2
        have HL2 : Hid (∀ m, Calls Try.prog 138 #[.pointer (some ⟨b, 0, none⟩)] (X.drewN m) fun r w' => r = .returned (.int .i64 (A : Nat)) ∧ w' = X.drewN m) := fun m => by
          have := last_any (X.drewN m) M2 O2 b k _ (Nod.below a2.sta ⟨us2, _, _, _, _, hn2⟩ (drewN_below X m))
          rw [show ({ p with log := l } : Peer).log.length = A from HlA.out] at this
          exact this
        have hbl := (a2.sta.ok b _ hn2.own).2
        have HY : Hid (∀ q, ∃ Y, X.drewN q = Y ∧ (Y.cell? ⟨b, 2, none⟩ = some (.slice co us2.length cc) ∧ Y.cell? ⟨wr.heap.size, 0, none⟩ = some (.int .i64 r.term) ∧ Y.cell? ⟨wr.heap.size, 1, none⟩ = some (.int .i64 ((A : Int) + 1)) ∧ Y.cell? ⟨wr.heap.size, 2, none⟩ = some (.slice ro rn rc)) ∧ Hid ((((Y.alloc (.cells #[.int .i64 r.term, .int .i64 ((A : Int) + 1), .slice ro rn rc] 38)).drew).ownsRow 0 38 3 (.slice co us2.length cc) us2.length (us2.flatMap recCells)) ∧ (∀ (w2 : World), ((Y.alloc (.cells #[.int .i64 r.term, .int .i64 ((A : Int) + 1), .slice ro rn rc] 38)).drew).grownBy w2 (Value.slice co us2.length cc).ownBlock → w2.heap[b]? = X.heap[b]?) ∧
            (∀ (w2 : World) (g2 n2 cap2 : Nat), ((Y.alloc (.cells #[.int .i64 r.term, .int .i64 ((A : Int) + 1), .slice ro rn rc] 38)).drew).grownBy w2 (Value.slice co us2.length cc).ownBlock → w2.ownsRow 0 38 3 (.slice (some ⟨g2, 0, none⟩) n2 cap2) (us2.length + 1) (us2.flatMap recCells ++ [.int .i64 r.term, .int .i64 ((A : Int) + 1), .slice ro rn rc]) → ((Value.slice co us2.length cc).ownBlock = some g2 ∨ g2 = ((Y.alloc (.cells #[.int .i64 r.term, .int .i64 ((A : Int) + 1), .slice ro rn rc] 38)).drew).heap.size) → NDid M O w b k { p with log := mg p.log a rs (j + 1) } (w2.setCell ⟨b, 2, none⟩ (.slice (some ⟨g2, 0, none⟩) n2 cap2))))) := fun q => by
          refine ⟨X.drewN q, rfl, ⟨u2, x0, x1, x2⟩, ?_, ?_, ?_⟩
          · exact row_kept hn2.log fun g' hg' => (more (Below.refl _ _) (.cells #[.int .i64 r.term, .int .i64 ((A : Int) + 1), .slice ro rn rc] 38)).block g' (row_lt hn2.log hg').2
          · exact fun w2 hg => (hg.block b (by have e7 : (((X.drewN q).alloc (.cells #[.int .i64 r.term, .int .i64 ((A : Int) + 1), .slice ro rn rc] 38)).drew).heap.size = ((X.drewN q).alloc (.cells #[.int .i64 r.term, .int .i64 ((A : Int) + 1), .slice ro rn rc] 38)).heap.size := rfl; have := (more (Below.refl _ (X.drewN q)) (.cells #[.int .i64 r.term, .int .i64 ((A : Int) + 1), .slice ro rn rc] 38)).size; have e8 : (X.drewN q).heap.size = X.heap.size := rfl; omega) (fun e => hn2.ne.1 e.symm)).trans ((more (Below.refl _ (X.drewN q)) (.cells #[.int .i64 r.term, .int .i64 ((A : Int) + 1), .slice ro rn rc] 38)).block b hbl)
          · intro w2 g2 n2 cap2 p1 p2 p3
            have h9 := NDid.push a2.sta hn2 (W := (((X.drewN q).alloc (.cells #[.int .i64 r.term, .int .i64 ((A : Int) + 1), .slice ro rn rc] 38)).drew)) ((more (drewN_below X q) (.cells #[.int .i64 r.term, .int .i64 ((A : Int) + 1), .slice ro rn rc] 38)).drew) (y := ⟨r, .slice ro rn rc⟩) ⟨qb.le a2.le, qd⟩ (by rw [show recCells ⟨r, .slice ro rn rc⟩ = [.int .i64 r.term, .int .i64 ((A : Int) + 1), .slice ro rn rc] from by simp [recCells, hri, HA.out]]; exact p2) p1 p3
            obtain ⟨M3, O3, a3, h10⟩ := h9
            refine ⟨M3, O3, a1.trans (a2.trans a3), ?_⟩
            rw [HMg.out, HStep.out]
            exact h10
        obtain ⟨i0, hii, hz0, hz1, hz2⟩ := info_parts info35
        have HI3 : Hid (Try.prog.info? 38 = some i0 ∧ i0.zero = some (.agg #[.int .i64 0, .int .i64 0, .slice none 0 0]) ∧ i0.size = 3 ∧ i0.bytes = 40) := ⟨hii, hz0, hz1, hz2⟩
        have HDb := hide hn2.blk
        have hN : us2.length ≤ 1000 := by rw [hus2]; omega
        have hgtI : decide ((A : Int) < (A : Int) + 1) = true := by simp; omega
        clear hii hz0 hz1 hz2 hn2 a2 HX HlA HStep hus2 hbl
        generalize us2.length = N at *
        go_quiet (first | (go_at_call 138; refine Calls.quiet_of_same (HL2.out _)))
        obtain ⟨Y, hY, ⟨y2, y3, y4, y5⟩, HYY⟩ := HY.out nq
        rw [hY]
        have y3a : ∀ ob, (Y.alloc ob).cell? ⟨wr.heap.size, 0, none⟩ = some (.int .i64 r.term) := fun ob => at_of (more (Below.refl _ _) ob) y3
        have y4a : ∀ ob, (Y.alloc ob).cell? ⟨wr.heap.size, 1, none⟩ = some (.int .i64 ((A : Int) + 1)) := fun ob => at_of (more (Below.refl _ _) ob) y4
        have y5a : ∀ ob, (Y.alloc ob).cell? ⟨wr.heap.size, 2, none⟩ = some (.slice ro rn rc) := fun ob => at_of (more (Below.refl _ _) ob) y5
        have y2a : ∀ ob, (Y.alloc ob).cell? ⟨b, 2, none⟩ = some (.slice co N cc) := fun ob => at_of (more (Below.refl _ _) ob) y2
        have HNw : Hid (∀ (i : Nat) (u : Value), ([.int .i64 r.term, .int .i64 ((A : Int) + 1), .slice ro rn rc] : List Value)[i]? = some u → ((Y.alloc (.cells #[.int .i64 r.term, .int .i64 ((A : Int) + 1), .slice ro rn rc] 38)).drew).cell? ((⟨Y.heap.size, 0, none⟩ : Addr).add i) = some u) := fun i u hu => by
          rw [addr_add, Nat.zero_add]
          have h7 : (Y.alloc (.cells #[.int .i64 r.term, .int .i64 ((A : Int) + 1), .slice ro rn rc] 38)).cell? ⟨Y.heap.size, i, none⟩ = some u := cell_of (heap_alloc_new Y _) (by simpa using hu)
          exact h7
        clear hY HY
        go_wp2
        go_region_law (first
          | (refine step_append_lies _ rfl _ _ 28 rfl 0 38 i0 (.agg #[.int .i64 0, .int .i64 0, .slice none 0 0]) 3 40 Try.underlying28 HI3.out.1 HI3.out.2.1 HI3.out.2.2.1 HI3.out.2.2.2 rfl (by decide) _ N (us2.flatMap recCells) rfl HYY.out.1 ⟨Y.heap.size, 0, none⟩ 1 1 [.int .i64 r.term, .int .i64 ((A : Int) + 1), .slice ro rn rc] rfl rfl HNw.out (fun u' hu' => by simp only [List.mem_cons, List.not_mem_nil, or_false] at hu'; rcases hu' with rfl | rfl | rfl <;> rfl) (by decide) (by unfold maxLen; omega) (by omega) (Nat.zero_le _) _ rfl ?_
             intro g2 cap2 w2 O2' G2 hg2 hgl2
             have HN2 := hide (HYY.out.2.2 w2 g2 _ cap2 G2 O2' hg2)
             have k2 := (HYY.out.2.1 w2 G2).trans HDb.out
             have t0 := cell_of (i := 2) k2 (v := .slice co N cc) rfl
             have t1 := frozen_of k2 2
             clear O2' G2 hg2 hgl2 k2))
        all_goals
          go_wp2
          go_roundw
          case rel => exact ⟨j + 1, by omega, by go_num, HN2⟩
          case measure => simp [intOf]; omega

    · have hltI : ¬ (j : Int) < n := by omega
      obtain rfl : j = n := by omega
      go_wp2
      go_end0
      exact ⟨rfl, HJ.out⟩
end Go.Proofs.Ytklkglbimjajnaa.takes

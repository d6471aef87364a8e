import Derived.Test.YtklkglbimjajnaaQ07
set_option linter.unusedVariables false
open Go.ChangeShapes Go.WideShapes Go.ChangeAt Go.RowKit
namespace Go.Proofs.Ytklkglbimjajnaa.answ
open Raft mem grp Ytklkglbimjajnaa.look ndw grant stand lead rows2 post postb say lookb lookc commit too elect tick vote
set_option maxHeartbeats 1000000 in
theorem answ_no (w : World) (M : Fz) (O : Lb) (d : Nat) (nb : List Nat) (c : Cl) (h : G w M O d nb c) (k b : Nat) (hb : nb[k]? = some b) (m : Msg) (o : Option Addr) (n lc : Nat) (hno : m.term ≠ (c.at k).term ∨ (c.at k).role ≠ 2) :
    Calls Try.prog 131 #[.pointer (some ⟨d, 0, none⟩), .pointer (some ⟨b, 0, none⟩), .agg #[.int .i64 m.kind, .int .i64 m.frm, .int .i64 m.to, .int .i64 m.term, .int .i64 m.a, .int .i64 m.b, .int .i64 m.c, .bool m.ok, .slice o n lc]] w fun r w' => r = .returned (.tuple #[]) ∧ Did M O w d nb c w' := by
  have st := h.sta
  obtain ⟨W, hW⟩ : ∃ W, w.alloc (.cells #[.int .i64 m.kind, .int .i64 m.frm, .int .i64 m.to, .int .i64 m.term, .int .i64 m.a, .int .i64 m.b, .int .i64 m.c, .bool m.ok, .slice o n lc] 98) = W := ⟨_, rfl⟩
  have bW : Below w.heap.size w W := by rw [← hW]; exact more (Below.refl _ _) _
  have hbox : W.heap[w.heap.size]? = some (.cells #[.int .i64 m.kind, .int .i64 m.frm, .int .i64 m.to, .int .i64 m.term, .int .i64 m.a, .int .i64 m.b, .int .i64 m.c, .bool m.ok, .slice o n lc] 98 (0, 0)) := by rw [← hW]; exact heap_alloc_new w _
  have hGW := h.below bW
  have HF : Hid (∀ q, Did M O w d nb c (W.drewN q)) := fun q => ⟨M, O, ((Aft.refl _ st).below bW).below (drewN_below W q), hGW.below (drewN_below W q)⟩
  obtain ⟨us, lv, vv, nv, mv, hn⟩ := hGW.at hb
  obtain ⟨⟨c0, _, _, _, _, _, c6, _⟩, _⟩ := Nd.cs hn
  have m0 := cell_of (i := 0) hbox (v := .int .i64 m.kind) rfl
  have m1 := cell_of (i := 1) hbox (v := .int .i64 m.frm) rfl
  have m2 := cell_of (i := 2) hbox (v := .int .i64 m.to) rfl
  have m3 := cell_of (i := 3) hbox (v := .int .i64 m.term) rfl
  have m4 := cell_of (i := 4) hbox (v := .int .i64 m.a) rfl
  have m5 := cell_of (i := 5) hbox (v := .int .i64 m.b) rfl
  have m6 := cell_of (i := 6) hbox (v := .int .i64 m.c) rfl
  have m7 := cell_of (i := 7) hbox (v := .bool m.ok) rfl
  have m8 := cell_of (i := 8) hbox (v := .slice o n lc) rfl
  by_cases ht : m.term = (c.at k).term
  · have hr : (c.at k).role ≠ 2 := by rcases hno with h | h; exact absurd ht h; exact h
    have e1 : ((m.term : Int) != ((c.at k).term : Int)) = false := by simp; omega
    have e2 : (((c.at k).role : Int) != 2) = true := by simp; omega
    generalize (c.at k).role = R at *
    generalize (c.at k).term = T at *
    clear hn hbox hGW bW h st ht hr hno
    go_enter Try.func131, Try.ntmps131
    go_wp2
    go_quiet (fail)
    go_wp2
    refine bodyPost_ret (results_none rfl _ _ _) rfl ?_
    exact ⟨rfl, HF.out _⟩
  · have e1 : ((m.term : Int) != ((c.at k).term : Int)) = true := by simp; omega
    generalize (c.at k).role = R at *
    generalize (c.at k).term = T at *
    clear hn hbox hGW bW h st ht hno
    go_enter Try.func131, Try.ntmps131
    go_wp2
    go_quiet (fail)
    go_wp2
    refine bodyPost_ret (results_none rfl _ _ _) rfl ?_
    exact ⟨rfl, HF.out _⟩
set_option maxHeartbeats 2000000 in
theorem answ_ok (w : World) (M : Fz) (O : Lb) (d : Nat) (nb : List Nat) (c : Cl) (h : G w M O d nb c) (k b : Nat) (hb : nb[k]? = some b) (m : Msg) (o : Option Addr) (n lc : Nat) (h1 : 1 ≤ c.peers.length) (h7 : c.peers.length ≤ 7) (hf : m.frm < c.peers.length) (hF : Fine c.peers.length (c.at k)) (hch : c.chosen.length ≤ 1000)
    (ht : m.term = (c.at k).term) (hr : (c.at k).role = 2) (hok : m.ok = true) (ha : m.a ≤ 1000) (hml : ∀ x ∈ (c.at k).mat, x ≤ 1000) :
    Calls Try.prog 131 #[.pointer (some ⟨d, 0, none⟩), .pointer (some ⟨b, 0, none⟩), .agg #[.int .i64 m.kind, .int .i64 m.frm, .int .i64 m.to, .int .i64 m.term, .int .i64 m.a, .int .i64 m.b, .int .i64 m.c, .bool m.ok, .slice o n lc]] w fun r w' => r = .returned (.tuple #[]) ∧ Did M O w d nb ((c.put k { c.at k with mat := (c.at k).mat.set m.frm (max ((c.at k).mat.getD m.frm 0) m.a), next := (c.at k).next.set m.frm (max ((c.at k).next.getD m.frm 0) (m.a + 1)) }).commits k) w' := by
  have st := h.sta
  have hkl : k < c.peers.length := by have := (List.getElem?_eq_some_iff.1 hb).1; have := h.len; omega
  obtain ⟨W, hW⟩ : ∃ W, w.alloc (.cells #[.int .i64 m.kind, .int .i64 m.frm, .int .i64 m.to, .int .i64 m.term, .int .i64 m.a, .int .i64 m.b, .int .i64 m.c, .bool true, .slice o n lc] 98) = W := ⟨_, rfl⟩
  have bW : Below w.heap.size w W := by rw [← hW]; exact more (Below.refl _ _) _
  have hbox : W.heap[w.heap.size]? = some (.cells #[.int .i64 m.kind, .int .i64 m.frm, .int .i64 m.to, .int .i64 m.term, .int .i64 m.a, .int .i64 m.b, .int .i64 m.c, .bool true, .slice o n lc] 98 (0, 0)) := by rw [← hW]; exact heap_alloc_new w _
  have hfr := (st.fresh (Nat.le_refl w.heap.size)).1
  have hGW := h.below bW
  obtain ⟨us, lv, vv, nv, mv, hn⟩ := hGW.at hb
  obtain ⟨⟨c0, _, _, _, _, _, c6, _, c8, c9⟩, _⟩ := Nd.cs hn
  have m0 := cell_of (i := 0) hbox (v := .int .i64 m.kind) rfl
  have m1 := cell_of (i := 1) hbox (v := .int .i64 m.frm) rfl
  have m2 := cell_of (i := 2) hbox (v := .int .i64 m.to) rfl
  have m3 := cell_of (i := 3) hbox (v := .int .i64 m.term) rfl
  have m4 := cell_of (i := 4) hbox (v := .int .i64 m.a) rfl
  have m5 := cell_of (i := 5) hbox (v := .int .i64 m.b) rfl
  have m6 := cell_of (i := 6) hbox (v := .int .i64 m.c) rfl
  have m7 := cell_of (i := 7) hbox (v := .bool true) rfl
  have m8 := cell_of (i := 8) hbox (v := .slice o n lc) rfl
  obtain ⟨q1, q2, q3⟩ := hF.lists hr
  obtain ⟨g, cap, rfl, hg1, hg2, hcells, hfz⟩ := own_at hn.mat (by omega)
  obtain ⟨g', cap', rfl, hg1', hg2', hcells', hfz'⟩ := own_at hn.next (by omega)
  unfold maxLen at hg2 hg2'
  have cg := hcells m.frm (.int .i64 ((c.at k).mat.getD m.frm 0)) (by rw [List.getElem?_map, getD_get (by omega)]; rfl)
  have fg := hfz m.frm
  have cg' := hcells' m.frm (.int .i64 ((c.at k).next.getD m.frm 0)) (by rw [List.getElem?_map, getD_get (by omega)]; rfl)
  have fg' := hfz' m.frm
  have hmb : (c.at k).mat.getD m.frm 0 ≤ 1000 := hml _ (List.mem_iff_getElem?.2 ⟨m.frm, getD_get (by omega)⟩)
  have hnb := (q3 m.frm hf).2
  have hlog := hF.log
  obtain ⟨c2, hc2⟩ : ∃ c2, c2 = c.put k { c.at k with mat := (c.at k).mat.set m.frm (max ((c.at k).mat.getD m.frm 0) m.a), next := (c.at k).next.set m.frm (max ((c.at k).next.getD m.frm 0) (m.a + 1)) } := ⟨_, rfl⟩
  have hc2k : c2.at k = { c.at k with mat := (c.at k).mat.set m.frm (max ((c.at k).mat.getD m.frm 0) m.a), next := (c.at k).next.set m.frm (max ((c.at k).next.getD m.frm 0) (m.a + 1)) } := by rw [hc2]; exact at_put c k _ hkl
  rw [← hc2]
  generalize hA : (c.at k).mat.getD m.frm 0 = A at *
  generalize hB : (c.at k).next.getD m.frm 0 = B at *
  have hgg : g' ≠ g := fun e => hn.apart g' rfl (by rw [e]; rfl)
  have hgb : g ≠ b := fun e => hn.ne.2.2.2 (by rw [e]; rfl)
  have hgb' : g' ≠ b := fun e => hn.ne.2.2.1 (by rw [e]; rfl)
  have hgx : g ≠ w.heap.size := fun e => by
    have := hn.lab (.slice (some ⟨g, 0, none⟩) (c.at k).mat.length cap) (by simp) g rfl
    rw [e, hfr] at this; cases this
  have hgx' : g' ≠ w.heap.size := fun e => by
    have := hn.lab (.slice (some ⟨g', 0, none⟩) (c.at k).next.length cap') (by simp) g' rfl
    rw [e, hfr] at this; cases this
  have HSt : Hid (∀ q q', Did M O w d nb c2 ((((W.drewN q).setCell ⟨g, m.frm, none⟩ (.int .i64 (max A m.a : Nat))).drewN q').setCell ⟨g', m.frm, none⟩ (.int .i64 (max B (m.a + 1) : Nat)))) := fun q q' => by
    have hGq := hGW.below (drewN_below W q)
    have h2 := NDid.setMat hGq.sta (hn.keep (w' := W.drewN q) (fun _ _ => rfl) (Le.refl _) (fun _ h => h)) m.frm (max A m.a)
    obtain ⟨M1, O1, a1, us1, lv1, vv1, nv1, mv1, hn1⟩ := h2.below (drewN_below _ q')
    have hblk : ((((W.drewN q).setCell ⟨g, m.frm, none⟩ (.int .i64 (max A m.a : Nat))).drewN q').heap[b]?) = W.heap[b]? := Below.heap_setCell W ⟨g, m.frm, none⟩ _ b (fun e => hgb e.symm)
    have e9 : nv1 = .slice (some ⟨g', 0, none⟩) (c.at k).next.length cap' := by
      have h5 := hn1.blk
      rw [hblk, hn.blk] at h5
      simp at h5
      exact h5.2.2.1.symm
    subst e9
    have h3 := NDid.setNext a1.sta hn1 m.frm (max B (m.a + 1))
    obtain ⟨M2, O2, a2, h4⟩ := h3
    have h6 := NDid.lift (⟨M2, O2, a1.trans a2, h4⟩ : NDid M O (W.drewN q) b k _ _) hGq hb
    have e7 : c2 = c.put k { c.at k with mat := (c.at k).mat.set m.frm (max A m.a), next := (c.at k).next.set m.frm (max B (m.a + 1)) } := hc2
    rw [e7]
    exact Did.from st (bW.trans ((drewN_below W q).mono bW.size)) h6
  have HCm : Hid (∀ wx, Did M O w d nb c2 wx → Calls Try.prog 140 #[.pointer (some ⟨d, 0, none⟩), .pointer (some ⟨b, 0, none⟩)] wx fun r w' => r = .returned (.tuple #[]) ∧ Did M O w d nb (c2.commits k) w') := fun wx hx => by
    obtain ⟨M1, O1, a1, g1⟩ := hx
    have hn2 : c2.peers.length = c.peers.length := by rw [hc2]; exact put_len _ _ _
    refine (commits_any wx M1 O1 d nb c2 g1 k b hb (by omega) (by omega) (by rw [hc2k]; simp; omega) (by rw [hc2k]; exact hF.commit) (by rw [hc2k]; show (c.at k).log.length ≤ 1000; omega) (by rw [hc2]; exact hch)).mono ?_
    rintro r w' ⟨rfl, hd⟩
    exact ⟨rfl, Did.trans a1 hd⟩
  have e1 : ((m.term : Int) != ((c.at k).term : Int)) = false := by simp; omega
  have e2 : (((c.at k).role : Int) != 2) = false := by simp; omega
  rw [show (Value.bool m.ok) = .bool true from by rw [hok]]
  have hfM : m.frm < (c.at k).mat.length := by omega
  have hfN : m.frm < (c.at k).next.length := by omega
  have hfMI : (m.frm : Int) < (c.at k).mat.length := by omega
  have hfNI : (m.frm : Int) < (c.at k).next.length := by omega
  have haI : (m.a : Int) ≤ 1000 := by omega
  generalize (c.at k).mat.length = ML at *
  generalize (c.at k).next.length = NL at *
  generalize (c.at k).role = R at *
  generalize (c.at k).term = T at *
  clear hn hcells hfz hcells' hfz' hbox hGW bW h st hc2k hc2 ht hr hok hF q1 q2 q3 hA hB hml hfr
  go_enter Try.func131, Try.ntmps131
  go_wp2
  go_quiet (fail)
  go_wp2
  have eM : (if A < m.a then (m.a : Int) else (A : Int)) = ((max A m.a : Nat) : Int) := by split <;> omega
  have HeM := hide eM
  clear eM
  go_region
  rw [HeM.out]
  have hgd : w.heap.size ≠ g := fun e => hgx e.symm
  obtain ⟨W2, hW2⟩ : ∃ W2, (W.drewN (nq + 1)).setCell ⟨g, m.frm, none⟩ (.int .i64 ((max A m.a : Nat) : Int)) = W2 := ⟨_, rfl⟩
  rw [hW2]
  have z8 : W2.cell? ⟨b, 8, none⟩ = some (.slice (some ⟨g', 0, none⟩) NL cap') := by rw [← hW2, World.cell?_of_block (a := ⟨b, 8, none⟩) (Below.heap_setCell _ _ _ b (fun e => hgb e.symm))]; exact c8
  have zg : W2.cell? ⟨g', m.frm, none⟩ = some (.int .i64 B) := by rw [← hW2, World.cell?_of_block (a := ⟨g', m.frm, none⟩) (Below.heap_setCell _ _ _ g' hgg)]; exact cg'
  have zf : W2.frozen? ⟨g', m.frm, none⟩ = false := by
    have h9 : W2.heap[g']? = W.heap[g']? := by rw [← hW2]; exact Below.heap_setCell _ _ _ g' hgg
    have h8 := fg'
    simp only [World.frozen?] at h8 ⊢
    rw [h9]; exact h8
  have zm : W2.cell? ⟨w.heap.size, 4, none⟩ = some (.int .i64 m.a) := by rw [← hW2, World.cell?_of_block (a := ⟨w.heap.size, 4, none⟩) (Below.heap_setCell _ _ _ w.heap.size hgd)]; exact m4
  have HS2 : Hid (Did M O w d nb c2 (W2.setCell ⟨g', m.frm, none⟩ (.int .i64 (max B (m.a + 1) : Nat)))) := by rw [← hW2]; exact HSt.out (nq + 1) 0
  have HeN : Hid ((if (B : Int) < (m.a : Int) + 1 then (m.a : Int) + 1 else (B : Int)) = ((max B (m.a + 1) : Nat) : Int)) := by unfold Hid; split <;> omega
  clear hW2 HSt
  go_wp2
  go_region
  rw [HeN.out]
  go_wp2_with (go_at_call 140; refine (HCm.out _ HS2.out.drew).mono ?_; rintro rr w5 ⟨rfl, hd5⟩; have HD5 := hide hd5; clear hd5)
  go_end0
  exact ⟨rfl, HD5.out⟩
set_option maxHeartbeats 2000000 in
theorem answ_lo (w : World) (M : Fz) (O : Lb) (d : Nat) (nb : List Nat) (c : Cl) (h : G w M O d nb c) (k b : Nat) (hb : nb[k]? = some b) (m : Msg) (o : Option Addr) (n lc : Nat) (h1 : 1 ≤ c.peers.length) (h7 : c.peers.length ≤ 7) (hf : m.frm < c.peers.length) (hF : Fine c.peers.length (c.at k))
    (ht : m.term = (c.at k).term) (hr : (c.at k).role = 2) (hok : m.ok = false) (ha : m.a ≤ 1000) (hml : ∀ x ∈ (c.at k).mat, x ≤ (c.at k).log.length) :
    Calls Try.prog 131 #[.pointer (some ⟨d, 0, none⟩), .pointer (some ⟨b, 0, none⟩), .agg #[.int .i64 m.kind, .int .i64 m.frm, .int .i64 m.to, .int .i64 m.term, .int .i64 m.a, .int .i64 m.b, .int .i64 m.c, .bool m.ok, .slice o n lc]] w fun r w' => r = .returned (.tuple #[]) ∧ Did M O w d nb (if m.a + 1 < (c.at k).next.getD m.frm 0 then (c.put k { c.at k with next := (c.at k).next.set m.frm (max ((c.at k).mat.getD m.frm 0 + 1) (m.a + 1)) }).records k m.frm else c) w' := by
  have st := h.sta
  have hkl : k < c.peers.length := by have := (List.getElem?_eq_some_iff.1 hb).1; have := h.len; omega
  obtain ⟨W, hW⟩ : ∃ W, w.alloc (.cells #[.int .i64 m.kind, .int .i64 m.frm, .int .i64 m.to, .int .i64 m.term, .int .i64 m.a, .int .i64 m.b, .int .i64 m.c, .bool false, .slice o n lc] 98) = W := ⟨_, rfl⟩
  have bW : Below w.heap.size w W := by rw [← hW]; exact more (Below.refl _ _) _
  have hbox : W.heap[w.heap.size]? = some (.cells #[.int .i64 m.kind, .int .i64 m.frm, .int .i64 m.to, .int .i64 m.term, .int .i64 m.a, .int .i64 m.b, .int .i64 m.c, .bool false, .slice o n lc] 98 (0, 0)) := by rw [← hW]; exact heap_alloc_new w _
  have hfr := (st.fresh (Nat.le_refl w.heap.size)).1
  have hGW := h.below bW
  obtain ⟨us, lv, vv, nv, mv, hn⟩ := hGW.at hb
  obtain ⟨⟨c0, _, _, _, _, _, c6, _, c8, c9⟩, _⟩ := Nd.cs hn
  have m0 := cell_of (i := 0) hbox (v := .int .i64 m.kind) rfl
  have m1 := cell_of (i := 1) hbox (v := .int .i64 m.frm) rfl
  have m2 := cell_of (i := 2) hbox (v := .int .i64 m.to) rfl
  have m3 := cell_of (i := 3) hbox (v := .int .i64 m.term) rfl
  have m4 := cell_of (i := 4) hbox (v := .int .i64 m.a) rfl
  have m5 := cell_of (i := 5) hbox (v := .int .i64 m.b) rfl
  have m6 := cell_of (i := 6) hbox (v := .int .i64 m.c) rfl
  have m7 := cell_of (i := 7) hbox (v := .bool false) rfl
  have m8 := cell_of (i := 8) hbox (v := .slice o n lc) rfl
  obtain ⟨q1, q2, q3⟩ := hF.lists hr
  obtain ⟨g, cap, rfl, hg1, hg2, hcells, hfz⟩ := own_at hn.mat (by omega)
  obtain ⟨g', cap', rfl, hg1', hg2', hcells', hfz'⟩ := own_at hn.next (by omega)
  unfold maxLen at hg2 hg2'
  have cg := hcells m.frm (.int .i64 ((c.at k).mat.getD m.frm 0)) (by rw [List.getElem?_map, getD_get (by omega)]; rfl)
  have cg' := hcells' m.frm (.int .i64 ((c.at k).next.getD m.frm 0)) (by rw [List.getElem?_map, getD_get (by omega)]; rfl)
  have fg' := hfz' m.frm
  have hmb : (c.at k).mat.getD m.frm 0 ≤ (c.at k).log.length := hml _ (List.mem_iff_getElem?.2 ⟨m.frm, getD_get (by omega)⟩)
  have hnb := (q3 m.frm hf).2
  have hlog := hF.log
  have e1 : ((m.term : Int) != ((c.at k).term : Int)) = false := by simp; omega
  have e2 : (((c.at k).role : Int) != 2) = false := by simp; omega
  rw [show (Value.bool m.ok) = .bool false from by rw [hok]]
  have hfM : m.frm < (c.at k).mat.length := by omega
  have hfN : m.frm < (c.at k).next.length := by omega
  have hfMI : (m.frm : Int) < (c.at k).mat.length := by omega
  have hfNI : (m.frm : Int) < (c.at k).next.length := by omega
  have haI : (m.a : Int) ≤ 1000 := by omega
  by_cases hlt : m.a + 1 < (c.at k).next.getD m.frm 0
  · rw [if_pos hlt]
    have hltI : (m.a : Int) + 1 < (c.at k).next.getD m.frm 0 := by omega
    obtain ⟨c2, hc2⟩ : ∃ c2, c2 = c.put k { c.at k with next := (c.at k).next.set m.frm (max ((c.at k).mat.getD m.frm 0 + 1) (m.a + 1)) } := ⟨_, rfl⟩
    have hc2k : c2.at k = { c.at k with next := (c.at k).next.set m.frm (max ((c.at k).mat.getD m.frm 0 + 1) (m.a + 1)) } := by rw [hc2]; exact at_put c k _ hkl
    rw [← hc2]
    generalize hA : (c.at k).mat.getD m.frm 0 = A at *
    generalize hB : (c.at k).next.getD m.frm 0 = B at *
    obtain ⟨V, hV⟩ : ∃ V, V = max (A + 1) (m.a + 1) := ⟨_, rfl⟩
    have HSt : Hid (∀ q, Did M O w d nb c2 ((W.drewN q).setCell ⟨g', m.frm, none⟩ (.int .i64 (V : Nat)))) := fun q => by
      rw [hV]
      have hGq := hGW.below (drewN_below W q)
      have h2 := NDid.setNext hGq.sta (hn.keep (w' := W.drewN q) (fun _ _ => rfl) (Le.refl _) (fun _ h => h)) m.frm (max (A + 1) (m.a + 1))
      have h6 := NDid.lift h2 hGq hb
      rw [← hc2] at h6
      exact Did.from st (bW.trans ((drewN_below W q).mono bW.size)) h6
    have HSr : Hid (∀ wx, Did M O w d nb c2 wx → Calls Try.prog 134 #[.pointer (some ⟨d, 0, none⟩), .pointer (some ⟨b, 0, none⟩), .int .i64 m.frm] wx fun r w' => r = .returned (.tuple #[]) ∧ Did M O w d nb (c2.records k m.frm) w') := fun wx hx => by
      obtain ⟨M1, O1, a1, g1⟩ := hx
      refine (sendr.sendRecords_any wx M1 O1 d nb c2 g1 k b hb m.frm (max (A + 1) (m.a + 1)) ?_ (by omega) ?_ ?_ (by omega)).mono ?_
      · rw [hc2k]
        show ((c.at k).next.set m.frm (max (A + 1) (m.a + 1)))[m.frm]? = _
        rw [List.getElem?_set_self hfN]
      · rw [hc2k]
        show max (A + 1) (m.a + 1) ≤ (c.at k).log.length + 1
        omega
      · rw [hc2k]
        show (c.at k).log.length ≤ 1000
        omega
      · rintro r w' ⟨rfl, hd⟩
        exact ⟨rfl, Did.trans a1 hd⟩
    have HeN : Hid ((if A < m.a then (m.a : Int) + 1 else (A : Int) + 1) = (V : Int)) := by unfold Hid; rw [hV]; split <;> omega
    have hAI : (A : Int) ≤ 1000 := by omega
    generalize (c.at k).mat.length = ML at *
    generalize (c.at k).next.length = NL at *
    generalize (c.at k).role = R at *
    generalize (c.at k).term = T at *
    clear hn hcells hfz hcells' hfz' hbox hGW bW h st hc2k hc2 ht hr hok hF q1 q2 q3 hA hB hml hfr hV
    go_enter Try.func131, Try.ntmps131
    go_wp2
    go_quiet (fail)
    go_wp2
    go_quiet (fail)
    go_wp2
    go_region
    rw [HeN.out]
    go_wp2_with (go_at_call 134; refine (HSr.out _ (HSt.out _)).mono ?_; rintro rr w5 ⟨rfl, hd5⟩; have HD5 := hide hd5; clear hd5)
    go_end0
    exact ⟨rfl, HD5.out⟩
  · rw [if_neg hlt]
    have hltI : ¬ (m.a : Int) + 1 < (c.at k).next.getD m.frm 0 := by omega
    have HF : Hid (∀ q, Did M O w d nb c (W.drewN q)) := fun q => ⟨M, O, ((Aft.refl _ st).below bW).below (drewN_below W q), hGW.below (drewN_below W q)⟩
    generalize hB : (c.at k).next.getD m.frm 0 = B at *
    generalize (c.at k).mat.length = ML at *
    generalize (c.at k).next.length = NL at *
    generalize (c.at k).role = R at *
    generalize (c.at k).term = T at *
    clear hn hcells hfz hcells' hfz' hbox hGW bW h st ht hr hok hF q1 q2 q3 hB hml hfr
    go_enter Try.func131, Try.ntmps131
    go_wp2
    go_quiet (fail)
    go_wp2
    go_quiet (fail)
    go_wp2
    go_end0
    exact ⟨rfl, (HF.out _).below (drewN_below _ _)⟩
end Go.Proofs.Ytklkglbimjajnaa.answ

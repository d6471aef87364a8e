/- Records came and are taken. -/
import Derived.Test.YtklkglbimjajnaaCame
namespace Go.Proofs.Ytklkglbimjajnaa.cameok
open Go.ChangeShapes Go.WideShapes Go.ChangeAt Go.RowKit
open Go.Proofs.Ytklkglbimjajnaa.Raft Go.Proofs.Ytklkglbimjajnaa.mem Go.Proofs.Ytklkglbimjajnaa.grp Go.Proofs.Ytklkglbimjajnaa.look Go.Proofs.Ytklkglbimjajnaa.ndw Go.Proofs.Ytklkglbimjajnaa.grant Go.Proofs.Ytklkglbimjajnaa.stand Go.Proofs.Ytklkglbimjajnaa.lead Go.Proofs.Ytklkglbimjajnaa.rows2 Go.Proofs.Ytklkglbimjajnaa.post Go.Proofs.Ytklkglbimjajnaa.postb Go.Proofs.Ytklkglbimjajnaa.say Go.Proofs.Ytklkglbimjajnaa.lookb Go.Proofs.Ytklkglbimjajnaa.lookc Go.Proofs.Ytklkglbimjajnaa.commit Go.Proofs.Ytklkglbimjajnaa.too Go.Proofs.Ytklkglbimjajnaa.elect Go.Proofs.Ytklkglbimjajnaa.tick Go.Proofs.Ytklkglbimjajnaa.vote Go.Proofs.Ytklkglbimjajnaa.takes
set_option linter.unusedVariables false


set_option maxHeartbeats 4000000 in
theorem came_ok (w : World) (M : Fz) (O : Lb) (d : Nat) (nb : List Nat) (c : Cl) (h : G w M O d nb c) (k b : Nat) (hb : nb[k]? = some b) (m : Msg) (o : Option Addr) (n lc : Nat) (hlv : RecsM M (.slice o n lc) m.log) (ht : ¬ m.term < (c.at k).term) (hha : m.a ≤ (c.at k).log.length) (hhb : termAt (c.at k).log m.a = m.b) (hl : (c.at k).log.length ≤ 500) (hml : m.log.length ≤ 500) (hidx : ∀ (j : Nat) (r : Rc), m.log[j]? = some r → r.index = m.a + j + 1) (hmc : m.c ≤ 1000) (hcm : (c.at k).commit ≤ (c.at k).log.length) (hch : c.chosen.length ≤ 1000)
    (hfin : max (c.at k).commit (min m.c (m.a + m.log.length)) ≤ (merge (c.at k).log m.a m.log).length) :
    Calls Try.prog 130 #[.pointer (some ⟨d, 0, none⟩), .pointer (some ⟨b, 0, none⟩), .agg #[.int .i64 m.kind, .int .i64 m.frm, .int .i64 m.to, .int .i64 m.term, .int .i64 m.a, .int .i64 m.b, .int .i64 m.c, .bool m.ok, .slice o n lc]] w fun r w' => r = .returned (.tuple #[]) ∧ Did M O w d nb ((((c.down k m.term).put k { (c.down k m.term).at k with log := merge (c.at k).log m.a m.log, commit := max (c.at k).commit (min m.c (m.a + m.log.length)) }).note k).send ⟨4, k, m.frm, ((c.down k m.term).at k).term, m.a + m.log.length, 0, 0, true, []⟩) w' := by
  have st := h.sta
  have hkl : k < c.peers.length := by have := (List.getElem?_eq_some_iff.1 hb).1; have := h.len; omega
  obtain ⟨W, hW⟩ : ∃ W, w.alloc (.cells #[.int .i64 m.kind, .int .i64 m.frm, .int .i64 m.to, .int .i64 m.term, .int .i64 m.a, .int .i64 m.b, .int .i64 m.c, .bool m.ok, .slice o n lc] 98) = W := ⟨_, rfl⟩
  have bW : Below w.heap.size w W := by rw [← hW]; exact more (Below.refl _ _) _
  have hbox : W.heap[w.heap.size]? = some (.cells #[.int .i64 m.kind, .int .i64 m.frm, .int .i64 m.to, .int .i64 m.term, .int .i64 m.a, .int .i64 m.b, .int .i64 m.c, .bool m.ok, .slice o n lc] 98 (0, 0)) := by rw [← hW]; exact heap_alloc_new w _
  have hfr := (st.fresh (Nat.le_refl w.heap.size)).1
  have hGW := h.below bW
  have HBox : Hid (∀ (cX : Cl) (wx : World), Did M O W d nb cX wx → (wx.cell? ⟨w.heap.size, 0, none⟩ = some (.int .i64 m.kind) ∧ wx.cell? ⟨w.heap.size, 1, none⟩ = some (.int .i64 m.frm) ∧ wx.cell? ⟨w.heap.size, 2, none⟩ = some (.int .i64 m.to) ∧ wx.cell? ⟨w.heap.size, 3, none⟩ = some (.int .i64 m.term) ∧ wx.cell? ⟨w.heap.size, 4, none⟩ = some (.int .i64 m.a) ∧ wx.cell? ⟨w.heap.size, 5, none⟩ = some (.int .i64 m.b) ∧ wx.cell? ⟨w.heap.size, 6, none⟩ = some (.int .i64 m.c) ∧ wx.cell? ⟨w.heap.size, 7, none⟩ = some (.bool m.ok) ∧ wx.cell? ⟨w.heap.size, 8, none⟩ = some (.slice o n lc))) := fun cX wx hx => by
    have hk := box_kept hx hfr hbox
    exact ⟨cell_of hk rfl, cell_of hk rfl, cell_of hk rfl, cell_of hk rfl, cell_of hk rfl, cell_of hk rfl, cell_of hk rfl, cell_of hk rfl, cell_of hk rfl⟩
  have H0 : Hid (∀ q, Did M O W d nb c (W.drewN q)) := fun q => ⟨M, O, (Aft.refl _ hGW.sta).below (drewN_below W q), hGW.below (drewN_below W q)⟩
  obtain ⟨us, lv, vv, nv, mv, hn⟩ := hGW.at hb
  obtain ⟨⟨c0, _⟩, _⟩ := Nd.cs hn
  obtain ⟨m0, m1, m2, m3, m4, m5, m6, m7, m8⟩ := HBox.out c W (H0.out 0)
  obtain ⟨c1, hc1⟩ : ∃ c1, c1 = c.down k m.term := ⟨_, rfl⟩
  have hc1k : c1.at k = downP (c.at k) m.term := by rw [hc1, down_put]; exact at_put c k _ hkl
  have hc1n : c1.peers.length = c.peers.length := by rw [hc1, down_put]; exact put_len _ _ _
  rw [← hc1]
  have HDn : Hid (∀ q, Calls Try.prog 127 #[.pointer (some ⟨b, 0, none⟩), .int .i64 m.term] (W.drewN q) fun r w' => r = .returned (.tuple #[]) ∧ Did M O W d nb c1 w') := fun q => by
    have hGq := hGW.below (drewN_below W q)
    refine (stepDown_any (W.drewN q) M O b k _ hGq.sta (hGq.at hb) m.term).mono ?_
    rintro r w' ⟨rfl, hd⟩
    have h2 := NDid.lift hd hGq hb
    rw [← down_put, ← hc1] at h2
    exact ⟨rfl, Did.from hGW.sta (drewN_below W q) h2⟩
  have HHas : Hid (∀ wx, Did M O W d nb c1 wx → Calls Try.prog 145 #[.pointer (some ⟨b, 0, none⟩), .int .i64 m.a, .int .i64 m.b] wx fun r w' => r = .returned (.bool true) ∧ w' = wx) := fun wx hx => by
    obtain ⟨M1, O1, a1, g1⟩ := hx
    have h9 := has_any wx M1 O1 b k _ (g1.at hb) m.a m.b
    rw [hc1k] at h9
    have e : decide (m.a ≤ (downP (c.at k) m.term).log.length ∧ termAt (downP (c.at k) m.term).log m.a = m.b) = true := by
      simp only [decide_eq_true_eq]
      exact ⟨hha, hhb⟩
    rw [e] at h9
    exact h9
  obtain ⟨c2, hc2⟩ : ∃ c2, c2 = c1.put k { c1.at k with log := merge (c.at k).log m.a m.log } := ⟨_, rfl⟩
  have hc2k : c2.at k = { downP (c.at k) m.term with log := merge (c.at k).log m.a m.log } := by rw [hc2, at_put c1 k _ (by omega), hc1k]
  have hc2n : c2.peers.length = c.peers.length := by rw [hc2]; exact (put_len _ _ _).trans hc1n
  have HTk : Hid (∀ wx, Did M O W d nb c1 wx → Calls Try.prog 146 #[.pointer (some ⟨b, 0, none⟩), .slice o n lc] wx fun r w' => r = .returned (.tuple #[]) ∧ Did M O W d nb c2 w') := fun wx hx => by
    obtain ⟨M1, O1, a1, g1⟩ := hx
    refine (take_any wx M1 O1 b k _ g1.sta (g1.at hb) m.log o n lc (hlv.le a1.le) m.a (by rw [hc1k]; exact hha) hidx (by rw [hc1k]; exact hl) hml).mono ?_
    rintro r w' ⟨rfl, hd⟩
    have e9 : (c1.at k).log = (c.at k).log := by rw [hc1k]; rfl
    rw [e9] at hd
    have h2 := NDid.lift hd g1 hb
    rw [← hc2] at h2
    exact ⟨rfl, Did.trans a1 h2⟩
  obtain ⟨E, hE⟩ : ∃ E, E = m.a + m.log.length := ⟨_, rfl⟩
  obtain ⟨V, hV⟩ : ∃ V, V = max (c.at k).commit (min m.c E) := ⟨_, rfl⟩
  rw [← hE, ← hV] at hfin ⊢
  obtain ⟨c3, hc3⟩ : ∃ c3, c3 = c1.put k { c1.at k with log := merge (c.at k).log m.a m.log, commit := V } := ⟨_, rfl⟩
  have hc3k : c3.at k = { downP (c.at k) m.term with log := merge (c.at k).log m.a m.log, commit := V } := by rw [hc3, at_put c1 k _ (by omega), hc1k]
  rw [← hc3]
  have HSt : Hid (∀ wx, Did M O W d nb c2 wx → Did M O W d nb c3 (wx.setCell ⟨b, 5, none⟩ (.int .i64 V)) ∧ wx.cell? ⟨b, 5, none⟩ = some (.int .i64 (c.at k).commit) ∧ wx.frozen? ⟨b, 5, none⟩ = false) := fun wx hx => by
    obtain ⟨M1, O1, a1, g1⟩ := hx
    obtain ⟨us1, lv1, vv1, nv1, mv1, hn1⟩ := g1.at hb
    have h2 := NDid.lift (NDid.sets g1.sta hn1 (Below.refl _ _) [(5, .int .i64 V)] { c2.at k with commit := V } vv1 nv1 mv1 rfl rfl (.inl ⟨rfl, rfl⟩) (.inl ⟨rfl, rfl⟩) (.inl ⟨rfl, rfl⟩)) g1 hb
    have e9 : c2.put k { c2.at k with commit := V } = c3 := by
      rw [hc2k, hc2, hc3, hc1k]
      simp [Cl.put, List.set_set]
    rw [e9] at h2
    have hcs := Nd.cs hn1
    rw [hc2k] at hcs
    exact ⟨Did.trans a1 h2, hcs.1.2.2.2.2.2.1, hcs.2.2.2.2.2.2.1⟩
  have HLk : Hid (∀ wx, Did M O W d nb c3 wx → Calls Try.prog 147 #[.pointer (some ⟨d, 0, none⟩), .pointer (some ⟨b, 0, none⟩)] wx fun r w' => r = .returned (.tuple #[]) ∧ Did M O W d nb (c3.note k) w') := fun wx hx => by
    obtain ⟨M1, O1, a1, g1⟩ := hx
    have hmg := mg_len (c.at k).log m.a m.log hha m.log.length (Nat.le_refl _)
    have e8 : mg (c.at k).log m.a m.log m.log.length = merge (c.at k).log m.a m.log := by unfold mg; rw [List.take_length]
    rw [e8] at hmg
    refine (look_any wx M1 O1 d nb c3 g1 k b hb (by rw [hc3k]; exact hfin) (by rw [hc3k]; show (merge (c.at k).log m.a m.log).length ≤ 1000; omega) (by rw [hc3, hc1]; exact hch)).mono ?_
    rintro r w' ⟨rfl, hd⟩
    exact ⟨rfl, Did.trans a1 (LDid.did hd)⟩
  have HSy : Hid (∀ wx, Did M O W d nb (c3.note k) wx → Calls Try.prog 144 #[.pointer (some ⟨d, 0, none⟩), .pointer (some ⟨b, 0, none⟩), .int .i64 m.frm, .agg #[.int .i64 4, .int .i64 0, .int .i64 0, .int .i64 0, .int .i64 E, .int .i64 0, .int .i64 0, .bool true, .slice none 0 0]] wx fun r w' => r = .returned (.tuple #[]) ∧ Did M O w d nb ((c3.note k).send ⟨4, k, m.frm, (c1.at k).term, E, 0, 0, true, []⟩) w') := fun wx hx => by
    obtain ⟨M1, O1, a1, g1⟩ := hx
    refine (say_any wx M1 O1 d nb (c3.note k) g1 k b hb m.frm 4 E 0 0 true [] none 0 0 (RecsM.nil M1)).mono ?_
    rintro r w' ⟨rfl, hd⟩
    have e9 : ((c3.note k).at k).term = (c1.at k).term := by rw [(note_at c3 k k).1, hc3k, hc1k]
    rw [e9] at hd
    exact ⟨rfl, Did.from st bW (Did.trans a1 hd)⟩
  have hnl : n = m.log.length := by
    obtain ⟨us', e', ⟨ao, cap, e1, _⟩, _⟩ := hlv
    simp only [Value.slice.injEq] at e1
    rw [← e']; simp; exact e1.2.1
  have htI : ¬ (m.term : Int) < (c.at k).term := by omega
  have hEI : (m.a : Int) + n = E := by omega
  have hEI2 : (E : Int) ≤ 1000 := by omega
  obtain ⟨Q, hQ⟩ : ∃ Q, Q = min m.c E := ⟨_, rfl⟩
  have HQ : Hid ((if E < m.c then (E : Int) else (m.c : Int)) = (Q : Int)) := by unfold Hid; rw [hQ]; split <;> omega
  have HV2 : Hid ((if ((c.at k).commit : Int) < (Q : Int) then (Q : Int) else ((c.at k).commit : Int)) = (V : Int)) := by unfold Hid; rw [hV, hQ]; split <;> omega
  generalize (c.at k).term = T at *
  generalize (c.at k).commit = C at *
  clear hn hbox hGW bW h st ht hc1k hc1 hV hfin hc3k hc3 hc2k hc2 hc2n hc1n hlv hidx hcm hch hl hml hE hnl hhb hha hmc hQ
  go_enter Try.func130, Try.ntmps130
  go_wp2
  go_quiet (fail)
  go_wp2_with (go_at_call 127; refine (HDn.out _).mono ?_; rintro rr w3 ⟨rfl, hd3⟩; obtain ⟨x0, x1, x2, x3, x4, x5, x6, x7, x8⟩ := HBox.out _ _ hd3; have HD3 := hide hd3; clear hd3)
  have HH3 : Hid (∀ q, Calls Try.prog 145 #[.pointer (some ⟨b, 0, none⟩), .int .i64 m.a, .int .i64 m.b] (w3.drewN q) fun r w' => r = .returned (.bool true) ∧ w' = w3.drewN q) := fun q => HHas.out _ (HD3.out.below (drewN_below w3 q))
  go_quiet (first | (go_at_call 145; refine Calls.quiet_of_same (HH3.out _)))
  go_wp2
  obtain ⟨X, hX⟩ : ∃ X, w3.drewN nq = X := ⟨_, rfl⟩
  have HDX : Hid (Did M O W d nb c1 X) := by rw [← hX]; exact HD3.out.below (drewN_below w3 nq)
  rw [hX]
  clear hX
  obtain ⟨z0, z1, z2, z3, z4, z5, z6, z7, z8⟩ := HBox.out _ _ HDX.out
  clear x0 x1 x2 x3 x4 x5 x6 x7 x8 HD3 HH3 HHas m0 m1 m2 m3 m4 m5 m6 m7 m8
  go_region_law (first
    | (go_simp; go_at_call 146; refine (HTk.out _ (by first | exact HDX.out.drew | exact HDX.out)).mono ?_; rintro rr w4 ⟨rfl, hd4⟩; obtain ⟨t0, t1, t2, t3, t4, t5, t6, t7, t8⟩ := HBox.out _ _ hd4; have HD4 := hide hd4; clear hd4))
  all_goals
    obtain ⟨hst, s5, sf5⟩ := HSt.out _ HD4.out
    have HC3 := hide hst
    clear hst
    go_wp2
    go_region
    rw [HQ.out, HV2.out]
    go_wp2_with (first
      | (go_at_call 147; refine (HLk.out _ HC3.out.drew).mono ?_; rintro rr w5 ⟨rfl, hd5⟩; obtain ⟨v0, v1, v2, v3, v4, v5, v6, v7, v8⟩ := HBox.out _ _ hd5; have HD5 := hide hd5; clear hd5)
      | (go_at_call 144; refine (HSy.out _ HD5.out).mono ?_; rintro rr w6 ⟨rfl, hd6⟩; have HD6 := hide hd6; clear hd6))
    go_end0
    exact ⟨rfl, HD6.out⟩
end Go.Proofs.Ytklkglbimjajnaa.cameok

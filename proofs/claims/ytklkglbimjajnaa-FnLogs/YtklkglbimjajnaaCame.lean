/- Records came. -/
import Derived.Test.YtklkglbimjajnaaTakes
import Derived.Test.YtklkglbimjajnaaVote
namespace Go.Proofs.Ytklkglbimjajnaa.came
open Go.ChangeShapes Go.WideShapes Go.ChangeAt Go.RowKit
open Go.Proofs.Ytklkglbimjajnaa.Raft Go.Proofs.Ytklkglbimjajnaa.mem Go.Proofs.Ytklkglbimjajnaa.grp Go.Proofs.Ytklkglbimjajnaa.look Go.Proofs.Ytklkglbimjajnaa.ndw Go.Proofs.Ytklkglbimjajnaa.grant Go.Proofs.Ytklkglbimjajnaa.stand Go.Proofs.Ytklkglbimjajnaa.lead Go.Proofs.Ytklkglbimjajnaa.rows2 Go.Proofs.Ytklkglbimjajnaa.post Go.Proofs.Ytklkglbimjajnaa.postb Go.Proofs.Ytklkglbimjajnaa.say Go.Proofs.Ytklkglbimjajnaa.lookb Go.Proofs.Ytklkglbimjajnaa.lookc Go.Proofs.Ytklkglbimjajnaa.commit Go.Proofs.Ytklkglbimjajnaa.too Go.Proofs.Ytklkglbimjajnaa.elect Go.Proofs.Ytklkglbimjajnaa.tick Go.Proofs.Ytklkglbimjajnaa.vote Go.Proofs.Ytklkglbimjajnaa.takes
set_option linter.unusedVariables false

set_option maxHeartbeats 1000000 in
theorem came_old (w : World) (M : Fz) (O : Lb) (d : Nat) (nb : List Nat) (c : Cl) (h : G w M O d nb c) (k b : Nat) (hb : nb[k]? = some b) (m : Msg) (o : Option Addr) (n lc : Nat) (ht : m.term < (c.at k).term) :
    Calls Try.prog 130 #[.pointer (some ⟨d, 0, none⟩), .pointer (some ⟨b, 0, none⟩), .agg #[.int .i64 m.kind, .int .i64 m.frm, .int .i64 m.to, .int .i64 m.term, .int .i64 m.a, .int .i64 m.b, .int .i64 m.c, .bool m.ok, .slice o n lc]] w fun r w' => r = .returned (.tuple #[]) ∧ Did M O w d nb (c.send ⟨4, k, m.frm, (c.at k).term, 0, 0, 0, false, []⟩) w' := by
  have st := h.sta
  have hkl : k < c.peers.length := by have := (List.getElem?_eq_some_iff.1 hb).1; have := h.len; omega
  obtain ⟨W, hW⟩ : ∃ W, w.alloc (.cells #[.int .i64 m.kind, .int .i64 m.frm, .int .i64 m.to, .int .i64 m.term, .int .i64 m.a, .int .i64 m.b, .int .i64 m.c, .bool m.ok, .slice o n lc] 98) = W := ⟨_, rfl⟩
  have bW : Below w.heap.size w W := by rw [← hW]; exact more (Below.refl _ _) _
  have hbox : W.heap[w.heap.size]? = some (.cells #[.int .i64 m.kind, .int .i64 m.frm, .int .i64 m.to, .int .i64 m.term, .int .i64 m.a, .int .i64 m.b, .int .i64 m.c, .bool m.ok, .slice o n lc] 98 (0, 0)) := by rw [← hW]; exact heap_alloc_new w _
  have hfr := (st.fresh (Nat.le_refl w.heap.size)).1
  have hGW := h.below bW
  have HBox : Hid (∀ (cX : Cl) (wx : World), Did M O W d nb cX wx → (wx.cell? ⟨w.heap.size, 0, none⟩ = some (.int .i64 m.kind) ∧ wx.cell? ⟨w.heap.size, 1, none⟩ = some (.int .i64 m.frm) ∧ wx.cell? ⟨w.heap.size, 2, none⟩ = some (.int .i64 m.to) ∧ wx.cell? ⟨w.heap.size, 3, none⟩ = some (.int .i64 m.term) ∧ wx.cell? ⟨w.heap.size, 4, none⟩ = some (.int .i64 m.a) ∧ wx.cell? ⟨w.heap.size, 5, none⟩ = some (.int .i64 m.b) ∧ wx.cell? ⟨w.heap.size, 6, none⟩ = some (.int .i64 m.c) ∧ wx.cell? ⟨w.heap.size, 7, none⟩ = some (.bool m.ok) ∧ wx.cell? ⟨w.heap.size, 8, none⟩ = some (.slice o n lc))) := fun cX wx hx => by
    have hk := box_kept hx hfr hbox
    exact ⟨cell_of hk rfl, cell_of hk rfl, cell_of hk rfl, cell_of hk rfl, cell_of hk rfl, cell_of hk rfl, cell_of hk rfl, cell_of hk rfl, cell_of hk rfl⟩
  have H0 : Hid (∀ q, Did M O W d nb c (W.drewN q)) := fun q => ⟨M, O, (Aft.refl _ hGW.sta).below (drewN_below W q), hGW.below (drewN_below W q)⟩
  obtain ⟨us, lv, vv, nv, mv, hn⟩ := hGW.at hb
  obtain ⟨⟨c0, _⟩, _⟩ := Nd.cs hn
  obtain ⟨m0, m1, m2, m3, m4, m5, m6, m7, m8⟩ := HBox.out c W (H0.out 0)
  have HSy : Hid (∀ q, Calls Try.prog 144 #[.pointer (some ⟨d, 0, none⟩), .pointer (some ⟨b, 0, none⟩), .int .i64 m.frm, .agg #[.int .i64 4, .int .i64 0, .int .i64 0, .int .i64 0, .int .i64 0, .int .i64 0, .int .i64 0, .bool false, .slice none 0 0]] (W.drewN q) fun r w' => r = .returned (.tuple #[]) ∧ Did M O w d nb (c.send ⟨4, k, m.frm, (c.at k).term, 0, 0, 0, false, []⟩) w') := fun q => by
    refine (say_any (W.drewN q) M O d nb c (hGW.below (drewN_below W q)) k b hb m.frm 4 0 0 0 false [] none 0 0 (RecsM.nil M)).mono ?_
    rintro r w' ⟨rfl, hd⟩
    exact ⟨rfl, Did.from st (bW.trans ((drewN_below W q).mono bW.size)) hd⟩
  have htI : (m.term : Int) < (c.at k).term := by omega
  generalize (c.at k).term = T at *
  clear hn hbox hGW bW h st ht HBox H0
  go_enter Try.func130, Try.ntmps130
  go_wp2
  go_quiet (fail)
  go_wp2_with (go_at_call 144; refine (HSy.out _).mono ?_; rintro rr w5 ⟨rfl, hd5⟩; have HD5 := hide hd5; clear hd5)
  refine bodyPost_ret (results_none rfl _ _ _) rfl ?_
  exact ⟨rfl, HD5.out⟩

set_option maxHeartbeats 2000000 in
theorem came_no (w : World) (M : Fz) (O : Lb) (d : Nat) (nb : List Nat) (c : Cl) (h : G w M O d nb c) (k b : Nat) (hb : nb[k]? = some b) (m : Msg) (o : Option Addr) (n lc : Nat) (ht : ¬ m.term < (c.at k).term) (hno : (c.at k).log.length < m.a ∨ termAt (c.at k).log m.a ≠ m.b) (hab : 1 ≤ m.a) (ha : m.a ≤ 1000) (hl : (c.at k).log.length ≤ 1000) :
    Calls Try.prog 130 #[.pointer (some ⟨d, 0, none⟩), .pointer (some ⟨b, 0, none⟩), .agg #[.int .i64 m.kind, .int .i64 m.frm, .int .i64 m.to, .int .i64 m.term, .int .i64 m.a, .int .i64 m.b, .int .i64 m.c, .bool m.ok, .slice o n lc]] w fun r w' => r = .returned (.tuple #[]) ∧ Did M O w d nb ((c.down k m.term).send ⟨4, k, m.frm, ((c.down k m.term).at k).term, min (m.a - 1) (c.at k).log.length, 0, 0, false, []⟩) w' := by
  have st := h.sta
  have hkl : k < c.peers.length := by have := (List.getElem?_eq_some_iff.1 hb).1; have := h.len; omega
  obtain ⟨W, hW⟩ : ∃ W, w.alloc (.cells #[.int .i64 m.kind, .int .i64 m.frm, .int .i64 m.to, .int .i64 m.term, .int .i64 m.a, .int .i64 m.b, .int .i64 m.c, .bool m.ok, .slice o n lc] 98) = W := ⟨_, rfl⟩
  have bW : Below w.heap.size w W := by rw [← hW]; exact more (Below.refl _ _) _
  have hbox : W.heap[w.heap.size]? = some (.cells #[.int .i64 m.kind, .int .i64 m.frm, .int .i64 m.to, .int .i64 m.term, .int .i64 m.a, .int .i64 m.b, .int .i64 m.c, .bool m.ok, .slice o n lc] 98 (0, 0)) := by rw [← hW]; exact heap_alloc_new w _
  have hfr := (st.fresh (Nat.le_refl w.heap.size)).1
  have hGW := h.below bW
  have HBox : Hid (∀ (cX : Cl) (wx : World), Did M O W d nb cX wx → (wx.cell? ⟨w.heap.size, 0, none⟩ = some (.int .i64 m.kind) ∧ wx.cell? ⟨w.heap.size, 1, none⟩ = some (.int .i64 m.frm) ∧ wx.cell? ⟨w.heap.size, 2, none⟩ = some (.int .i64 m.to) ∧ wx.cell? ⟨w.heap.size, 3, none⟩ = some (.int .i64 m.term) ∧ wx.cell? ⟨w.heap.size, 4, none⟩ = some (.int .i64 m.a) ∧ wx.cell? ⟨w.heap.size, 5, none⟩ = some (.int .i64 m.b) ∧ wx.cell? ⟨w.heap.size, 6, none⟩ = some (.int .i64 m.c) ∧ wx.cell? ⟨w.heap.size, 7, none⟩ = some (.bool m.ok) ∧ wx.cell? ⟨w.heap.size, 8, none⟩ = some (.slice o n lc))) := fun cX wx hx => by
    have hk := box_kept hx hfr hbox
    exact ⟨cell_of hk rfl, cell_of hk rfl, cell_of hk rfl, cell_of hk rfl, cell_of hk rfl, cell_of hk rfl, cell_of hk rfl, cell_of hk rfl, cell_of hk rfl⟩
  have H0 : Hid (∀ q, Did M O W d nb c (W.drewN q)) := fun q => ⟨M, O, (Aft.refl _ hGW.sta).below (drewN_below W q), hGW.below (drewN_below W q)⟩
  obtain ⟨us, lv, vv, nv, mv, hn⟩ := hGW.at hb
  obtain ⟨⟨c0, _⟩, _⟩ := Nd.cs hn
  obtain ⟨m0, m1, m2, m3, m4, m5, m6, m7, m8⟩ := HBox.out c W (H0.out 0)
  obtain ⟨c1, hc1⟩ : ∃ c1, c1 = c.down k m.term := ⟨_, rfl⟩
  have hc1k : c1.at k = downP (c.at k) m.term := by rw [hc1, down_put]; exact at_put c k _ hkl
  rw [← hc1]
  have HDn : Hid (∀ q, Calls Try.prog 127 #[.pointer (some ⟨b, 0, none⟩), .int .i64 m.term] (W.drewN q) fun r w' => r = .returned (.tuple #[]) ∧ Did M O W d nb c1 w') := fun q => by
    have hGq := hGW.below (drewN_below W q)
    refine (stepDown_any (W.drewN q) M O b k _ hGq.sta (hGq.at hb) m.term).mono ?_
    rintro r w' ⟨rfl, hd⟩
    have h2 := NDid.lift hd hGq hb
    rw [← down_put, ← hc1] at h2
    exact ⟨rfl, Did.from hGW.sta (drewN_below W q) h2⟩
  have HHas : Hid (∀ wx, Did M O W d nb c1 wx → Calls Try.prog 145 #[.pointer (some ⟨b, 0, none⟩), .int .i64 m.a, .int .i64 m.b] wx fun r w' => r = .returned (.bool false) ∧ w' = wx) := fun wx hx => by
    obtain ⟨M1, O1, a1, g1⟩ := hx
    have h9 := has_any wx M1 O1 b k _ (g1.at hb) m.a m.b
    rw [hc1k] at h9
    have e : decide (m.a ≤ (downP (c.at k) m.term).log.length ∧ termAt (downP (c.at k) m.term).log m.a = m.b) = false := by
      simp only [decide_eq_false_iff_not]
      rintro ⟨q1, q2⟩
      have q1 : m.a ≤ (c.at k).log.length := q1
      rcases hno with h | h
      · omega
      · exact h q2
    rw [e] at h9
    exact h9
  have HLa : Hid (∀ wx, Did M O W d nb c1 wx → Calls Try.prog 138 #[.pointer (some ⟨b, 0, none⟩)] wx fun r w' => r = .returned (.int .i64 ((c.at k).log.length : Nat)) ∧ w' = wx) := fun wx hx => by
    obtain ⟨M1, O1, a1, g1⟩ := hx
    have h9 := last_any wx M1 O1 b k _ (g1.at hb)
    rw [hc1k] at h9
    exact h9
  obtain ⟨V, hV⟩ : ∃ V, V = min (m.a - 1) (c.at k).log.length := ⟨_, rfl⟩
  rw [← hV]
  have HSy : Hid (∀ wx, Did M O W d nb c1 wx → Calls Try.prog 144 #[.pointer (some ⟨d, 0, none⟩), .pointer (some ⟨b, 0, none⟩), .int .i64 m.frm, .agg #[.int .i64 4, .int .i64 0, .int .i64 0, .int .i64 0, .int .i64 V, .int .i64 0, .int .i64 0, .bool false, .slice none 0 0]] wx fun r w' => r = .returned (.tuple #[]) ∧ Did M O w d nb (c1.send ⟨4, k, m.frm, (c1.at k).term, V, 0, 0, false, []⟩) w') := fun wx hx => by
    obtain ⟨M1, O1, a1, g1⟩ := hx
    refine (say_any wx M1 O1 d nb c1 g1 k b hb m.frm 4 V 0 0 false [] none 0 0 (RecsM.nil M1)).mono ?_
    rintro r w' ⟨rfl, hd⟩
    exact ⟨rfl, Did.from st bW (Did.trans a1 hd)⟩
  have HV : Hid ((if ((c.at k).log.length : Int) < IntKind.i64.wrap ((m.a : Int) - 1) then ((c.at k).log.length : Int) else IntKind.i64.wrap ((m.a : Int) - 1)) = (V : Int)) := by
    have hw9 : IntKind.i64.wrap ((m.a : Int) - 1) = (m.a : Int) - 1 := by rw [IntKind.wrap_i64]; omega
    unfold Hid
    rw [hV, hw9]
    split <;> omega
  have htI : ¬ (m.term : Int) < (c.at k).term := by omega
  have haI : (1 : Int) ≤ m.a := by omega
  have haI2 : (m.a : Int) ≤ 1000 := by omega
  have hll : ((c.at k).log.length : Int) ≤ 1000 := by omega
  generalize (c.at k).term = T at *
  generalize (c.at k).log.length = L at *
  clear hn hbox hGW bW h st ht hno hc1k hc1 hV
  go_enter Try.func130, Try.ntmps130
  go_wp2
  go_quiet (fail)
  go_wp2_with (go_at_call 127; refine (HDn.out _).mono ?_; rintro rr w3 ⟨rfl, hd3⟩; obtain ⟨x0, x1, x2, x3, x4, x5, x6, x7, x8⟩ := HBox.out _ _ hd3; have HD3 := hide hd3; clear hd3)
  have HH3 : Hid (∀ q, Calls Try.prog 145 #[.pointer (some ⟨b, 0, none⟩), .int .i64 m.a, .int .i64 m.b] (w3.drewN q) fun r w' => r = .returned (.bool false) ∧ w' = w3.drewN q) := fun q => HHas.out _ (HD3.out.below (drewN_below w3 q))
  go_quiet (first | (go_at_call 145; refine Calls.quiet_of_same (HH3.out _)))
  go_wp2
  have HL3 : Hid (∀ q, Calls Try.prog 138 #[.pointer (some ⟨b, 0, none⟩)] (w3.drewN q) fun r w' => r = .returned (.int .i64 (L : Nat)) ∧ w' = w3.drewN q) := fun q => HLa.out _ (HD3.out.below (drewN_below w3 q))
  have HS3 : Hid (∀ q, Calls Try.prog 144 #[.pointer (some ⟨d, 0, none⟩), .pointer (some ⟨b, 0, none⟩), .int .i64 m.frm, .agg #[.int .i64 4, .int .i64 0, .int .i64 0, .int .i64 0, .int .i64 V, .int .i64 0, .int .i64 0, .bool false, .slice none 0 0]] (w3.drewN q) fun r w' => r = .returned (.tuple #[]) ∧ Did M O w d nb (c1.send ⟨4, k, m.frm, (c1.at k).term, V, 0, 0, false, []⟩) w') := fun q => HSy.out _ (HD3.out.below (drewN_below w3 q))
  obtain ⟨X, hX⟩ : ∃ X, w3.drewN nq = X := ⟨_, rfl⟩
  have HDX : Hid (Did M O W d nb c1 X) := by rw [← hX]; exact HD3.out.below (drewN_below w3 nq)
  rw [hX]
  clear hX HL3 HS3
  obtain ⟨z0, z1, z2, z3, z4, z5, z6, z7, z8⟩ := HBox.out _ _ HDX.out
  clear x0 x1 x2 x3 x4 x5 x6 x7 x8 HD3 HH3 HHas m0 m1 m2 m3 m4 m5 m6 m7 m8
  go_region_law (first
    | (go_simp; go_at_call 138; refine (HLa.out _ (by first | exact HDX.out.drew | exact HDX.out)).mono ?_; rintro rr w1 ⟨rfl, hw1⟩; have hw2 := hw1.symm; subst hw2; clear hw1)
    | (go_simp; go_at_call 144; rw [HV.out]; refine (HSy.out _ (by first | exact HDX.out.drew | exact HDX.out)).mono ?_; rintro rr w5 ⟨rfl, hd5⟩; have HD5 := hide hd5; clear hd5))
  all_goals
    go_wp2
    refine bodyPost_ret (results_none rfl _ _ _) rfl ?_
    exact ⟨rfl, HD5.out⟩
end Go.Proofs.Ytklkglbimjajnaa.came

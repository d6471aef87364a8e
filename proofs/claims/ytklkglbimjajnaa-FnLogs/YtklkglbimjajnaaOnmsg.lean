/- An event on a message. -/
import Derived.Test.YtklkglbimjajnaaDeliv
import Derived.Test.YtklkglbimjajnaaProp
import Derived.Laws.EntriesVeiled
namespace Go.Proofs.Ytklkglbimjajnaa.onmsg
open Go.ChangeShapes Go.WideShapes Go.ChangeAt Go.RowKit
open Go.Proofs.Ytklkglbimjajnaa.Raft Go.Proofs.Ytklkglbimjajnaa.mem Go.Proofs.Ytklkglbimjajnaa.grp Go.Proofs.Ytklkglbimjajnaa.look Go.Proofs.Ytklkglbimjajnaa.ndw Go.Proofs.Ytklkglbimjajnaa.grant Go.Proofs.Ytklkglbimjajnaa.stand Go.Proofs.Ytklkglbimjajnaa.lead Go.Proofs.Ytklkglbimjajnaa.rows2 Go.Proofs.Ytklkglbimjajnaa.post Go.Proofs.Ytklkglbimjajnaa.postb Go.Proofs.Ytklkglbimjajnaa.say Go.Proofs.Ytklkglbimjajnaa.lookb Go.Proofs.Ytklkglbimjajnaa.lookc Go.Proofs.Ytklkglbimjajnaa.commit Go.Proofs.Ytklkglbimjajnaa.too Go.Proofs.Ytklkglbimjajnaa.elect Go.Proofs.Ytklkglbimjajnaa.tick Go.Proofs.Ytklkglbimjajnaa.vote Go.Proofs.Ytklkglbimjajnaa.arrive Go.Proofs.Ytklkglbimjajnaa.deliv Go.Proofs.Ytklkglbimjajnaa.prop
set_option linter.unusedVariables false

theorem G.size {w : World} {M : Fz} {O : Lb} {d : Nat} {nb : List Nat} {c : Cl} (h : G w M O d nb c) : w.cell? ⟨d, 1, none⟩ = some (.int .i64 (c.net.length : Nat)) := by
  obtain ⟨hd, pv, cv, bs, us, cs, hg⟩ := h
  rw [← hg.nets, List.length_map]
  exact (Gr.ca hg).1.2.1
/-- A message taken out, as it is handed on. -/
def Taken (M : Fz) (O : Lb) (w : World) (d : Nat) (nb : List Nat) (c' : Cl) (m : Msg) (w' : World) (o : Option Addr) (n lc : Nat) : Prop :=
  ∃ M1 O1, Aft (fun _ => True) M O w M1 O1 w' ∧ G w' M1 O1 d nb c' ∧ RecsM M1 (.slice o n lc) m.log

set_option maxHeartbeats 1000000 in
theorem onMsg_none (w : World) (M : Fz) (O : Lb) (d : Nat) (nb : List Nat) (c : Cl) (h : G w M O d nb c) (K N : Int) (hN : N < 0 ∨ (c.net.length : Int) ≤ N) (eo : Option Addr) (el ec : Nat) :
    Calls Try.prog 44 #[.pointer (some ⟨d, 0, none⟩), .agg #[.int .i64 K, .int .i64 N, .slice eo el ec]] w fun r w' => r = .returned (.int .i64 6) ∧ Did M O w d nb c w' := by
  have st := h.sta
  obtain ⟨W, hW⟩ : ∃ W, w.alloc (.cells #[.int .i64 K, .int .i64 N, .slice eo el ec] 58) = W := ⟨_, rfl⟩
  have bW : Below w.heap.size w W := by rw [← hW]; exact more (Below.refl _ _) _
  have hbox : W.heap[w.heap.size]? = some (.cells #[.int .i64 K, .int .i64 N, .slice eo el ec] 58 (0, 0)) := by rw [← hW]; exact heap_alloc_new w _
  have hGW := h.below bW
  have m0 := cell_of (i := 0) hbox (v := .int .i64 K) rfl
  have m1 := cell_of (i := 1) hbox (v := .int .i64 N) rfl
  have m2 := cell_of (i := 2) hbox (v := .slice eo el ec) rfl
  have p1 := G.size hGW
  have HF : Hid (∀ q, Did M O w d nb c (W.drewN q)) := fun q => ⟨M, O, ((Aft.refl _ st).below bW).below (drewN_below W q), hGW.below (drewN_below W q)⟩
  generalize c.net.length = NL at *
  clear hbox hGW bW h st
  by_cases hneg : N < 0
  · go_enter Try.func44, Try.ntmps44
    go_wp2
    go_quiet (fail)
    go_wp2
    go_ret
    exact ⟨rfl, HF.out _⟩
  · have hge : (NL : Int) ≤ N := by omega
    clear hN
    go_enter Try.func44, Try.ntmps44
    go_wp2
    go_quiet (fail)
    go_wp2
    go_ret
    exact ⟨rfl, HF.out _⟩

set_option maxRecDepth 20000 in
set_option maxHeartbeats 2000000 in
theorem onMsg_2 (w : World) (M : Fz) (O : Lb) (d : Nat) (nb : List Nat) (c : Cl) (h : G w M O d nb c) (n : Nat) (h1 : 1 ≤ n) (h7 : n ≤ 7) (s : St) (hR : Rel n c s) (hC : Cov n c) (hB : Bd c) (N : Nat) (m : Msg) (hm : c.net[N]? = some m) (eo : Option Addr) (el ec : Nat) :
    Calls Try.prog 44 #[.pointer (some ⟨d, 0, none⟩), .agg #[.int .i64 2, .int .i64 (N : Nat), .slice eo el ec]] w fun r w' => r = .returned (.int .i64 0) ∧ Did M O w d nb (({ c with net := c.net.eraseIdx N } : Cl).deliver m) w' := by
  have st := h.sta
  obtain ⟨W, hW⟩ : ∃ W, w.alloc (.cells #[.int .i64 2, .int .i64 N, .slice eo el ec] 58) = W := ⟨_, rfl⟩
  have bW : Below w.heap.size w W := by rw [← hW]; exact more (Below.refl _ _) _
  have hbox : W.heap[w.heap.size]? = some (.cells #[.int .i64 2, .int .i64 N, .slice eo el ec] 58 (0, 0)) := by rw [← hW]; exact heap_alloc_new w _
  have hGW := h.below bW
  have m0 := cell_of (i := 0) hbox (v := .int .i64 2) rfl
  have m1 := cell_of (i := 1) hbox (v := .int .i64 N) rfl
  have m2 := cell_of (i := 2) hbox (v := .slice eo el ec) rfl
  have p1 := G.size hGW
  have hlt : (N : Int) < c.net.length := by have := (List.getElem?_eq_some_iff.1 hm).1; omega
  have HTk : Hid (∀ wx, Below W.heap.size W wx → Calls Try.prog 91 #[.pointer (some ⟨d, 0, none⟩), .int .i64 (N : Nat)] wx fun r w' => ∃ (o : Option Addr) (n lc : Nat), r = .returned (.agg #[.int .i64 m.kind, .int .i64 m.frm, .int .i64 m.to, .int .i64 m.term, .int .i64 m.a, .int .i64 m.b, .int .i64 m.c, .bool m.ok, .slice o n lc]) ∧ Hid (Taken M O w d nb { c with net := c.net.eraseIdx N } m w' o n lc)) := fun wx hx => by
    refine (takeOut_any wx M O d nb c (hGW.below hx) N m hm hB.size).mono ?_
    rintro r w' ⟨o, n, lc, rfl, hr, M1, O1, a1, g1⟩
    exact ⟨o, n, lc, rfl, M1, O1, Aft.trans (((Aft.refl _ st).below bW).below hx) a1, g1, hr.le a1.le⟩
  have HAr : Hid (∀ wx o n lc, Taken M O w d nb { c with net := c.net.eraseIdx N } m wx o n lc → Calls Try.prog 90 #[.pointer (some ⟨d, 0, none⟩), .agg #[.int .i64 m.kind, .int .i64 m.frm, .int .i64 m.to, .int .i64 m.term, .int .i64 m.a, .int .i64 m.b, .int .i64 m.c, .bool m.ok, .slice o n lc]] wx fun r w' => r = .returned (.tuple #[]) ∧ Did M O w d nb (({ c with net := c.net.eraseIdx N } : Cl).deliver m) w') := fun wx o ln lc hx => by
    obtain ⟨M1, O1, a1, g1, hr⟩ := hx
    refine (arrive_any wx M1 O1 d nb _ g1 n h1 h7 s (hR.part (fun x hx => List.mem_of_mem_eraseIdx hx)) hC (hB.part (fun x hx => List.mem_of_mem_eraseIdx hx) (by rw [List.length_eraseIdx]; split <;> omega)) m (hR.msgs m (List.mem_of_getElem? hm)) (hB.net m (List.mem_of_getElem? hm)) o ln lc hr).mono ?_
    rintro r w' ⟨rfl, hd⟩
    exact ⟨rfl, Did.trans a1 hd⟩
  generalize c.net.length = NL at *
  clear hbox hGW bW h st hR hC hB hm
  go_enter Try.func44, Try.ntmps44
  go_wp2
  go_quiet (fail)
  go_wp2
  go_region_law (first
    | (go_simp; go_at_call 91; refine (HTk.out _ (by first | exact (drewN_below W _).drew | exact drewN_below W _)).mono ?_; rintro rr w1 ⟨o, n, lc, rfl, HT1⟩)
    | (go_simp; go_at_call 90; refine (HAr.out _ _ _ _ HT1.out).mono ?_; rintro rr w3 ⟨rfl, hd3⟩; have HD3 := hide hd3; clear hd3))
  all_goals
    go_wp2
    go_ret
    exact ⟨rfl, HD3.out⟩

set_option maxRecDepth 20000 in
set_option maxHeartbeats 2000000 in
theorem onMsg_3 (w : World) (M : Fz) (O : Lb) (d : Nat) (nb : List Nat) (c : Cl) (h : G w M O d nb c) (hB : Bd c) (N : Nat) (m : Msg) (hm : c.net[N]? = some m) (eo : Option Addr) (el ec : Nat) :
    Calls Try.prog 44 #[.pointer (some ⟨d, 0, none⟩), .agg #[.int .i64 3, .int .i64 (N : Nat), .slice eo el ec]] w fun r w' => r = .returned (.int .i64 0) ∧ Did M O w d nb ({ c with net := c.net.eraseIdx N } : Cl) w' := by
  have st := h.sta
  obtain ⟨W, hW⟩ : ∃ W, w.alloc (.cells #[.int .i64 3, .int .i64 N, .slice eo el ec] 58) = W := ⟨_, rfl⟩
  have bW : Below w.heap.size w W := by rw [← hW]; exact more (Below.refl _ _) _
  have hbox : W.heap[w.heap.size]? = some (.cells #[.int .i64 3, .int .i64 N, .slice eo el ec] 58 (0, 0)) := by rw [← hW]; exact heap_alloc_new w _
  have hGW := h.below bW
  have m0 := cell_of (i := 0) hbox (v := .int .i64 3) rfl
  have m1 := cell_of (i := 1) hbox (v := .int .i64 N) rfl
  have m2 := cell_of (i := 2) hbox (v := .slice eo el ec) rfl
  have p1 := G.size hGW
  have hlt : (N : Int) < c.net.length := by have := (List.getElem?_eq_some_iff.1 hm).1; omega
  have HTk : Hid (∀ wx, Below W.heap.size W wx → Calls Try.prog 91 #[.pointer (some ⟨d, 0, none⟩), .int .i64 (N : Nat)] wx fun r w' => ∃ (o : Option Addr) (n lc : Nat), r = .returned (.agg #[.int .i64 m.kind, .int .i64 m.frm, .int .i64 m.to, .int .i64 m.term, .int .i64 m.a, .int .i64 m.b, .int .i64 m.c, .bool m.ok, .slice o n lc]) ∧ Hid (Taken M O w d nb { c with net := c.net.eraseIdx N } m w' o n lc)) := fun wx hx => by
    refine (takeOut_any wx M O d nb c (hGW.below hx) N m hm hB.size).mono ?_
    rintro r w' ⟨o, n, lc, rfl, hr, M1, O1, a1, g1⟩
    exact ⟨o, n, lc, rfl, M1, O1, Aft.trans (((Aft.refl _ st).below bW).below hx) a1, g1, hr.le a1.le⟩
  have HE : Hid (∀ wx o n lc, Taken M O w d nb { c with net := c.net.eraseIdx N } m wx o n lc → Did M O w d nb { c with net := c.net.eraseIdx N } wx) := fun wx o ln lc hx => by
    obtain ⟨M1, O1, a1, g1, hr⟩ := hx
    exact ⟨M1, O1, a1, g1⟩
  generalize c.net.length = NL at *
  clear hbox hGW bW h st hB hm
  go_enter Try.func44, Try.ntmps44
  go_wp2
  go_quiet (fail)
  go_wp2
  go_region_law (first
    | (go_simp; go_at_call 91; refine (HTk.out _ (by first | exact (drewN_below W _).drew | exact drewN_below W _)).mono ?_; rintro rr w1 ⟨o, n, lc, rfl, HT1⟩))
  all_goals
    go_wp2
    go_ret
    exact ⟨rfl, HE.out _ _ _ _ HT1.out⟩

set_option maxRecDepth 20000 in
set_option maxHeartbeats 2000000 in
theorem onMsg_4 (w : World) (M : Fz) (O : Lb) (d : Nat) (nb : List Nat) (c : Cl) (h : G w M O d nb c) (hB : Bd c) (N : Nat) (m : Msg) (hm : c.net[N]? = some m) (eo : Option Addr) (el ec : Nat) :
    Calls Try.prog 44 #[.pointer (some ⟨d, 0, none⟩), .agg #[.int .i64 4, .int .i64 (N : Nat), .slice eo el ec]] w fun r w' => r = .returned (.int .i64 0) ∧ Did M O w d nb (c.send m) w' := by
  have st := h.sta
  obtain ⟨W, hW⟩ : ∃ W, w.alloc (.cells #[.int .i64 4, .int .i64 N, .slice eo el ec] 58) = W := ⟨_, rfl⟩
  have bW : Below w.heap.size w W := by rw [← hW]; exact more (Below.refl _ _) _
  have hbox : W.heap[w.heap.size]? = some (.cells #[.int .i64 4, .int .i64 N, .slice eo el ec] 58 (0, 0)) := by rw [← hW]; exact heap_alloc_new w _
  have hGW := h.below bW
  have m0 := cell_of (i := 0) hbox (v := .int .i64 4) rfl
  have m1 := cell_of (i := 1) hbox (v := .int .i64 N) rfl
  have m2 := cell_of (i := 2) hbox (v := .slice eo el ec) rfl
  have p1 := G.size hGW
  have hlt : (N : Int) < c.net.length := by have := (List.getElem?_eq_some_iff.1 hm).1; omega
  have HTk : Hid (∀ wx, Below W.heap.size W wx → Calls Try.prog 93 #[.pointer (some ⟨d, 0, none⟩), .int .i64 (N : Nat)] wx fun r w' => ∃ (o : Option Addr) (n lc : Nat), r = .returned (.agg #[.int .i64 m.kind, .int .i64 m.frm, .int .i64 m.to, .int .i64 m.term, .int .i64 m.a, .int .i64 m.b, .int .i64 m.c, .bool m.ok, .slice o n lc]) ∧ Hid (Taken M O w d nb c m w' o n lc)) := fun wx hx => by
    refine (peek_any wx M O d nb c (hGW.below hx) N m hm hB.size).mono ?_
    rintro r w' ⟨o, n, lc, rfl, hr, hb⟩
    exact ⟨o, n, lc, rfl, M, O, (((Aft.refl _ st).below bW).below hx).below hb, (hGW.below hx).below hb, hr⟩
  have HAr : Hid (∀ wx o n lc, Taken M O w d nb c m wx o n lc → Calls Try.prog 92 #[.pointer (some ⟨d, 0, none⟩), .agg #[.int .i64 m.kind, .int .i64 m.frm, .int .i64 m.to, .int .i64 m.term, .int .i64 m.a, .int .i64 m.b, .int .i64 m.c, .bool m.ok, .slice o n lc]] wx fun r w' => r = .returned (.tuple #[]) ∧ Did M O w d nb (c.send m) w') := fun wx o ln lc hx => by
    obtain ⟨M1, O1, a1, g1, hr⟩ := hx
    refine (send_any wx M1 O1 d nb _ g1 m o ln lc hr).mono ?_
    rintro r w' ⟨rfl, hd⟩
    exact ⟨rfl, Did.trans a1 hd⟩
  generalize c.net.length = NL at *
  clear hbox hGW bW h st hB hm
  go_enter Try.func44, Try.ntmps44
  go_wp2
  go_quiet (fail)
  go_wp2
  go_region_law (first
    | (go_simp; go_at_call 93; refine (HTk.out _ (by first | exact (drewN_below W _).drew | exact drewN_below W _)).mono ?_; rintro rr w1 ⟨o, n, lc, rfl, HT1⟩)
    | (go_simp; go_at_call 92; refine (HAr.out _ _ _ _ HT1.out).mono ?_; rintro rr w3 ⟨rfl, hd3⟩; have HD3 := hide hd3; clear hd3))
  all_goals
    go_wp2
    go_ret
    exact ⟨rfl, HD3.out⟩
end Go.Proofs.Ytklkglbimjajnaa.onmsg

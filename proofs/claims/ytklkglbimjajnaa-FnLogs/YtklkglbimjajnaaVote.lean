/- A vote that is asked for; a vote that came. -/
import Derived.Test.YtklkglbimjajnaaTick
import Derived.Test.YtklkglbimjajnaaRows2
namespace Go.Proofs.Ytklkglbimjajnaa.vote
open Go.ChangeShapes Go.WideShapes Go.ChangeAt Go.RowKit
open Go.Proofs.Ytklkglbimjajnaa.Raft Go.Proofs.Ytklkglbimjajnaa.mem Go.Proofs.Ytklkglbimjajnaa.grp Go.Proofs.Ytklkglbimjajnaa.look Go.Proofs.Ytklkglbimjajnaa.ndw Go.Proofs.Ytklkglbimjajnaa.grant Go.Proofs.Ytklkglbimjajnaa.stand Go.Proofs.Ytklkglbimjajnaa.lead Go.Proofs.Ytklkglbimjajnaa.rows2 Go.Proofs.Ytklkglbimjajnaa.post Go.Proofs.Ytklkglbimjajnaa.postb Go.Proofs.Ytklkglbimjajnaa.say Go.Proofs.Ytklkglbimjajnaa.lookb Go.Proofs.Ytklkglbimjajnaa.lookc Go.Proofs.Ytklkglbimjajnaa.commit Go.Proofs.Ytklkglbimjajnaa.too Go.Proofs.Ytklkglbimjajnaa.elect Go.Proofs.Ytklkglbimjajnaa.tick
set_option linter.unusedVariables false

/-- A block that is nobody's is as it was. -/
theorem box_kept {M : Fz} {O : Lb} {w w' : World} {d : Nat} {nb : List Nat} {c' : Cl} (h : Did M O w d nb c' w') {b : Nat} {o : Obj} (hO : O b = none) (hb : w.heap[b]? = some o) : w'.heap[b]? = some o := by
  obtain ⟨M', O', a, _⟩ := h
  exact (a.keep b (Array.getElem?_eq_some_iff.1 hb).1 (fun l hl => by rw [hO] at hl; cases hl)).trans hb

set_option maxHeartbeats 1000000 in
theorem voteAsked_any (w : World) (M : Fz) (O : Lb) (d : Nat) (nb : List Nat) (c : Cl) (h : G w M O d nb c) (k b : Nat) (hb : nb[k]? = some b) (m : Msg) (o : Option Addr) (n lc : Nat) (hf : m.frm ≤ 1000) :
    Calls Try.prog 128 #[.pointer (some ⟨d, 0, none⟩), .pointer (some ⟨b, 0, none⟩), .agg #[.int .i64 m.kind, .int .i64 m.frm, .int .i64 m.to, .int .i64 m.term, .int .i64 m.a, .int .i64 m.b, .int .i64 m.c, .bool m.ok, .slice o n lc]] w fun r w' => r = .returned (.tuple #[]) ∧ Did M O w d nb ((c.put k (grantP (c.at k) m.frm (okV (c.at k) m))).send ⟨2, k, m.frm, (c.at k).term, 0, 0, 0, okV (c.at k) m, []⟩) w' := by
  have st := h.sta
  have hkl : k < c.peers.length := by have := (List.getElem?_eq_some_iff.1 hb).1; have := h.len; omega
  obtain ⟨W, hW⟩ : ∃ W, w.alloc (.cells #[.int .i64 m.kind, .int .i64 m.frm, .int .i64 m.to, .int .i64 m.term, .int .i64 m.a, .int .i64 m.b, .int .i64 m.c, .bool m.ok, .slice o n lc] 98) = W := ⟨_, rfl⟩
  have bW : Below w.heap.size w W := by rw [← hW]; exact more (Below.refl _ _) _
  have hbox : W.heap[w.heap.size]? = some (.cells #[.int .i64 m.kind, .int .i64 m.frm, .int .i64 m.to, .int .i64 m.term, .int .i64 m.a, .int .i64 m.b, .int .i64 m.c, .bool m.ok, .slice o n lc] 98 (0, 0)) := by rw [← hW]; exact heap_alloc_new w _
  have hfr := (st.fresh (Nat.le_refl w.heap.size)).1
  have hGW := h.below bW
  obtain ⟨c1, hc1⟩ : ∃ c1, c1 = c.put k (grantP (c.at k) m.frm (okV (c.at k) m)) := ⟨_, rfl⟩
  have hc1t : (c1.at k).term = (c.at k).term := by
    rw [hc1, at_put c k _ hkl]
    unfold grantP
    split <;> rfl
  have HGr : Hid (Calls Try.prog 143 #[.pointer (some ⟨b, 0, none⟩), .agg #[.int .i64 m.kind, .int .i64 m.frm, .int .i64 m.to, .int .i64 m.term, .int .i64 m.a, .int .i64 m.b, .int .i64 m.c, .bool m.ok, .slice o n lc]] W fun r w' => r = .returned (.bool (okV (c.at k) m)) ∧ w'.cell? ⟨w.heap.size, 1, none⟩ = some (.int .i64 m.frm) ∧ Did M O W d nb c1 w') := by
    refine (grants_any W M O b k _ hGW.sta (hGW.at hb) m o n lc hf).mono ?_
    rintro r w' ⟨rfl, hd⟩
    have h2 := NDid.lift hd hGW hb
    rw [← hc1] at h2
    exact ⟨rfl, cell_of (box_kept h2 hfr hbox) rfl, h2⟩
  have HSy : Hid (∀ wx, Did M O W d nb c1 wx → Calls Try.prog 144 #[.pointer (some ⟨d, 0, none⟩), .pointer (some ⟨b, 0, none⟩), .int .i64 m.frm, .agg #[.int .i64 2, .int .i64 0, .int .i64 0, .int .i64 0, .int .i64 0, .int .i64 0, .int .i64 0, .bool (okV (c.at k) m), .slice none 0 0]] wx fun r w' => r = .returned (.tuple #[]) ∧ Did M O w d nb (c1.send ⟨2, k, m.frm, (c.at k).term, 0, 0, 0, okV (c.at k) m, []⟩) w') := fun wx hx => by
    obtain ⟨M1, O1, a1, g1⟩ := hx
    refine (say_any wx M1 O1 d nb c1 g1 k b hb m.frm 2 0 0 0 _ [] none 0 0 (RecsM.nil M1)).mono ?_
    rintro r w' ⟨rfl, hd⟩
    rw [hc1t] at hd
    exact ⟨rfl, Did.from st bW (Did.trans a1 hd)⟩
  have m0 := cell_of (i := 0) hbox (v := .int .i64 m.kind) rfl
  have m1 := cell_of (i := 1) hbox (v := .int .i64 m.frm) rfl
  have m2 := cell_of (i := 2) hbox (v := .int .i64 m.to) rfl
  have m3 := cell_of (i := 3) hbox (v := .int .i64 m.term) rfl
  have m4 := cell_of (i := 4) hbox (v := .int .i64 m.a) rfl
  have m5 := cell_of (i := 5) hbox (v := .int .i64 m.b) rfl
  have m6 := cell_of (i := 6) hbox (v := .int .i64 m.c) rfl
  have m7 := cell_of (i := 7) hbox (v := .bool m.ok) rfl
  have m8 := cell_of (i := 8) hbox (v := .slice o n lc) rfl
  rw [← hc1]
  generalize okV (c.at k) m = ok at *
  clear hbox hGW bW h st hc1t hc1
  go_enter Try.func128, Try.ntmps128
  go_wp2_with (first
    | (go_at_call 143; refine HGr.out.mono ?_; rintro rr w3 ⟨rfl, hc3, hd3⟩; have HD3 := hide hd3; clear hd3)
    | (go_at_call 144; refine (HSy.out _ HD3.out).mono ?_; rintro rr w5 ⟨rfl, hd5⟩; have HD5 := hide hd5; clear hd5))
  go_end0
  exact ⟨rfl, HD5.out⟩

set_option maxHeartbeats 1000000 in
theorem voteCame_any (w : World) (M : Fz) (O : Lb) (d : Nat) (nb : List Nat) (c : Cl) (h : G w M O d nb c) (k b : Nat) (hb : nb[k]? = some b) (m : Msg) (o : Option Addr) (n lc : Nat) (h1 : 1 ≤ c.peers.length) (h7 : c.peers.length ≤ 7) (hf : m.frm < c.peers.length) (hF : Fine c.peers.length (c.at k)) (hch : c.chosen.length ≤ 1000) :
    Calls Try.prog 129 #[.pointer (some ⟨d, 0, none⟩), .pointer (some ⟨b, 0, none⟩), .agg #[.int .i64 m.kind, .int .i64 m.frm, .int .i64 m.to, .int .i64 m.term, .int .i64 m.a, .int .i64 m.b, .int .i64 m.c, .bool m.ok, .slice o n lc]] w fun r w' => r = .returned (.tuple #[]) ∧ Did M O w d nb (if m.term = (c.at k).term ∧ (c.at k).role = 1 ∧ m.ok = true then (c.put k { c.at k with votes := (c.at k).votes.set m.frm true }).elected k else c) w' := by
  have st := h.sta
  have hkl : k < c.peers.length := by have := (List.getElem?_eq_some_iff.1 hb).1; have := h.len; omega
  obtain ⟨W, hW⟩ : ∃ W, w.alloc (.cells #[.int .i64 m.kind, .int .i64 m.frm, .int .i64 m.to, .int .i64 m.term, .int .i64 m.a, .int .i64 m.b, .int .i64 m.c, .bool m.ok, .slice o n lc] 98) = W := ⟨_, rfl⟩
  have bW : Below w.heap.size w W := by rw [← hW]; exact more (Below.refl _ _) _
  have hbox : W.heap[w.heap.size]? = some (.cells #[.int .i64 m.kind, .int .i64 m.frm, .int .i64 m.to, .int .i64 m.term, .int .i64 m.a, .int .i64 m.b, .int .i64 m.c, .bool m.ok, .slice o n lc] 98 (0, 0)) := by rw [← hW]; exact heap_alloc_new w _
  have hGW := h.below bW
  have HSame : Hid (Did M O w d nb c W) := ⟨M, O, (Aft.refl _ st).below bW, hGW⟩
  obtain ⟨us, lv, vv, nv, mv, hn⟩ := hGW.at hb
  obtain ⟨⟨c0, _, _, _, _, _, c6, c7, _⟩, _⟩ := Nd.cs hn
  have m0 := cell_of (i := 0) hbox (v := .int .i64 m.kind) rfl
  have m1 := cell_of (i := 1) hbox (v := .int .i64 m.frm) rfl
  have m2 := cell_of (i := 2) hbox (v := .int .i64 m.to) rfl
  have m3 := cell_of (i := 3) hbox (v := .int .i64 m.term) rfl
  have m4 := cell_of (i := 4) hbox (v := .int .i64 m.a) rfl
  have m5 := cell_of (i := 5) hbox (v := .int .i64 m.b) rfl
  have m6 := cell_of (i := 6) hbox (v := .int .i64 m.c) rfl
  have m7 := cell_of (i := 7) hbox (v := .bool m.ok) rfl
  have m8 := cell_of (i := 8) hbox (v := .slice o n lc) rfl
  by_cases hall : m.term = (c.at k).term ∧ (c.at k).role = 1 ∧ m.ok = true
  · rw [if_pos hall]
    obtain ⟨ht, hr, hok⟩ := hall
    have hvl := hF.votes hr
    obtain ⟨g, cap, rfl, hc1', hc2', hcells, hfz⟩ := own_at hn.votes (by omega)
    unfold maxLen at hc2'
    obtain ⟨v0, hv0⟩ : ∃ v, (c.at k).votes[m.frm]? = some v := ⟨_, List.getElem?_eq_getElem (by omega)⟩
    have cg := hcells m.frm (.bool v0) (by rw [List.getElem?_map, hv0]; rfl)
    have fg := hfz m.frm
    obtain ⟨c1, hc1⟩ : ∃ c1, c1 = c.put k { c.at k with votes := (c.at k).votes.set m.frm true } := ⟨_, rfl⟩
    have hc1k : c1.at k = { c.at k with votes := (c.at k).votes.set m.frm true } := by rw [hc1]; exact at_put c k _ hkl
    rw [← hc1]
    have HSt : Hid (∀ q, Did M O w d nb c1 ((W.drewN q).setCell ⟨g, m.frm, none⟩ (.bool true))) := fun q => by
      have hGq := hGW.below (drewN_below W q)
      have h2 := NDid.lift (NDid.setVotes hGq.sta (hn.keep (w' := W.drewN q) (fun _ _ => rfl) (Le.refl _) (fun _ h => h)) m.frm true) hGq hb
      rw [← hc1] at h2
      exact Did.from st (bW.trans ((drewN_below W q).mono bW.size)) h2
    have HEl : Hid (∀ wx, Did M O w d nb c1 wx → Calls Try.prog 137 #[.pointer (some ⟨d, 0, none⟩), .pointer (some ⟨b, 0, none⟩)] wx fun r w' => r = .returned (.tuple #[]) ∧ Did M O w d nb (c1.elected k) w') := fun wx hx => by
      obtain ⟨M1, O1, a1, g1⟩ := hx
      have hn1 : c1.peers.length = c.peers.length := by rw [hc1]; exact put_len _ _ _
      refine (elect_any wx M1 O1 d nb c1 g1 k b hb (by omega) (by omega) (by rw [hc1k]; exact hr) (by rw [hc1k]; simp; omega) (by rw [hc1k]; exact hF.commit) (by rw [hc1k]; have := hF.log; show (c.at k).log.length ≤ 1000; omega) (by rw [hc1]; exact hch)).mono ?_
      rintro r w' ⟨rfl, hd⟩
      exact ⟨rfl, Did.trans a1 hd⟩
    have HX := hide hok
    have e1 : ((m.term : Int) == ((c.at k).term : Int)) = true := by simp; omega
    have e2 : (((c.at k).role : Int) == 1) = true := by simp; omega
    rw [hok] at m7 hW
    rw [show (Value.bool m.ok) = .bool true from by rw [hok]]
    have hfI : (m.frm : Int) < (c.at k).votes.length := by omega
    obtain ⟨VL, hVL⟩ : ∃ VL, VL = (c.at k).votes.length := ⟨_, rfl⟩
    rw [← hVL] at c7 hfI hc1'
    generalize (c.at k).role = R at *
    generalize (c.at k).term = T at *
    have hfV : m.frm < VL := by omega
    clear hn hcells hfz hbox hGW bW h st hc1k hc1 HSame ht hr hok hvl hv0 hVL hF
    go_enter Try.func129, Try.ntmps129
    go_wp2
    go_quiet (fail)
    go_wp2
    go_region_law (fail)
    all_goals
      go_wp2_with (go_at_call 137; refine (HEl.out _ (HSt.out _)).mono ?_; rintro rr w5 ⟨rfl, hd5⟩; have HD5 := hide hd5; clear hd5)
      go_end0
      exact ⟨rfl, HD5.out⟩
  · rw [if_neg hall]
    have HF : Hid (∀ q, Did M O w d nb c (W.drewN q)) := fun q => HSame.out.below (drewN_below W q)
    by_cases ht : m.term = (c.at k).term
    · have e1 : ((m.term : Int) == ((c.at k).term : Int)) = true := by simp; omega
      by_cases hr : (c.at k).role = 1
      · have e2 : (((c.at k).role : Int) == 1) = true := by simp; omega
        have hok : m.ok = false := by
          cases e : m.ok with
          | false => rfl
          | true => exact absurd ⟨ht, hr, e⟩ hall
        rw [hok] at m7 hW
        rw [show (Value.bool m.ok) = .bool false from by rw [hok]]
        generalize (c.at k).role = R at *
        generalize (c.at k).term = T at *
        clear hn hbox hGW bW h st HSame ht hr hok hF hall
        go_enter Try.func129, Try.ntmps129
        go_wp2
        go_quiet (fail)
        go_wp2
        go_end0
        exact ⟨rfl, HF.out _⟩
      · have e2 : (((c.at k).role : Int) == 1) = false := by simp; omega
        generalize (c.at k).role = R at *
        generalize (c.at k).term = T at *
        clear hn hbox hGW bW h st HSame ht hr hF hall
        go_enter Try.func129, Try.ntmps129
        go_wp2
        go_quiet (fail)
        go_wp2
        go_end0
        exact ⟨rfl, HF.out _⟩
    · have e1 : ((m.term : Int) == ((c.at k).term : Int)) = false := by simp; omega
      generalize (c.at k).role = R at *
      generalize (c.at k).term = T at *
      clear hn hbox hGW bW h st HSame ht hF hall
      go_enter Try.func129, Try.ntmps129
      go_wp2
      go_quiet (fail)
      go_wp2
      go_end0
      exact ⟨rfl, HF.out _⟩
end Go.Proofs.Ytklkglbimjajnaa.vote
